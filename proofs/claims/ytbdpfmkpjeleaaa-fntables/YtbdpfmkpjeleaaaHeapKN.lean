/- How many keys stand in a row: the count. -/
import Derived.Test.YtbdpfmkpjeleaaaHeapG
import Derived.Test.YtbdpfmkpjeleaaaHeapC
import Derived.Deep.RegionHeld
import Derived.Test.YtbdpfmkpjeleaaaHeapH
import Derived.Test.YtbdpfmkpjeleaaaValR
namespace Go.Proofs.Ytbdpfmkpjeleaaa
open Go.RowKit

def isK (p : Pr) (m : Int) : Bool := p.key.beq ⟨2, m, ⟨#[]⟩⟩
def hasK (ps : List Pr) (m : Int) : Bool := ps.any fun p => isK p m
theorem findV_has (ps : List Pr) (m : Int) : (findV ⟨2, m, ⟨#[]⟩⟩ ps).isSome = hasK ps m := by
  induction ps with
  | nil => rfl
  | cons p ps ih =>
    unfold findV hasK
    rw [List.any_cons]
    by_cases h : p.key.beq ⟨2, m, ⟨#[]⟩⟩ = true
    · rw [if_pos h]; simp [isK, h]
    · rw [if_neg h, ih]; simp only [Bool.not_eq_true] at h; simp [isK, h, hasK]
theorem isK_one {p : Pr} {m n : Int} (h : isK p m = true) (h' : isK p n = true) : m = n := by
  simp [isK, Vl.beq] at h h'
  omega
theorem pig (ps : List Pr) : ∀ (L : List Int), L.Nodup → (∀ x ∈ L, hasK ps x = true) → L.length ≤ ps.length := by
  induction ps with
  | nil =>
    intro L _ h
    cases L with
    | nil => simp
    | cons x L => have := h x (by simp); simp [hasK] at this
  | cons p ps ih =>
    intro L hL h
    by_cases hx : ∃ x ∈ L, isK p x = true
    · obtain ⟨x, hx, hk⟩ := hx
      have h1 := ih (L.erase x) (hL.erase x) (fun y hy => by
        have hy' := List.mem_of_mem_erase hy
        have hne : y ≠ x := fun e => by rw [e] at hy; exact (List.Nodup.not_mem_erase hL) hy
        have := h y hy'
        simp only [hasK, List.any_cons, Bool.or_eq_true] at this
        rcases this with h2 | h2
        · exact absurd (isK_one h2 hk) hne
        · exact h2)
      rw [List.length_erase_of_mem hx] at h1
      have : 0 < L.length := List.length_pos_of_mem hx
      simp only [List.length_cons]; omega
    · have h1 := ih L hL (fun y hy => by
        have := h y hy
        simp only [hasK, List.any_cons, Bool.or_eq_true] at this
        rcases this with h2 | h2
        · exact absurd ⟨y, hy, h2⟩ hx
        · exact h2)
      simp only [List.length_cons]; omega
theorem row_le (ps : List Pr) (n : Nat) (h : ∀ m : Nat, 1 ≤ m → m ≤ n → hasK ps m = true) : n ≤ ps.length := by
  have hnd : ((List.range n).map fun i : Nat => (i : Int) + 1).Nodup := by
    refine List.pairwise_map.2 (List.Pairwise.imp ?_ (List.nodup_range (n := n)))
    intro a b hab e
    exact hab (by omega)
  have h1 := pig ps ((List.range n).map fun i : Nat => (i : Int) + 1) hnd (fun x hx => by
    obtain ⟨i, hi, rfl⟩ := List.mem_map.1 hx
    have := h (i + 1) (by omega) (by have := List.mem_range.1 hi; omega)
    rwa [show ((i + 1 : Nat) : Int) = (i : Int) + 1 by omega] at this)
  simpa using h1
/-- The greatest number up to which all keys are there. -/
structure RowIs (ps : List Pr) (N : Nat) : Prop where
  le : N ≤ ps.length
  all : ∀ m : Nat, 1 ≤ m → m ≤ N → hasK ps m = true
  no : hasK ps ((N : Int) + 1) = false
theorem row_ex (ps : List Pr) : ∃ N, RowIs ps N := by
  have h : ∀ d n : Nat, (∀ m : Nat, 1 ≤ m → m ≤ n → hasK ps m = true) → ps.length < n + d → ∃ N, RowIs ps N := by
    intro d
    induction d with
    | zero => intro n h hd; have := row_le ps n h; omega
    | succ d ih =>
      intro n h hd
      by_cases hn : hasK ps ((n : Int) + 1) = true
      · refine ih (n + 1) (fun m h1 h2 => ?_) (by omega)
        by_cases e : m = n + 1
        · subst e; rwa [show ((n + 1 : Nat) : Int) = (n : Int) + 1 by omega]
        · exact h m h1 (by omega)
      · exact ⟨n, row_le ps n h, h, by simpa using hn⟩
  exact h (ps.length + 1) 0 (fun m h1 h2 => by omega) (by omega)
theorem RowIs.eq {ps : List Pr} {N r : Nat} (h : RowIs ps N) (ha : ∀ m : Nat, 1 ≤ m → m ≤ r → hasK ps m = true) (hn : r = ps.length ∨ hasK ps ((r : Int) + 1) = false) : r = N := by
  rcases Nat.lt_trichotomy r N with hlt | he | hgt
  · rcases hn with hn | hn
    · have := h.le; omega
    · have := h.all (r + 1) (by omega) (by omega)
      rw [show ((r + 1 : Nat) : Int) = (r : Int) + 1 by omega, hn] at this
      cases this
  · exact he
  · have := ha (N + 1) (by omega) (by omega)
    rw [show ((N + 1 : Nat) : Int) = (N : Int) + 1 by omega, h.no] at this
    cases this
end Go.Proofs.Ytbdpfmkpjeleaaa
namespace Go.Proofs.Ytbdpfmkpjeleaaa
open Go.RowKit

theorem info_bool : (Try.prog.info? 4).map (fun i => (i.zero, i.size, i.bytes)) = some (some (.bool false), 1, 1) := by kernel_rfl
theorem has_take (ps : List Pr) (i : Nat) (h : i < ps.length) (m : Int) : hasK (ps.take (i + 1)) m = (hasK (ps.take i) m || isK ps[i] m) := by
  unfold hasK
  rw [List.take_succ_eq_append_getElem h, List.any_append]; simp
theorem isK_at (p : Pr) (q : Int) : isK p q = (isK p p.key.n && decide (p.key.n = q)) := by
  simp only [isK, Vl.beq]
  by_cases h : p.key.n = q
  · subst h; simp
  · simp [h]
theorem mades_bool (n m : Nat) (h : m < n) : (madeCells #[Value.bool false] n)[m]? = some (.bool false) := by
  simp [madeCells, h, Nat.mod_one]

set_option maxRecDepth 100000 in
set_option maxHeartbeats 3200000 in
theorem keys_impl (ps : List Pr) (a : Option Addr) (ca lo hi N : Nat) (w : World) (hh : hi ≤ w.heap.size) (hn : ps.length ≤ 1048576) (hS : PAt w lo hi ps a) (hR : RowIs ps N) :
    Calls Try.prog 81 #[.slice a ps.length ca] w fun e w' => e = .returned (.int .i64 N) ∧ Below w.heap.size w w' := by
  have hmk := run_makeV_n (P := Try.prog) 140 4 _ _ _ Try.underlying140 info_bool .i64 .i64 (ps.length + 1) (by omega) (by omega)
  rw [show ((ps.length + 1 : Nat) : Int) = (ps.length : Int) + 1 by omega] at hmk
  go_enter Try.func81, Try.ntmps81
  go_wp2_with fail
  go_loopw [14] (fun x wr => ∃ (i : Nat) (cs : Array Value), x = .int .i64 i ∧ i ≤ ps.length ∧ wr.heap[w.heap.size]? = some (.cells cs 4 (0, 0)) ∧ cs.size = ps.length + 1 ∧ (∀ m : Nat, 1 ≤ m → m ≤ ps.length → cs[m]? = some (.bool (hasK (ps.take i) m))) ∧ Below w.heap.size w wr) (fun x _ => ps.length - (intOf x).toNat)
  case atStart =>
    refine ⟨0, _, rfl, Nat.zero_le _, heap_alloc_new w _, by simp [size_madeCells], fun m h1 h2 => ?_, bel_alloc w _⟩
    rw [show hasK (ps.take 0) (m : Int) = false by simp [hasK]]
    exact mades_bool _ _ (by omega)
  case round =>
    obtain ⟨i, cs, rfl, hil, hrow, hcs, hall, hbl⟩ := hrel
    by_cases hlt : i < ps.length
    · obtain ⟨hok, g, o, rfl, _, hg, hc⟩ := hS i hlt
      have x0 := (hbl.cell (p := ⟨g, o + 6 * i + 0, none⟩) (by show g < _; omega)).trans (hc 0 (by decide))
      have x1 := (hbl.cell (p := ⟨g, o + 6 * i + 1, none⟩) (by show g < _; omega)).trans (hc 1 (by decide))
      have x2 := (hbl.cell (p := ⟨g, o + 6 * i + 2, none⟩) (by show g < _; omega)).trans (hc 2 (by decide))
      have x3 := (hbl.cell (p := ⟨g, o + 6 * i + 3, none⟩) (by show g < _; omega)).trans (hc 3 (by decide))
      have x4 := (hbl.cell (p := ⟨g, o + 6 * i + 4, none⟩) (by show g < _; omega)).trans (hc 4 (by decide))
      have x5 := (hbl.cell (p := ⟨g, o + 6 * i + 5, none⟩) (by show g < _; omega)).trans (hc 5 (by decide))
      simp only [Pr.cs, List.getElem?_cons_zero, List.getElem?_cons_succ, Nat.add_zero] at x0 x1 x2 x3 x4 x5
      have mc : i * 6 = 6 * i := Nat.mul_comm _ _
      have hwr : w.heap.size < wr.heap.size := (Array.getElem?_eq_some_iff.1 hrow).1
      have HROW : Hid (wr.heap[w.heap.size]? = some (.cells cs 4 (0, 0))) := hrow
      have HALL : Hid (∀ m : Nat, 1 ≤ m → m ≤ ps.length → cs[m]? = some (.bool (hasK (ps.take i) m))) := hall
      have htk := has_take ps i hlt
      have HTK : Hid (∀ m : Int, hasK (ps.take (i + 1)) m = (hasK (ps.take i) m || isK ps[i] m)) := htk
      obtain ⟨p, hp⟩ : ∃ p, p = ps[i] := ⟨_, rfl⟩
      have HTP : Hid (∀ m : Int, hasK (ps.take (i + 1)) m = (hasK (ps.take i) m || isK p m)) := by rw [hp]; exact HTK.out
      rw [← hp] at x0 x1 x2 x3 x4 x5 hok
      clear hc hS hrow hall hp htk HTK hmk
      obtain ⟨⟨k, n, s⟩, ⟨k2, n2, s2⟩⟩ := p
      have hn0 := hok.key.ok.n0
      have hn1 := hok.key.ok.n1
      dsimp only at x0 x1 x2 x3 x4 x5 hn0 hn1
      clear hok
      have HAT : Hid (∀ q : Int, isK ⟨⟨k, n, s⟩, ⟨k2, n2, s2⟩⟩ q = (isK ⟨⟨k, n, s⟩, ⟨k2, n2, s2⟩⟩ n && decide (n = q))) := fun q => isK_at _ q
      go_wp2_with fail
      obtain ⟨W1, hW1⟩ : ∃ W1, W1 = wr.alloc (Obj.cells #[.int .i64 k, .int .i64 n, .string s, .int .i64 k2, .int .i64 n2, .string s2] 61) := ⟨_, rfl⟩
      have r1 : W1.heap[wr.heap.size]? = some (.cells #[.int .i64 k, .int .i64 n, .string s, .int .i64 k2, .int .i64 n2, .string s2] 61 (0, 0)) := by rw [hW1]; exact heap_alloc_new _ _
      have hb1 : Below wr.heap.size wr W1 := by rw [hW1]; exact bel_alloc _ _
      have hl1 : wr.heap.size < W1.heap.size := by rw [hW1]; simp
      rw [← hW1]
      clear hW1 x0 x1 x2 x3 x4 x5
      have p0 := cell_of_row _ _ 0 _ _ _ r1
      have p1 := cell_of_row _ _ 1 _ _ _ r1
      have p2 := cell_of_row _ _ 2 _ _ _ r1
      simp only [List.getElem?_toArray, List.getElem?_cons_zero, List.getElem?_cons_succ] at p0 p1 p2
      have HR1 : Hid (∀ W, Below W1.heap.size W1 W → W.heap[w.heap.size]? = some (.cells cs 4 (0, 0))) := fun W hW => (hW.block _ (by omega)).trans ((hb1.block _ hwr).trans HROW.out)
      clear r1
      have HB1 : Hid (∀ W, Below W1.heap.size W1 W → Below w.heap.size w W) := fun W hW => (hbl.trans (hb1.mono hbl.size)).trans (hW.mono (by have := hbl.size; omega))
      rcases beq_cases ⟨k, n, s⟩ 2 n ⟨#[]⟩ with ⟨hb, he⟩ | ⟨hb, hne⟩
      · simp only [Vl.mk.injEq, true_and] at he
        obtain ⟨rfl, rfl⟩ := he
        have HK : Hid (isK ⟨⟨2, n, ⟨#[]⟩⟩, ⟨k2, n2, s2⟩⟩ n = true) := hb
        clear hb
        by_cases hr : 1 ≤ n ∧ n ≤ (ps.length : Int)
        · obtain ⟨m, rfl⟩ := Int.eq_ofNat_of_zero_le (show 0 ≤ n by omega)
          have hm1 : 1 ≤ m := by omega
          have hm2 : m ≤ ps.length := by omega
          have i0 : (1 : Int) ≤ (m : Int) := hr.1
          have i1 : (m : Int) ≤ (ps.length : Int) := hr.2
          have i2 : (m : Int) < (ps.length : Int) + 1 := by omega
          have i3 : (m : Int) < ((ps.length + 1 : Nat) : Int) := by omega
          clear hr
          go_region_held3 (fun w' => w'.cell? ⟨wr.heap.size, 0, none⟩ = some (.int .i64 2) ∧ w'.cell? ⟨wr.heap.size, 1, none⟩ = some (.int .i64 m) ∧ w'.cell? ⟨wr.heap.size, 2, none⟩ = some (.string ⟨#[]⟩)) (go_keep) (first | (go_at_call 62; refine (int_impl _ _).mono ?_; rintro e w' ⟨rfl, hb'⟩; unfold numB; have hq' := (Below.refl W1.heap.size W1).drew.trans hb'; have y0 := (hq'.cell (p := ⟨wr.heap.size, 0, none⟩) hl1).trans p0; have y1 := (hq'.cell (p := ⟨wr.heap.size, 1, none⟩) hl1).trans p1; have y2 := (hq'.cell (p := ⟨wr.heap.size, 2, none⟩) hl1).trans p2))
          have rT := HR1.out _ hq'
          have fT := frozen_of_row _ _ m _ _ rT
          have eT := (cell_of_row _ _ m _ _ (0, 0) rT).trans (Array.getElem?_eq_getElem (xs := cs) (i := m) (by omega))
          have RT : Hid (w'.heap[w.heap.size]? = some (.cells cs 4 (0, 0))) := rT
          have BT := HB1.out _ hq'
          clear rT
          go_wp2_with fail
          go_roundw
          case rel =>
            refine ⟨i + 1, _, by go_num, by omega, heap_setCell_same _ _ m _ _ (.bool true) RT.out, by simpa using hcs, fun q h1 h2 => ?_, BT.setCell (Nat.le_refl _) _⟩
            rw [HTP.out, HAT.out, HK.out, Array.getElem?_setIfInBounds]
            by_cases hq : m = q
            · subst hq
              rw [if_pos rfl, if_pos (by omega)]; simp
            · rw [if_neg hq, HALL.out q h1 h2]
              have hq' : ¬ (m : Int) = (q : Int) := by omega
              simp [hq']
          case measure => simp [intOf]; omega
        · have hq : ∀ q : Nat, 1 ≤ q → q ≤ ps.length → isK ⟨⟨2, n, ⟨#[]⟩⟩, ⟨k2, n2, s2⟩⟩ (q : Int) = false := fun q h1 h2 => by rw [HAT.out, HK.out]; simp; omega
          have HQ : Hid (∀ q : Nat, 1 ≤ q → q ≤ ps.length → isK ⟨⟨2, n, ⟨#[]⟩⟩, ⟨k2, n2, s2⟩⟩ (q : Int) = false) := hq
          clear hq
          have hr' : n < 1 ∨ (1 ≤ n ∧ (ps.length : Int) < n) := by omega
          clear hr
          rcases hr' with h1 | ⟨h1, h2⟩
          all_goals
            first | (have d1 : decide (1 ≤ n) = false := decide_eq_false (by omega)) | (have d1 : decide (1 ≤ n) = true := decide_eq_true (by omega); have d2 : decide (n ≤ (ps.length : Int)) = false := decide_eq_false (by omega))
            first | (go_region_held (fun w' => w'.cell? ⟨wr.heap.size, 0, none⟩ = some (.int .i64 2) ∧ w'.cell? ⟨wr.heap.size, 1, none⟩ = some (.int .i64 n) ∧ w'.cell? ⟨wr.heap.size, 2, none⟩ = some (.string ⟨#[]⟩)) (go_keep) (first | (go_at_call 62; refine (int_impl _ _).mono ?_; rintro e w' ⟨rfl, hb'⟩; unfold numB; have hq' := (Below.refl W1.heap.size W1).drew.trans hb'; have y0 := (hq'.cell (p := ⟨wr.heap.size, 0, none⟩) hl1).trans p0; have y1 := (hq'.cell (p := ⟨wr.heap.size, 1, none⟩) hl1).trans p1; have y2 := (hq'.cell (p := ⟨wr.heap.size, 2, none⟩) hl1).trans p2))) | fail
            all_goals
              go_wp2_with fail
              go_roundw
              case rel => exact ⟨i + 1, cs, by go_num, by omega, HR1.out _ hq', hcs, fun q h1 h2 => by rw [HTP.out, HQ.out q h1 h2, Bool.or_false]; exact HALL.out q h1 h2, HB1.out _ hq'⟩
              case measure => simp [intOf]; omega
      · have hq : ∀ q : Int, isK ⟨⟨k, n, s⟩, ⟨k2, n2, s2⟩⟩ q = false := fun q => by rw [HAT.out]; rw [show isK ⟨⟨k, n, s⟩, ⟨k2, n2, s2⟩⟩ n = false from hb]; rfl
        have HQ : Hid (∀ q : Int, isK ⟨⟨k, n, s⟩, ⟨k2, n2, s2⟩⟩ q = false) := hq
        clear hq hb
        rcases hne with h1 | ⟨h1, h2⟩ | ⟨h1, h2, h3⟩
        · dsimp only at h1
          have h2 : (k == 2) = false := by simpa using h1
          have h3 : decide (k = 2) = false := by simpa using h1
          first | (go_region_held (fun w' => w'.cell? ⟨wr.heap.size, 0, none⟩ = some (.int .i64 k) ∧ w'.cell? ⟨wr.heap.size, 1, none⟩ = some (.int .i64 n) ∧ w'.cell? ⟨wr.heap.size, 2, none⟩ = some (.string s)) (go_keep) (first | (go_at_call 62; refine (int_impl _ _).mono ?_; rintro e w' ⟨rfl, hb'⟩; unfold numB; have hq' := (Below.refl W1.heap.size W1).drew.trans hb'; have y0 := (hq'.cell (p := ⟨wr.heap.size, 0, none⟩) hl1).trans p0; have y1 := (hq'.cell (p := ⟨wr.heap.size, 1, none⟩) hl1).trans p1; have y2 := (hq'.cell (p := ⟨wr.heap.size, 2, none⟩) hl1).trans p2))) | fail
          all_goals
            go_wp2_with fail
            go_roundw
            case rel => exact ⟨i + 1, cs, by go_num, by omega, HR1.out _ hq', hcs, fun q h1 h2 => by rw [HTP.out, HQ.out, Bool.or_false]; exact HALL.out q h1 h2, HB1.out _ hq'⟩
            case measure => simp [intOf]; omega
        · exact absurd rfl h2
        · dsimp only at h1 h3
          subst h1
          have h4 : ¬ s.toList = [] := by simpa [ByteArray.toList_eq] using h3
          have h5 : (s.toList == []) = false := by simpa using h4
          first | (go_region_held (fun w' => w'.cell? ⟨wr.heap.size, 0, none⟩ = some (.int .i64 2) ∧ w'.cell? ⟨wr.heap.size, 1, none⟩ = some (.int .i64 n) ∧ w'.cell? ⟨wr.heap.size, 2, none⟩ = some (.string s)) (go_keep) (first | (go_at_call 62; refine (int_impl _ _).mono ?_; rintro e w' ⟨rfl, hb'⟩; unfold numB; have hq' := (Below.refl W1.heap.size W1).drew.trans hb'; have y0 := (hq'.cell (p := ⟨wr.heap.size, 0, none⟩) hl1).trans p0; have y1 := (hq'.cell (p := ⟨wr.heap.size, 1, none⟩) hl1).trans p1; have y2 := (hq'.cell (p := ⟨wr.heap.size, 2, none⟩) hl1).trans p2))) | fail
          all_goals
            go_wp2_with fail
            go_roundw
            case rel => exact ⟨i + 1, cs, by go_num, by omega, HR1.out _ hq', hcs, fun q h1 h2 => by rw [HTP.out, HQ.out, Bool.or_false]; exact HALL.out q h1 h2, HB1.out _ hq'⟩
            case measure => simp [intOf]; omega
    · obtain rfl : i = ps.length := by omega
      rw [List.take_length] at hall
      have HALL : Hid (∀ m : Nat, 1 ≤ m → m ≤ ps.length → cs[m]? = some (.bool (hasK ps m))) := hall
      clear hall hS hmk
      have hwr : w.heap.size < wr.heap.size := (Array.getElem?_eq_some_iff.1 hrow).1
      go_wp2_with fail
      go_loopw [7] (fun x wl => ∃ r : Nat, x = .int .i64 r ∧ r ≤ ps.length ∧ wl = wr ∧ ∀ m : Nat, 1 ≤ m → m ≤ r → hasK ps m = true) (fun x _ => ps.length - (intOf x).toNat)
      case atStart => exact ⟨0, rfl, Nat.zero_le _, rfl, fun m h1 h2 => by omega⟩
      case round =>
        obtain ⟨r, rfl, hrl, rfl, hrs⟩ := hrel
        have HRS : Hid (∀ m : Nat, 1 ≤ m → m ≤ r → hasK ps m = true) := hrs
        clear hrs
        by_cases hlt : r < ps.length
        · have hc := (cell_of_row _ _ (r + 1) _ _ (0, 0) hrow).trans (HALL.out (r + 1) (by omega) (by omega))
          rw [show ((r + 1 : Nat) : Int) = (r : Int) + 1 by omega] at hc
          obtain ⟨b, hb⟩ : ∃ b, hasK ps ((r : Int) + 1) = b := ⟨_, rfl⟩
          rw [hb] at hc
          have HB : Hid (hasK ps ((r : Int) + 1) = b) := hb
          have i0 : (0 : Int) ≤ (r : Int) + 1 := by omega
          have i1 : (r : Int) + 1 < (ps.length : Int) + 1 := by omega
          have i2 : (r : Int) + 1 < ((ps.length + 1 : Nat) : Int) := by omega
          have d1 : decide ((r : Int) < (ps.length : Int)) = true := decide_eq_true (by omega)
          clear hb hrow
          cases b
          · go_wp2_with fail
            go_ret
            exact ⟨ret_int (by rw [hR.eq HRS.out (.inr HB.out)]), hbl⟩
          · go_wp2_with fail
            go_roundw
            case rel => exact ⟨r + 1, by go_num, by omega, trivial, fun m h1 h2 => by
              by_cases hm : m = r + 1
              · subst hm; rw [show ((r + 1 : Nat) : Int) = (r : Int) + 1 by omega]; exact HB.out
              · exact HRS.out m h1 (by omega)⟩
            case measure => simp [intOf]; omega
        · obtain rfl : r = ps.length := by omega
          clear hrow
          have d1 : decide ((ps.length : Int) < (ps.length : Int)) = false := decide_eq_false (by omega)
          go_wp2_with fail
          go_ret
          exact ⟨ret_int (by rw [hR.eq HRS.out (.inl rfl)]), hbl⟩
end Go.Proofs.Ytbdpfmkpjeleaaa
namespace Go.Proofs.Ytbdpfmkpjeleaaa
open Go.RowKit

def lenR (tl : Nat) (k n : Int) (s : ByteArray) (N : Nat) : Int × Bool := if k = 3 then ((s.size : Int), true) else if tabB tl k n = true then ((N : Int), true) else (0, false)
set_option maxRecDepth 100000 in
set_option maxHeartbeats 1600000 in
theorem length_impl (h : Hp) (a b : Option Addr) (ca cb lo hi N : Nat) (k n : Int) (s : ByteArray) (w : World) (hh : hi ≤ w.heap.size) (hT : TAt w lo hi h.ts a) (hwt : h.wt ≤ 1048576) (hR : tabB h.ts.length k n = true → RowIs (h.ts[n.toNat]?.getD []) N) :
    Calls Try.prog 63 #[.agg #[.slice a h.ts.length ca, .slice b h.vs.length cb], .agg #[.int .i64 k, .int .i64 n, .string s]] w fun e w' => e = .returned (.tuple #[.int .i64 (lenR h.ts.length k n s N).1, .bool (lenR h.ts.length k n s N).2]) ∧ Below w.heap.size w w' := by
  obtain ⟨W0, hW0⟩ : ∃ W0, W0 = (w.alloc (Obj.cells #[.slice a h.ts.length ca, .slice b h.vs.length cb] 30)).alloc (Obj.cells #[.int .i64 k, .int .i64 n, .string s] 32) := ⟨_, rfl⟩
  obtain ⟨rA, rB, hs0, B0⟩ := rows2 w (Obj.cells #[.slice a h.ts.length ca, .slice b h.vs.length cb] 30) (Obj.cells #[.int .i64 k, .int .i64 n, .string s] 32)
  rw [← hW0] at rA rB hs0 B0
  have carryF : ∀ W, Below W0.heap.size W0 W → W.cell? ⟨w.heap.size, 0, none⟩ = some (.slice a h.ts.length ca) ∧ W.cell? ⟨w.heap.size, 1, none⟩ = some (.slice b h.vs.length cb) ∧ W.cell? ⟨w.heap.size + 1, 0, none⟩ = some (.int .i64 k) ∧ W.cell? ⟨w.heap.size + 1, 1, none⟩ = some (.int .i64 n) ∧ W.cell? ⟨w.heap.size + 1, 2, none⟩ = some (.string s) := fun W hW => by
    have q1 := (hW.block w.heap.size (by omega)).trans rA
    have q2 := (hW.block (w.heap.size + 1) (by omega)).trans rB
    exact ⟨cell_of_row _ _ 0 _ _ _ q1, cell_of_row _ _ 1 _ _ _ q1, cell_of_row _ _ 0 _ _ _ q2, cell_of_row _ _ 1 _ _ _ q2, cell_of_row _ _ 2 _ _ _ q2⟩
  have CF : Hid (∀ W, Below W0.heap.size W0 W → W.cell? ⟨w.heap.size, 0, none⟩ = some (.slice a h.ts.length ca) ∧ W.cell? ⟨w.heap.size, 1, none⟩ = some (.slice b h.vs.length cb) ∧ W.cell? ⟨w.heap.size + 1, 0, none⟩ = some (.int .i64 k) ∧ W.cell? ⟨w.heap.size + 1, 1, none⟩ = some (.int .i64 n) ∧ W.cell? ⟨w.heap.size + 1, 2, none⟩ = some (.string s)) := carryF
  clear carryF rA rB
  by_cases h3 : k = 3
  · subst h3
    have ha := fun w => as_text 3 n s w
    simp only [if_true] at ha
    go_enter Try.func63, Try.ntmps63
    go_wp2_with fail
    refine (datum_any 3 n s _).mono ?_
    rw [← hW0]
    rintro e w1 ⟨rfl, hb1⟩
    have B1 := B0.trans (hb1.mono B0.size)
    clear hW0
    go_wp2_with fail
    go_ret2
    exact ⟨ret_val (by simp [lenR]), B1⟩
  · have h3' : (k == 3) = false := by simpa using h3
    have ha := fun w => as_text k n s w
    simp only [h3, h3', if_false] at ha
    obtain ⟨tb, htb⟩ : ∃ tb, tabB h.ts.length k n = tb := ⟨_, rfl⟩
    have HTB : Hid (∀ W, Calls Try.prog 51 #[.agg #[.slice a h.ts.length ca, .slice b h.vs.length cb], .agg #[.int .i64 k, .int .i64 n, .string s]] W fun e w' => e = .returned (.bool tb) ∧ Below W.heap.size W w') := fun W => htb ▸ has_any a b h.ts.length ca h.vs.length cb k n s W
    cases tb
    · go_enter Try.func63, Try.ntmps63
      go_wp2_with fail
      refine (datum_any k n s _).mono ?_
      rw [← hW0]
      rintro e w1 ⟨rfl, hb1⟩
      obtain ⟨c0, c1, c2, c3, c4⟩ := CF.out _ hb1
      clear hW0
      go_wp2_with fail
      refine (HTB.out _).mono ?_
      rintro e w2 ⟨rfl, hb2⟩
      have Q2 := hb1.trans (hb2.mono hb1.size)
      have B2 := B0.trans (Q2.mono B0.size)
      go_wp2_with fail
      go_ret2
      exact ⟨ret_val (by simp [lenR, h3, htb]), B2⟩
    · obtain ⟨rfl, hn0, hn1⟩ : k = 4 ∧ 0 ≤ n ∧ n < (h.ts.length : Int) := by simpa [tabB] using htb
      obtain ⟨i, rfl⟩ := Int.eq_ofNat_of_zero_le hn0
      have hi1 : i < h.ts.length := by omega
      have hRow := hR htb
      rw [show ((i : Int)).toNat = i by omega, List.getElem?_eq_getElem hi1, Option.getD_some] at hRow
      obtain ⟨hlt, g, o, pb, pcb, rfl, _, hg, hcell, hP⟩ := hT i hi1
      have hwm := wtT_mem h.ts i hi1
      have hlw : wtT h.ts ≤ h.wt := by unfold Hp.wt; omega
      have HK : Hid (∀ W, Below W0.heap.size W0 W → Calls Try.prog 81 #[.slice pb h.ts[i].length pcb] W fun e w' => e = .returned (.int .i64 N) ∧ Below W.heap.size W w') := fun W hW => keys_impl h.ts[i] pb pcb lo hi N W (by have := hW.size; have := B0.size; omega) (by omega) ((hP.below B0 hh).below hW (by have := B0.size; omega)) hRow
      have y0 := (B0.cell (p := ⟨g, o + i, none⟩) (by show g < _; omega)).trans hcell
      have hgl : g < W0.heap.size := by have := B0.size; omega
      clear hP hcell hT hR hwm hlt hRow
      generalize h.ts[i] = t at *
      go_enter Try.func63, Try.ntmps63
      go_wp2_with fail
      refine (datum_any 4 i s _).mono ?_
      rw [← hW0]
      rintro e w1 ⟨rfl, hb1⟩
      obtain ⟨c0, c1, c2, c3, c4⟩ := CF.out _ hb1
      clear hW0
      go_wp2_with fail
      refine (HTB.out _).mono ?_
      rintro e w2 ⟨rfl, hb2⟩
      have Q2 := hb1.trans (hb2.mono hb1.size)
      clear c0 c1 c2 c3 c4
      obtain ⟨c0, c1, c2, c3, c4⟩ := CF.out _ Q2
      go_wp2_with fail
      refine (pairs_any g o h.ts.length ca h.vs.length cb i b s _ hi1).mono ?_
      rintro e w3 ⟨rfl, hb3⟩
      have Q3 := Q2.trans (hb3.mono Q2.size)
      have y3 := (Q3.cell (p := ⟨g, o + i, none⟩) hgl).trans y0
      go_wp2_with fail
      refine (HK.out _ Q3).mono ?_
      rintro e w4 ⟨rfl, hb4⟩
      have Q4 := Q3.trans (hb4.mono Q3.size)
      have B4 := B0.trans (Q4.mono B0.size)
      go_wp2_with fail
      go_ret2
      exact ⟨ret_val (by simp [lenR, htb]), B4⟩

/-- The answer of Unary, by the count of the table at hand. -/
def unV (op : ByteArray) (tl : Nat) (k n : Int) (s : ByteArray) (N : Nat) : Value :=
  if (op.toList == [110, 111, 116]) = true then .tuple #[.agg #[.int .i64 1, .int .i64 (if !truthB k n then 1 else 0), .string ⟨#[]⟩], .string ⟨#[]⟩] else
  if (op.toList == [45]) = true then (if k = 2 then .tuple #[.agg #[.int .i64 2, .int .i64 (wrap64 (-n)), .string ⟨#[]⟩], .string ⟨#[]⟩] else .tuple #[nilB, .string ⟨#[97, 114, 105, 116, 104]⟩]) else
  if (op.toList == [35]) = true then (if (lenR tl k n s N).2 = true then .tuple #[.agg #[.int .i64 2, .int .i64 (lenR tl k n s N).1, .string ⟨#[]⟩], .string ⟨#[]⟩] else .tuple #[nilB, .string ⟨#[108, 101, 110, 103, 116, 104]⟩]) else
  .tuple #[nilB, .string ⟨#[117, 110, 97, 114, 121]⟩]
end Go.Proofs.Ytbdpfmkpjeleaaa
namespace Go.Proofs.Ytbdpfmkpjeleaaa
open Go.RowKit

theorem boolI_any (b : Bool) (w : World) : Calls Try.prog 60 #[.bool b] w fun e w' => e = .returned (.agg #[.int .i64 1, .int .i64 (if b then 1 else 0), .string ⟨#[]⟩]) ∧ Below w.heap.size w w' := by
  cases b
  · go_enter Try.func60, Try.ntmps60
    go_wp2
    exact bodyPost_ret (v := .agg #[.int .i64 1, .int .i64 0, .string ⟨#[]⟩]) (by simp [results, Try.results60, go_sem]) rfl ⟨rfl, by repeat (first | exact Below.refl _ _ | refine Below.setCell ?_ (by simp <;> omega) _ | refine Below.alloc ?_ (by simp <;> omega) _)⟩
  · go_enter Try.func60, Try.ntmps60
    go_wp2
    exact bodyPost_ret (v := .agg #[.int .i64 1, .int .i64 1, .string ⟨#[]⟩]) (by simp [results, Try.results60, go_sem]) rfl ⟨rfl, by repeat (first | exact Below.refl _ _ | refine Below.setCell ?_ (by simp <;> omega) _ | refine Below.alloc ?_ (by simp <;> omega) _)⟩
theorem boolS_any (b : Bool) (w : World) : Calls Try.prog 64 #[.bool b] w fun e w' => e = .returned (.agg #[.int .i64 1, .int .i64 (if b then 1 else 0), .string ⟨#[]⟩]) ∧ Below w.heap.size w w' := by
  cases b
  · go_enter Try.func64, Try.ntmps64
    go_wp2
    exact bodyPost_ret (v := .agg #[.int .i64 1, .int .i64 0, .string ⟨#[]⟩]) (by simp [results, Try.results64, go_sem]) rfl ⟨rfl, by repeat (first | exact Below.refl _ _ | refine Below.setCell ?_ (by simp <;> omega) _ | refine Below.alloc ?_ (by simp <;> omega) _)⟩
  · go_enter Try.func64, Try.ntmps64
    go_wp2
    exact bodyPost_ret (v := .agg #[.int .i64 1, .int .i64 1, .string ⟨#[]⟩]) (by simp [results, Try.results64, go_sem]) rfl ⟨rfl, by repeat (first | exact Below.refl _ _ | refine Below.setCell ?_ (by simp <;> omega) _ | refine Below.alloc ?_ (by simp <;> omega) _)⟩
set_option maxRecDepth 100000 in
set_option maxHeartbeats 1600000 in
theorem un_impl (op : ByteArray) (h : Hp) (a b : Option Addr) (ca cb lo hi N : Nat) (k n : Int) (s : ByteArray) (w : World) (hh : hi ≤ w.heap.size) (hT : TAt w lo hi h.ts a) (hwt : h.wt ≤ 1048576) (hR : tabB h.ts.length k n = true → RowIs (h.ts[n.toNat]?.getD []) N) :
    Calls Try.prog 26 #[.string op, .agg #[.slice a h.ts.length ca, .slice b h.vs.length cb], .agg #[.int .i64 k, .int .i64 n, .string s]] w fun e w' => e = .returned (unV op h.ts.length k n s N) ∧ Below w.heap.size w w' := by
  obtain ⟨W0, hW0⟩ : ∃ W0, W0 = ((w.alloc (Obj.cells #[.slice a h.ts.length ca, .slice b h.vs.length cb] 30)).alloc (Obj.cells #[.int .i64 k, .int .i64 n, .string s] 32)).alloc (Obj.cells #[.int .i64 0, .int .i64 0, .string ⟨#[]⟩] 32) := ⟨_, rfl⟩
  obtain ⟨rA, rB, rZ, hs0, B0⟩ := rows3 w (Obj.cells #[.slice a h.ts.length ca, .slice b h.vs.length cb] 30) (Obj.cells #[.int .i64 k, .int .i64 n, .string s] 32) (Obj.cells #[.int .i64 0, .int .i64 0, .string ⟨#[]⟩] 32)
  rw [← hW0] at rA rB rZ hs0 B0
  have CF : Hid (∀ W, Below W0.heap.size W0 W → W.cell? ⟨w.heap.size, 0, none⟩ = some (.slice a h.ts.length ca) ∧ W.cell? ⟨w.heap.size, 1, none⟩ = some (.slice b h.vs.length cb) ∧ W.cell? ⟨w.heap.size + 1, 0, none⟩ = some (.int .i64 k) ∧ W.cell? ⟨w.heap.size + 1, 1, none⟩ = some (.int .i64 n) ∧ W.cell? ⟨w.heap.size + 1, 2, none⟩ = some (.string s) ∧ W.frozen? ⟨w.heap.size + 1 + 1, 0, none⟩ = false ∧ W.frozen? ⟨w.heap.size + 1 + 1, 1, none⟩ = false ∧ W.frozen? ⟨w.heap.size + 1 + 1, 2, none⟩ = false ∧ W.cell? ⟨w.heap.size + 1 + 1, 0, none⟩ = some (.int .i64 0) ∧ W.cell? ⟨w.heap.size + 1 + 1, 1, none⟩ = some (.int .i64 0) ∧ W.cell? ⟨w.heap.size + 1 + 1, 2, none⟩ = some (.string ⟨#[]⟩)) := fun W hW => by
    have q1 := (hW.block w.heap.size (by omega)).trans rA
    have q2 := (hW.block (w.heap.size + 1) (by omega)).trans rB
    have q3 := (hW.block (w.heap.size + 1 + 1) (by omega)).trans rZ
    exact ⟨cell_of_row _ _ 0 _ _ _ q1, cell_of_row _ _ 1 _ _ _ q1, cell_of_row _ _ 0 _ _ _ q2, cell_of_row _ _ 1 _ _ _ q2, cell_of_row _ _ 2 _ _ _ q2, rowZ' q3⟩
  clear rA rB rZ
  by_cases h1 : (op.toList == [110, 111, 116]) = true
  · obtain ⟨tv, htv⟩ : ∃ tv, truthB k n = tv := ⟨_, rfl⟩
    have HTR : Hid (∀ W, Calls Try.prog 61 #[.agg #[.int .i64 k, .int .i64 n, .string s]] W fun e w' => e = .returned (.bool tv) ∧ Below W.heap.size W w') := fun W => htv ▸ truth_impl k n s W
    have HV : Hid (unV op h.ts.length k n s N = .tuple #[.agg #[.int .i64 1, .int .i64 (if !tv then 1 else 0), .string ⟨#[]⟩], .string ⟨#[]⟩]) := by show _ = _; unfold unV; rw [if_pos h1, htv]
    clear htv
    cases tv
    · go_enter Try.func26, Try.ntmps26
      go_wp2_with fail
      refine (HTR.out _).mono ?_
      rw [← hW0]
      clear hW0
      rintro e w1 ⟨rfl, hb1⟩
      have Q1 : Below W0.heap.size W0 w1 := hb1
      have B1 := B0.trans (Q1.mono B0.size)
      obtain ⟨c0, c1, c2, c3, c4, f0, f1, f2, z0, z1, z2⟩ := CF.out _ Q1
      go_wp2_with fail
      refine (boolI_any _ _).mono ?_
      rintro e w2 ⟨rfl, hb2⟩
      have Q2 : Below W0.heap.size W0 w2 := Q1.trans (hb2.mono Q1.size)
      have B2 := B0.trans (Q2.mono B0.size)
      clear c0 c1 c2 c3 c4 f0 f1 f2 z0 z1 z2
      obtain ⟨c0, c1, c2, c3, c4, f0, f1, f2, z0, z1, z2⟩ := CF.out _ Q2
      go_wp2_with fail
      exact bodyPost_ret (v := .tuple #[.agg #[.int .i64 1, .int .i64 1, .string ⟨#[]⟩], .string ⟨#[]⟩]) (by simp [results, Try.results26, go_sem, *]) rfl ⟨ret_val (by rw [HV.out]; rfl), by repeat (first | (with_reducible exact B2) | (with_reducible refine Below.drew ?_) | (with_reducible refine Below.setCell ?_ (by show w.heap.size ≤ w.heap.size + 1 + 1; omega) _))⟩
    · go_enter Try.func26, Try.ntmps26
      go_wp2_with fail
      refine (HTR.out _).mono ?_
      rw [← hW0]
      clear hW0
      rintro e w1 ⟨rfl, hb1⟩
      have Q1 : Below W0.heap.size W0 w1 := hb1
      have B1 := B0.trans (Q1.mono B0.size)
      obtain ⟨c0, c1, c2, c3, c4, f0, f1, f2, z0, z1, z2⟩ := CF.out _ Q1
      go_wp2_with fail
      refine (boolI_any _ _).mono ?_
      rintro e w2 ⟨rfl, hb2⟩
      have Q2 : Below W0.heap.size W0 w2 := Q1.trans (hb2.mono Q1.size)
      have B2 := B0.trans (Q2.mono B0.size)
      clear c0 c1 c2 c3 c4 f0 f1 f2 z0 z1 z2
      obtain ⟨c0, c1, c2, c3, c4, f0, f1, f2, z0, z1, z2⟩ := CF.out _ Q2
      go_wp2_with fail
      exact bodyPost_ret (v := .tuple #[.agg #[.int .i64 1, .int .i64 0, .string ⟨#[]⟩], .string ⟨#[]⟩]) (by simp [results, Try.results26, go_sem, *]) rfl ⟨ret_val (by rw [HV.out]; rfl), by repeat (first | (with_reducible exact B2) | (with_reducible refine Below.drew ?_) | (with_reducible refine Below.setCell ?_ (by show w.heap.size ≤ w.heap.size + 1 + 1; omega) _))⟩
  · simp only [Bool.not_eq_true] at h1
    by_cases h2 : (op.toList == [45]) = true
    · by_cases hk : k = 2
      · subst hk
        have ha := fun w => as_int 2 n s w
        simp only [if_true] at ha
        go_enter Try.func26, Try.ntmps26
        go_wp2_with fail
        refine (datum_any 2 n s _).mono ?_
        rw [← hW0]
        clear hW0
        rintro e w1 ⟨rfl, hb1⟩
        have Q1 : Below W0.heap.size W0 w1 := hb1
        have B1 := B0.trans (Q1.mono B0.size)
        obtain ⟨c0, c1, c2, c3, c4, f0, f1, f2, z0, z1, z2⟩ := CF.out _ Q1
        go_wp2_with fail
        refine (int_impl _ _).mono ?_
        rintro e w2 ⟨rfl, hb2⟩
        unfold numB
        have Q2 : Below W0.heap.size W0 w2 := Q1.trans (hb2.mono Q1.size)
        have B2 := B0.trans (Q2.mono B0.size)
        clear c0 c1 c2 c3 c4 f0 f1 f2 z0 z1 z2
        obtain ⟨c0, c1, c2, c3, c4, f0, f1, f2, z0, z1, z2⟩ := CF.out _ Q2
        go_wp2_with fail
        exact bodyPost_ret (v := .tuple #[.agg #[.int .i64 2, .int .i64 (wrap64 (-n)), .string ⟨#[]⟩], .string ⟨#[]⟩]) (by simp [results, Try.results26, go_sem, *]) rfl ⟨ret_val (by unfold unV; rw [if_neg (by simp [h1]), if_pos h2, if_pos rfl]), by repeat (first | (with_reducible exact B2) | (with_reducible refine Below.drew ?_) | (with_reducible refine Below.setCell ?_ (by show w.heap.size ≤ w.heap.size + 1 + 1; omega) _))⟩
      · have hk' : (k == 2) = false := by simpa using hk
        have ha := fun w => as_int k n s w
        simp only [hk, hk', if_false] at ha
        go_enter Try.func26, Try.ntmps26
        go_wp2_with fail
        refine (datum_any k n s _).mono ?_
        rw [← hW0]
        clear hW0
        rintro e w1 ⟨rfl, hb1⟩
        have Q1 : Below W0.heap.size W0 w1 := hb1
        have B1 := B0.trans (Q1.mono B0.size)
        obtain ⟨c0, c1, c2, c3, c4, f0, f1, f2, z0, z1, z2⟩ := CF.out _ Q1
        go_wp2_with fail
        exact bodyPost_ret (v := .tuple #[.agg #[.int .i64 0, .int .i64 0, .string ⟨#[]⟩], .string ⟨#[97, 114, 105, 116, 104]⟩]) (by simp [results, Try.results26, go_sem, *]) rfl ⟨ret_val (by unfold unV; rw [if_neg (by simp [h1]), if_pos h2, if_neg hk]; rfl), by repeat (first | (with_reducible exact B1) | (with_reducible refine Below.drew ?_) | (with_reducible refine Below.setCell ?_ (by show w.heap.size ≤ w.heap.size + 1 + 1; omega) _))⟩
    · simp only [Bool.not_eq_true] at h2
      by_cases h3 : (op.toList == [35]) = true
      · obtain ⟨x, ok, hL⟩ : ∃ x ok, lenR h.ts.length k n s N = (x, ok) := ⟨_, _, rfl⟩
        have HL : Hid (∀ W, Below W0.heap.size W0 W → Calls Try.prog 63 #[.agg #[.slice a h.ts.length ca, .slice b h.vs.length cb], .agg #[.int .i64 k, .int .i64 n, .string s]] W fun e w' => e = .returned (.tuple #[.int .i64 x, .bool ok]) ∧ Below W.heap.size W w') := fun W hW => by
          have hx := length_impl h a b ca cb lo hi N k n s W (by have := hW.size; have := B0.size; omega) ((hT.below B0 hh).below hW (by have := B0.size; omega)) hwt hR
          rw [hL] at hx
          exact hx
        have HV : Hid (unV op h.ts.length k n s N = if ok = true then .tuple #[.agg #[.int .i64 2, .int .i64 x, .string ⟨#[]⟩], .string ⟨#[]⟩] else .tuple #[nilB, .string ⟨#[108, 101, 110, 103, 116, 104]⟩]) := by show _ = _; unfold unV; rw [if_neg (by simp [h1]), if_neg (by simp [h2]), if_pos h3, hL]
        clear hL hT hR
        go_enter Try.func26, Try.ntmps26
        go_wp2_with fail
        refine (HL.out _ (by rw [← hW0]; exact Below.refl _ _)).mono ?_
        rw [← hW0]
        clear hW0
        rintro e w1 ⟨rfl, hb1⟩
        have Q1 : Below W0.heap.size W0 w1 := hb1
        have B1 := B0.trans (Q1.mono B0.size)
        obtain ⟨c0, c1, c2, c3, c4, f0, f1, f2, z0, z1, z2⟩ := CF.out _ Q1
        cases ok
        · go_wp2_with fail
          exact bodyPost_ret (v := .tuple #[.agg #[.int .i64 0, .int .i64 0, .string ⟨#[]⟩], .string ⟨#[108, 101, 110, 103, 116, 104]⟩]) (by simp [results, Try.results26, go_sem, *]) rfl ⟨ret_val (by rw [HV.out]; rfl), by repeat (first | (with_reducible exact B1) | (with_reducible refine Below.drew ?_) | (with_reducible refine Below.setCell ?_ (by show w.heap.size ≤ w.heap.size + 1 + 1; omega) _))⟩
        · skip
          go_wp2_with fail
          refine (int_impl _ _).mono ?_
          rintro e w2 ⟨rfl, hb2⟩
          unfold numB
          have Q2 : Below W0.heap.size W0 w2 := Q1.trans (hb2.mono Q1.size)
          have B2 := B0.trans (Q2.mono B0.size)
          clear c0 c1 c2 c3 c4 f0 f1 f2 z0 z1 z2
          obtain ⟨c0, c1, c2, c3, c4, f0, f1, f2, z0, z1, z2⟩ := CF.out _ Q2
          go_wp2_with fail
          exact bodyPost_ret (v := .tuple #[.agg #[.int .i64 2, .int .i64 x, .string ⟨#[]⟩], .string ⟨#[]⟩]) (by simp [results, Try.results26, go_sem, *]) rfl ⟨ret_val (by rw [HV.out]; rfl), by repeat (first | (with_reducible exact B2) | (with_reducible refine Below.drew ?_) | (with_reducible refine Below.setCell ?_ (by show w.heap.size ≤ w.heap.size + 1 + 1; omega) _))⟩
      · simp only [Bool.not_eq_true] at h3
        go_enter Try.func26, Try.ntmps26
        go_wp2_with fail
        exact bodyPost_ret (v := .tuple #[.agg #[.int .i64 0, .int .i64 0, .string ⟨#[]⟩], .string ⟨#[117, 110, 97, 114, 121]⟩]) (by simp [results, Try.results26, go_sem]) rfl ⟨ret_val (by unfold unV; rw [if_neg (by simp [h1]), if_neg (by simp [h2]), if_neg (by simp [h3])]; rfl), by repeat (first | exact Below.refl _ _ | refine Below.setCell ?_ (by simp <;> omega) _ | refine Below.alloc ?_ (by simp <;> omega) _)⟩
end Go.Proofs.Ytbdpfmkpjeleaaa
