/- How many keys stand in a row: the program's count. -/
import Derived.Test.YtjeoeijbgkfpjaaHeapK
import Derived.Test.YtjeoeijbgkfpjaaHeapC
import Derived.Deep.RegionHeld
namespace Go.Proofs.Ytjeoeijbgkfpjaa
open Go.RowKit

theorem info_bool : (Try.prog.info? 4).map (fun i => (i.zero, i.size, i.bytes)) = some (some (.bool false), 1, 1) := by kernel_rfl
theorem has_take (ps : List Pr) (i : Nat) (h : i < ps.length) (m : Int) : hasK (ps.take (i + 1)) m = (hasK (ps.take i) m || isK ps[i] m) := by
  unfold hasK
  rw [List.take_succ_eq_append_getElem h, List.any_append]; simp
theorem isK_at (p : Pr) (q : Int) : isK p q = (isK p p.key.n && decide (p.key.n = q)) := by
  simp only [isK, Vl.beq]
  by_cases h : p.key.n = q
  · subst h; simp
  · simp [h]
theorem mades_bool (n m : Nat) (h : m < n) : (madeCells #[Value.bool false] n)[m]? = some (.bool false) := by
  simp [madeCells, h, Nat.mod_one]

set_option maxRecDepth 100000 in
set_option maxHeartbeats 3200000 in
theorem keys_impl (ps : List Pr) (a : Option Addr) (ca lo hi N : Nat) (w : World) (hh : hi ≤ w.heap.size) (hn : ps.length ≤ 1048576) (hS : PAt w lo hi ps a) (hR : RowIs ps N) :
    Calls Try.prog 84 #[.slice a ps.length ca] w fun e w' => e = .returned (.int .i64 N) ∧ Below w.heap.size w w' := by
  have hmk := run_makeV_n (P := Try.prog) 142 4 _ _ _ Try.underlying142 info_bool .i64 .i64 (ps.length + 1) (by omega) (by omega)
  rw [show ((ps.length + 1 : Nat) : Int) = (ps.length : Int) + 1 by omega] at hmk
  go_enter Try.func84, Try.ntmps84
  go_wp2_with fail
  go_loopw [14] (fun x wr => ∃ (i : Nat) (cs : Array Value), x = .int .i64 i ∧ i ≤ ps.length ∧ wr.heap[w.heap.size]? = some (.cells cs 4 (0, 0)) ∧ cs.size = ps.length + 1 ∧ (∀ m : Nat, 1 ≤ m → m ≤ ps.length → cs[m]? = some (.bool (hasK (ps.take i) m))) ∧ Below w.heap.size w wr) (fun x _ => ps.length - (intOf x).toNat)
  case atStart =>
    refine ⟨0, _, rfl, Nat.zero_le _, heap_alloc_new w _, by simp [size_madeCells], fun m h1 h2 => ?_, bel_alloc w _⟩
    rw [show hasK (ps.take 0) (m : Int) = false by simp [hasK]]
    exact mades_bool _ _ (by omega)
  case round =>
    obtain ⟨i, cs, rfl, hil, hrow, hcs, hall, hbl⟩ := hrel
    by_cases hlt : i < ps.length
    · obtain ⟨hok, g, o, rfl, _, hg, hc⟩ := hS i hlt
      have x0 := (hbl.cell (p := ⟨g, o + 6 * i + 0, none⟩) (by show g < _; omega)).trans (hc 0 (by decide))
      have x1 := (hbl.cell (p := ⟨g, o + 6 * i + 1, none⟩) (by show g < _; omega)).trans (hc 1 (by decide))
      have x2 := (hbl.cell (p := ⟨g, o + 6 * i + 2, none⟩) (by show g < _; omega)).trans (hc 2 (by decide))
      have x3 := (hbl.cell (p := ⟨g, o + 6 * i + 3, none⟩) (by show g < _; omega)).trans (hc 3 (by decide))
      have x4 := (hbl.cell (p := ⟨g, o + 6 * i + 4, none⟩) (by show g < _; omega)).trans (hc 4 (by decide))
      have x5 := (hbl.cell (p := ⟨g, o + 6 * i + 5, none⟩) (by show g < _; omega)).trans (hc 5 (by decide))
      simp only [Pr.cs, List.getElem?_cons_zero, List.getElem?_cons_succ, Nat.add_zero] at x0 x1 x2 x3 x4 x5
      have mc : i * 6 = 6 * i := Nat.mul_comm _ _
      have hwr : w.heap.size < wr.heap.size := (Array.getElem?_eq_some_iff.1 hrow).1
      have HROW : Hid (wr.heap[w.heap.size]? = some (.cells cs 4 (0, 0))) := hrow
      have HALL : Hid (∀ m : Nat, 1 ≤ m → m ≤ ps.length → cs[m]? = some (.bool (hasK (ps.take i) m))) := hall
      have htk := has_take ps i hlt
      have HTK : Hid (∀ m : Int, hasK (ps.take (i + 1)) m = (hasK (ps.take i) m || isK ps[i] m)) := htk
      obtain ⟨p, hp⟩ : ∃ p, p = ps[i] := ⟨_, rfl⟩
      have HTP : Hid (∀ m : Int, hasK (ps.take (i + 1)) m = (hasK (ps.take i) m || isK p m)) := by rw [hp]; exact HTK.out
      rw [← hp] at x0 x1 x2 x3 x4 x5 hok
      clear hc hS hrow hall hp htk HTK hmk
      obtain ⟨⟨k, n, s⟩, ⟨k2, n2, s2⟩⟩ := p
      have hn0 := hok.key.ok.n0
      have hn1 := hok.key.ok.n1
      dsimp only at x0 x1 x2 x3 x4 x5 hn0 hn1
      clear hok
      have HAT : Hid (∀ q : Int, isK ⟨⟨k, n, s⟩, ⟨k2, n2, s2⟩⟩ q = (isK ⟨⟨k, n, s⟩, ⟨k2, n2, s2⟩⟩ n && decide (n = q))) := fun q => isK_at _ q
      go_wp2_with fail
      obtain ⟨W1, hW1⟩ : ∃ W1, W1 = wr.alloc (Obj.cells #[.int .i64 k, .int .i64 n, .string s, .int .i64 k2, .int .i64 n2, .string s2] 61) := ⟨_, rfl⟩
      have r1 : W1.heap[wr.heap.size]? = some (.cells #[.int .i64 k, .int .i64 n, .string s, .int .i64 k2, .int .i64 n2, .string s2] 61 (0, 0)) := by rw [hW1]; exact heap_alloc_new _ _
      have hb1 : Below wr.heap.size wr W1 := by rw [hW1]; exact bel_alloc _ _
      have hl1 : wr.heap.size < W1.heap.size := by rw [hW1]; simp
      rw [← hW1]
      clear hW1 x0 x1 x2 x3 x4 x5
      have p0 := cell_of_row _ _ 0 _ _ _ r1
      have p1 := cell_of_row _ _ 1 _ _ _ r1
      have p2 := cell_of_row _ _ 2 _ _ _ r1
      simp only [List.getElem?_toArray, List.getElem?_cons_zero, List.getElem?_cons_succ] at p0 p1 p2
      have HR1 : Hid (∀ W, Below W1.heap.size W1 W → W.heap[w.heap.size]? = some (.cells cs 4 (0, 0))) := fun W hW => (hW.block _ (by omega)).trans ((hb1.block _ hwr).trans HROW.out)
      clear r1
      have HB1 : Hid (∀ W, Below W1.heap.size W1 W → Below w.heap.size w W) := fun W hW => (hbl.trans (hb1.mono hbl.size)).trans (hW.mono (by have := hbl.size; omega))
      rcases beq_cases ⟨k, n, s⟩ 2 n ⟨#[]⟩ with ⟨hb, he⟩ | ⟨hb, hne⟩
      · simp only [Vl.mk.injEq, true_and] at he
        obtain ⟨rfl, rfl⟩ := he
        have HK : Hid (isK ⟨⟨2, n, ⟨#[]⟩⟩, ⟨k2, n2, s2⟩⟩ n = true) := hb
        clear hb
        by_cases hr : 1 ≤ n ∧ n ≤ (ps.length : Int)
        · obtain ⟨m, rfl⟩ := Int.eq_ofNat_of_zero_le (show 0 ≤ n by omega)
          have hm1 : 1 ≤ m := by omega
          have hm2 : m ≤ ps.length := by omega
          have i0 : (1 : Int) ≤ (m : Int) := hr.1
          have i1 : (m : Int) ≤ (ps.length : Int) := hr.2
          have i2 : (m : Int) < (ps.length : Int) + 1 := by omega
          have i3 : (m : Int) < ((ps.length + 1 : Nat) : Int) := by omega
          clear hr
          go_region_held3 (fun w' => w'.cell? ⟨wr.heap.size, 0, none⟩ = some (.int .i64 2) ∧ w'.cell? ⟨wr.heap.size, 1, none⟩ = some (.int .i64 m) ∧ w'.cell? ⟨wr.heap.size, 2, none⟩ = some (.string ⟨#[]⟩)) (go_keep) (first | (go_at_call 65; refine (int_impl _ _).mono ?_; rintro e w' ⟨rfl, hb'⟩; unfold numB; have hq' := (Below.refl W1.heap.size W1).drew.trans hb'; have y0 := (hq'.cell (p := ⟨wr.heap.size, 0, none⟩) hl1).trans p0; have y1 := (hq'.cell (p := ⟨wr.heap.size, 1, none⟩) hl1).trans p1; have y2 := (hq'.cell (p := ⟨wr.heap.size, 2, none⟩) hl1).trans p2))
          have rT := HR1.out _ hq'
          have fT := frozen_of_row _ _ m _ _ rT
          have eT := (cell_of_row _ _ m _ _ (0, 0) rT).trans (Array.getElem?_eq_getElem (xs := cs) (i := m) (by omega))
          have RT : Hid (w'.heap[w.heap.size]? = some (.cells cs 4 (0, 0))) := rT
          have BT := HB1.out _ hq'
          clear rT
          go_wp2_with fail
          go_roundw
          case rel =>
            refine ⟨i + 1, _, by go_num, by omega, heap_setCell_same _ _ m _ _ (.bool true) RT.out, by simpa using hcs, fun q h1 h2 => ?_, BT.setCell (Nat.le_refl _) _⟩
            rw [HTP.out, HAT.out, HK.out, Array.getElem?_setIfInBounds]
            by_cases hq : m = q
            · subst hq
              rw [if_pos rfl, if_pos (by omega)]; simp
            · rw [if_neg hq, HALL.out q h1 h2]
              have hq' : ¬ (m : Int) = (q : Int) := by omega
              simp [hq']
          case measure => simp [intOf]; omega
        · have hq : ∀ q : Nat, 1 ≤ q → q ≤ ps.length → isK ⟨⟨2, n, ⟨#[]⟩⟩, ⟨k2, n2, s2⟩⟩ (q : Int) = false := fun q h1 h2 => by rw [HAT.out, HK.out]; simp; omega
          have HQ : Hid (∀ q : Nat, 1 ≤ q → q ≤ ps.length → isK ⟨⟨2, n, ⟨#[]⟩⟩, ⟨k2, n2, s2⟩⟩ (q : Int) = false) := hq
          clear hq
          have hr' : n < 1 ∨ (1 ≤ n ∧ (ps.length : Int) < n) := by omega
          clear hr
          rcases hr' with h1 | ⟨h1, h2⟩
          all_goals
            first | (have d1 : decide (1 ≤ n) = false := decide_eq_false (by omega)) | (have d1 : decide (1 ≤ n) = true := decide_eq_true (by omega); have d2 : decide (n ≤ (ps.length : Int)) = false := decide_eq_false (by omega))
            first | (go_region_held (fun w' => w'.cell? ⟨wr.heap.size, 0, none⟩ = some (.int .i64 2) ∧ w'.cell? ⟨wr.heap.size, 1, none⟩ = some (.int .i64 n) ∧ w'.cell? ⟨wr.heap.size, 2, none⟩ = some (.string ⟨#[]⟩)) (go_keep) (first | (go_at_call 65; refine (int_impl _ _).mono ?_; rintro e w' ⟨rfl, hb'⟩; unfold numB; have hq' := (Below.refl W1.heap.size W1).drew.trans hb'; have y0 := (hq'.cell (p := ⟨wr.heap.size, 0, none⟩) hl1).trans p0; have y1 := (hq'.cell (p := ⟨wr.heap.size, 1, none⟩) hl1).trans p1; have y2 := (hq'.cell (p := ⟨wr.heap.size, 2, none⟩) hl1).trans p2))) | fail
            all_goals
              go_wp2_with fail
              go_roundw
              case rel => exact ⟨i + 1, cs, by go_num, by omega, HR1.out _ hq', hcs, fun q h1 h2 => by rw [HTP.out, HQ.out q h1 h2, Bool.or_false]; exact HALL.out q h1 h2, HB1.out _ hq'⟩
              case measure => simp [intOf]; omega
      · have hq : ∀ q : Int, isK ⟨⟨k, n, s⟩, ⟨k2, n2, s2⟩⟩ q = false := fun q => by rw [HAT.out]; rw [show isK ⟨⟨k, n, s⟩, ⟨k2, n2, s2⟩⟩ n = false from hb]; rfl
        have HQ : Hid (∀ q : Int, isK ⟨⟨k, n, s⟩, ⟨k2, n2, s2⟩⟩ q = false) := hq
        clear hq hb
        rcases hne with h1 | ⟨h1, h2⟩ | ⟨h1, h2, h3⟩
        · dsimp only at h1
          have h2 : (k == 2) = false := by simpa using h1
          have h3 : decide (k = 2) = false := by simpa using h1
          first | (go_region_held (fun w' => w'.cell? ⟨wr.heap.size, 0, none⟩ = some (.int .i64 k) ∧ w'.cell? ⟨wr.heap.size, 1, none⟩ = some (.int .i64 n) ∧ w'.cell? ⟨wr.heap.size, 2, none⟩ = some (.string s)) (go_keep) (first | (go_at_call 65; refine (int_impl _ _).mono ?_; rintro e w' ⟨rfl, hb'⟩; unfold numB; have hq' := (Below.refl W1.heap.size W1).drew.trans hb'; have y0 := (hq'.cell (p := ⟨wr.heap.size, 0, none⟩) hl1).trans p0; have y1 := (hq'.cell (p := ⟨wr.heap.size, 1, none⟩) hl1).trans p1; have y2 := (hq'.cell (p := ⟨wr.heap.size, 2, none⟩) hl1).trans p2))) | fail
          all_goals
            go_wp2_with fail
            go_roundw
            case rel => exact ⟨i + 1, cs, by go_num, by omega, HR1.out _ hq', hcs, fun q h1 h2 => by rw [HTP.out, HQ.out, Bool.or_false]; exact HALL.out q h1 h2, HB1.out _ hq'⟩
            case measure => simp [intOf]; omega
        · exact absurd rfl h2
        · dsimp only at h1 h3
          subst h1
          have h4 : ¬ s.toList = [] := by simpa [ByteArray.toList_eq] using h3
          have h5 : (s.toList == []) = false := by simpa using h4
          first | (go_region_held (fun w' => w'.cell? ⟨wr.heap.size, 0, none⟩ = some (.int .i64 2) ∧ w'.cell? ⟨wr.heap.size, 1, none⟩ = some (.int .i64 n) ∧ w'.cell? ⟨wr.heap.size, 2, none⟩ = some (.string s)) (go_keep) (first | (go_at_call 65; refine (int_impl _ _).mono ?_; rintro e w' ⟨rfl, hb'⟩; unfold numB; have hq' := (Below.refl W1.heap.size W1).drew.trans hb'; have y0 := (hq'.cell (p := ⟨wr.heap.size, 0, none⟩) hl1).trans p0; have y1 := (hq'.cell (p := ⟨wr.heap.size, 1, none⟩) hl1).trans p1; have y2 := (hq'.cell (p := ⟨wr.heap.size, 2, none⟩) hl1).trans p2))) | fail
          all_goals
            go_wp2_with fail
            go_roundw
            case rel => exact ⟨i + 1, cs, by go_num, by omega, HR1.out _ hq', hcs, fun q h1 h2 => by rw [HTP.out, HQ.out, Bool.or_false]; exact HALL.out q h1 h2, HB1.out _ hq'⟩
            case measure => simp [intOf]; omega
    · obtain rfl : i = ps.length := by omega
      rw [List.take_length] at hall
      have HALL : Hid (∀ m : Nat, 1 ≤ m → m ≤ ps.length → cs[m]? = some (.bool (hasK ps m))) := hall
      clear hall hS hmk
      have hwr : w.heap.size < wr.heap.size := (Array.getElem?_eq_some_iff.1 hrow).1
      go_wp2_with fail
      go_loopw [7] (fun x wl => ∃ r : Nat, x = .int .i64 r ∧ r ≤ ps.length ∧ wl = wr ∧ ∀ m : Nat, 1 ≤ m → m ≤ r → hasK ps m = true) (fun x _ => ps.length - (intOf x).toNat)
      case atStart => exact ⟨0, rfl, Nat.zero_le _, rfl, fun m h1 h2 => by omega⟩
      case round =>
        obtain ⟨r, rfl, hrl, rfl, hrs⟩ := hrel
        have HRS : Hid (∀ m : Nat, 1 ≤ m → m ≤ r → hasK ps m = true) := hrs
        clear hrs
        by_cases hlt : r < ps.length
        · have hc := (cell_of_row _ _ (r + 1) _ _ (0, 0) hrow).trans (HALL.out (r + 1) (by omega) (by omega))
          rw [show ((r + 1 : Nat) : Int) = (r : Int) + 1 by omega] at hc
          obtain ⟨b, hb⟩ : ∃ b, hasK ps ((r : Int) + 1) = b := ⟨_, rfl⟩
          rw [hb] at hc
          have HB : Hid (hasK ps ((r : Int) + 1) = b) := hb
          have i0 : (0 : Int) ≤ (r : Int) + 1 := by omega
          have i1 : (r : Int) + 1 < (ps.length : Int) + 1 := by omega
          have i2 : (r : Int) + 1 < ((ps.length + 1 : Nat) : Int) := by omega
          have d1 : decide ((r : Int) < (ps.length : Int)) = true := decide_eq_true (by omega)
          clear hb hrow
          cases b
          · go_wp2_with fail
            go_ret
            exact ⟨ret_int (by rw [hR.eq HRS.out (.inr HB.out)]), hbl⟩
          · go_wp2_with fail
            go_roundw
            case rel => exact ⟨r + 1, by go_num, by omega, trivial, fun m h1 h2 => by
              by_cases hm : m = r + 1
              · subst hm; rw [show ((r + 1 : Nat) : Int) = (r : Int) + 1 by omega]; exact HB.out
              · exact HRS.out m h1 (by omega)⟩
            case measure => simp [intOf]; omega
        · obtain rfl : r = ps.length := by omega
          clear hrow
          have d1 : decide ((ps.length : Int) < (ps.length : Int)) = false := decide_eq_false (by omega)
          go_wp2_with fail
          go_ret
          exact ⟨ret_int (by rw [hR.eq HRS.out (.inl rfl)]), hbl⟩
end Go.Proofs.Ytjeoeijbgkfpjaa
