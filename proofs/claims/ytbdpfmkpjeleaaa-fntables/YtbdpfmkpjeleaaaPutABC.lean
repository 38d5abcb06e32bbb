/- The place of a key among pairs: the program. -/
import Derived.Test.YtbdpfmkpjeleaaaHeapG
import Derived.Test.YtbdpfmkpjeleaaaHeapR
import Derived.Lib.SliceRun
import Derived.Laws.IdiomCopy
namespace Go.Proofs.Ytbdpfmkpjeleaaa
open Go.RowKit

/-- The pair at a place has the key, and none ahead of it has. -/
def KeyAt (k : Vl) (ps : List Pr) (r : Int) : Prop :=
  (r = -1 ∧ ∀ m (hm : m < ps.length), ps[m].key.beq k = false) ∨ (∃ j, ∃ hj : j < ps.length, r = (j : Int) ∧ ps[j].key.beq k = true ∧ ∀ m (hm : m < j), ps[m].key.beq k = false)
set_option maxRecDepth 100000 in
set_option maxHeartbeats 1600000 in
theorem isKey_impl (p : Pr) (kk kn : Int) (ks : ByteArray) (B : Nat) (w : World) (hB : w.heap[B]? = some (Obj.cells #[.int .i64 kk, .int .i64 kn, .string ks] 32 (0, 0))) :
    Calls Try.prog 89 #[.agg p.cs.toArray, .pointer (some ⟨B, 0, none⟩)] w fun e w' => e = .returned (.bool (p.key.beq ⟨kk, kn, ks⟩)) ∧ Below w.heap.size w w' := by
  obtain ⟨pk, ⟨vk, vn, vs⟩⟩ := p
  have hlt : B < w.heap.size := (Array.getElem?_eq_some_iff.1 hB).1
  have k0 := cell_of_row _ _ 0 _ _ _ hB
  have k1 := cell_of_row _ _ 1 _ _ _ hB
  have k2 := cell_of_row _ _ 2 _ _ _ hB
  simp only [List.getElem?_toArray, List.getElem?_cons_zero, List.getElem?_cons_succ] at k0 k1 k2
  clear hB
  dsimp only [Pr.cs]
  rcases beq_cases pk kk kn ks with ⟨hb, rfl⟩ | ⟨hb, hne⟩
  · rw [hb]
    clear hb
    go_enter Try.func89, Try.ntmps89
    go_wp2_with fail
    go_ret
    exact ⟨rfl, bel_alloc _ _⟩
  · rw [hb]
    clear hb
    obtain ⟨pk, pn, pp⟩ := pk
    rcases hne with h1 | ⟨h1, h2⟩ | ⟨h1, h2, h3⟩
    all_goals
      go_enter Try.func89, Try.ntmps89
      go_wp2_with fail
      go_ret
      exact ⟨rfl, bel_alloc _ _⟩
set_option maxRecDepth 100000 in
set_option maxHeartbeats 1600000 in
theorem index_impl (ps : List Pr) (a : Option Addr) (ca lo hi : Nat) (kk kn : Int) (ks : ByteArray) (B : Nat) (w : World) (hh : hi ≤ w.heap.size) (hn : ps.length ≤ maxLen) (hS : PAt w lo hi ps a) (hB : w.heap[B]? = some (Obj.cells #[.int .i64 kk, .int .i64 kn, .string ks] 32 (0, 0))) :
    Calls Try.prog 91 #[.slice a ps.length ca, .func (.func 89) #[] #[.pointer (some ⟨B, 0, none⟩)]] w fun e w' => (∃ r : Int, e = .returned (.int .i64 r) ∧ KeyAt ⟨kk, kn, ks⟩ ps r) ∧ Below w.heap.size w w' := by
  unfold maxLen at hn
  go_enter Try.func91, Try.ntmps91
  go_wp2_with fail
  go_loopw [8] (fun x wr => ∃ i : Nat, x = .int .i64 i ∧ i ≤ ps.length ∧ (∀ m (_ : m < i) (hm : m < ps.length), ps[m].key.beq ⟨kk, kn, ks⟩ = false) ∧ Below w.heap.size w wr) (fun x _ => ps.length - (intOf x).toNat)
  case atStart => exact ⟨0, rfl, Nat.zero_le _, fun m h => absurd h (Nat.not_lt_zero _), Below.refl _ _⟩
  case round =>
    obtain ⟨i, rfl, hil, hall, hbl⟩ := hrel
    have HB := (hbl.block B (Array.getElem?_eq_some_iff.1 hB).1).trans hB
    by_cases hlt : i < ps.length
    · obtain ⟨_, g, o, rfl, _, hg, hc⟩ := hS i hlt
      have x0 := (hbl.cell (p := ⟨g, o + 6 * i + 0, none⟩) (by show g < _; omega)).trans (hc 0 (by decide))
      have x1 := (hbl.cell (p := ⟨g, o + 6 * i + 1, none⟩) (by show g < _; omega)).trans (hc 1 (by decide))
      have x2 := (hbl.cell (p := ⟨g, o + 6 * i + 2, none⟩) (by show g < _; omega)).trans (hc 2 (by decide))
      have x3 := (hbl.cell (p := ⟨g, o + 6 * i + 3, none⟩) (by show g < _; omega)).trans (hc 3 (by decide))
      have x4 := (hbl.cell (p := ⟨g, o + 6 * i + 4, none⟩) (by show g < _; omega)).trans (hc 4 (by decide))
      have x5 := (hbl.cell (p := ⟨g, o + 6 * i + 5, none⟩) (by show g < _; omega)).trans (hc 5 (by decide))
      simp only [Pr.cs, List.getElem?_cons_zero, List.getElem?_cons_succ, Nat.add_zero] at x0 x1 x2 x3 x4 x5
      have mc : i * 6 = 6 * i := Nat.mul_comm _ _
      have HAL : Hid (ps[i].key.beq ⟨kk, kn, ks⟩ = false → ∀ m (_ : m < i + 1) (hm : m < ps.length), ps[m].key.beq ⟨kk, kn, ks⟩ = false) := fun hq m h1 hm => by
        by_cases e : m = i
        · subst e; exact hq
        · exact hall m (by omega) hm
      have HYES : Hid (ps[i].key.beq ⟨kk, kn, ks⟩ = true → KeyAt ⟨kk, kn, ks⟩ ps (i : Int)) := fun hq => .inr ⟨i, hlt, rfl, hq, fun m hm => hall m hm (by omega)⟩
      have HK : Hid (∀ W, Below w.heap.size w W → W.heap[B]? = some (Obj.cells #[.int .i64 kk, .int .i64 kn, .string ks] 32 (0, 0))) := fun W hW => (hW.block B (Array.getElem?_eq_some_iff.1 hB).1).trans hB
      clear hc hS hall hB HB
      generalize ps[i] = p at *
      go_wp2_with fail
      refine (isKey_impl p kk kn ks B wr (HK.out _ hbl)).mono ?_
      rintro e w1 ⟨rfl, hb1⟩
      have B1 := hbl.trans (hb1.mono hbl.size)
      have HBB : Hid (Below w.heap.size w w1) := B1
      cases hq : p.key.beq ⟨kk, kn, ks⟩ with
      | true =>
        have HR := HYES.out hq
        have HR' : Hid (KeyAt ⟨kk, kn, ks⟩ ps (i : Int)) := HR
        clear HR HYES HAL hq B1 hb1
        go_wp2_with fail
        go_ret
        exact ⟨⟨_, rfl, HR'.out⟩, HBB.out⟩
      | false =>
        have HR : Hid (∀ m (_ : m < i + 1) (hm : m < ps.length), ps[m].key.beq ⟨kk, kn, ks⟩ = false) := HAL.out hq
        clear HYES HAL hq B1 hb1
        go_wp2_with fail
        go_roundw
        case rel => exact ⟨i + 1, by go_num, by omega, HR.out, HBB.out⟩
        case measure => simp [intOf]; omega
    · obtain rfl : i = ps.length := by omega
      have HR : Hid (KeyAt ⟨kk, kn, ks⟩ ps (-1)) := .inl ⟨rfl, fun m hm => hall m hm hm⟩
      clear hS hall hB HB
      go_wp2_with fail
      go_ret
      exact ⟨⟨_, rfl, HR.out⟩, hbl⟩
end Go.Proofs.Ytbdpfmkpjeleaaa
namespace Go.Proofs.Ytbdpfmkpjeleaaa
open Go.RowKit

theorem set6v_above (cs : Array Value) (i : Nat) (a0 a1 a2 a3 a4 a5 : Value) (m : Nat) (h : 6 * i + 6 ≤ m) : ((((((cs.setIfInBounds (6 * i) a0).setIfInBounds (6 * i + 1) a1).setIfInBounds (6 * i + 2) a2).setIfInBounds (6 * i + 3) a3).setIfInBounds (6 * i + 4) a4).setIfInBounds (6 * i + 5) a5)[m]? = cs[m]? := by
  simp only [Array.getElem?_setIfInBounds]
  rw [if_neg (by omega), if_neg (by omega), if_neg (by omega), if_neg (by omega), if_neg (by omega), if_neg (by omega)]
theorem setCells_row (b : Nat) (T : TypeId) : ∀ (vs : List Value) (o : Nat) (w : World) (cs : Array Value), w.heap[b]? = some (.cells cs T (0, 0)) → ∃ cs', (w.setCells b o vs).heap[b]? = some (.cells cs' T (0, 0)) ∧ cs'.size = cs.size ∧ ∀ m, m < o → cs'[m]? = cs[m]? := by
  intro vs
  induction vs with
  | nil => intro o w cs h; exact ⟨cs, h, rfl, fun _ _ => rfl⟩
  | cons v r ih =>
    intro o w cs h
    obtain ⟨cs', h1, h2, h3⟩ := ih (o + 1) _ _ (heap_setCell_same _ b o _ _ v h)
    refine ⟨cs', h1, by rw [h2]; simp, fun m hm => ?_⟩
    rw [h3 m (by omega), Array.getElem?_setIfInBounds, if_neg (by omega)]
theorem setCells_below (B b : Nat) (hb : B ≤ b) : ∀ (vs : List Value) (o : Nat) (w w0 : World), Below B w0 w → Below B w0 (w.setCells b o vs) := by
  intro vs
  induction vs with
  | nil => intro o w w0 h; exact h
  | cons v r ih => intro o w w0 h; exact ih (o + 1) _ _ (h.setCell hb _)
theorem zero_pair (w : World) : (zeroValue 61).run Try.prog w = .ok (.agg #[.int .i64 0, .int .i64 0, .string ⟨#[]⟩, .int .i64 0, .int .i64 0, .string ⟨#[]⟩]) w := by
  simp only [zeroValue]
  kernel_rfl
def pairZ : Value := .agg #[.int .i64 0, .int .i64 0, .string ⟨#[]⟩, .int .i64 0, .int .i64 0, .string ⟨#[]⟩]
def clearL (n : Nat) : List Value := (Builtin.zeroCells pairZ.cells n).toList
/-- clear of a part of a row of pairs. -/
theorem clear_run (w : World) (b o n c ty : Nat) (hn : 0 < n) (hc : ∀ j, j < n * 6 → (w.cell? ⟨b, o + j, none⟩).isSome = true) (hf : ∀ j, j < n * 6 → w.frozen? ⟨b, o + j, none⟩ = false) :
    (Builtin.clear_ #[59] ty #[.slice (some ⟨b, o, none⟩) n c]).run Try.prog w = .ok (.tuple #[]) (w.setCells b o (clearL n)) := by
  have hz : ∀ w, (zeroValue 61).run Try.prog w = .ok pairZ w := fun w => zero_pair w
  have hlen : (clearL n).length = n * 6 := by simp [clearL, pairZ, Builtin.zeroCells, Value.cells]
  have hone : ∀ v ∈ clearL n, v.oneCell' = true := by
    intro v hv
    simp only [clearL, pairZ, Builtin.zeroCells, Value.cells, Array.toList_map, List.mem_map] at hv
    obtain ⟨j, _, rfl⟩ := hv
    have h6 : j % 6 < 6 := Nat.mod_lt _ (by decide)
    simp only [List.size_toArray, List.length_cons, List.length_nil]
    generalize j % 6 = r at h6
    match r, h6 with
    | 0, _ => rfl
    | 1, _ => rfl
    | 2, _ => rfl
    | 3, _ => rfl
    | 4, _ => rfl
    | 5, _ => rfl
  have hst := run_storeCells_cells (P := Try.prog) b o (clearL n) 0 w (by rw [hlen]; simpa using hc) (by rw [hlen]; simpa using hf) hone
  simp only [Nat.add_zero] at hst
  obtain ⟨m, rfl⟩ : ∃ m, n = m + 1 := ⟨n - 1, by omega⟩
  have hu := Try.underlying59
  unfold clearL at hst ⊢
  generalize pairZ = Z at hz hst ⊢
  simp [Builtin.clear_, run_underlying hu, hz, hst]
end Go.Proofs.Ytbdpfmkpjeleaaa
namespace Go.Proofs.Ytbdpfmkpjeleaaa
open Go.RowKit

/-- A row of one's own holds pairs that lie there. -/
theorem pat_of_row' {w : World} {lo hi : Nat} {s : Sl} {ps : List Pr} (h : Row w lo hi 61 6 s (flatP ps)) (hok : ∀ m (hm : m < ps.length), ps[m].Ok) : PAt w lo hi ps s.a := by
  intro i hi'
  have hl := flatP_len ps
  obtain ⟨g, e, h1, h2, h3, h4⟩ := h.cell (6 * i) (by omega)
  refine ⟨hok i hi', g, 0, e, h1, h2, fun j hj => ?_⟩
  obtain ⟨g', e', _, _, _, h5⟩ := h.cell (6 * i + j) (by omega)
  rw [e] at e'
  cases e'
  rw [show (0 : Nat) + 6 * i + j = 6 * i + j by omega, h5, flatP_get ps i hi' j hj]
theorem filt_snoc (k : Vl) (ps : List Pr) (j : Nat) (h : j < ps.length) : (ps.take (j + 1)).filter (fun p => !p.key.beq k) = (ps.take j).filter (fun p => !p.key.beq k) ++ (if ps[j].key.beq k = true then [] else [ps[j]]) := by
  rw [List.take_succ_eq_append_getElem h, List.filter_append]
  congr 1
  cases hb : ps[j].key.beq k <;> simp [hb]
theorem filt_all (k : Vl) (ps : List Pr) (h : ∀ m (hm : m < ps.length), ps[m].key.beq k = false) : ps.filter (fun p => !p.key.beq k) = ps := by
  rw [List.filter_eq_self]
  intro p hp
  obtain ⟨m, hm, rfl⟩ := List.mem_iff_getElem.1 hp
  simp [h m hm]
theorem filt_first (k : Vl) (ps : List Pr) (j : Nat) (hj : j < ps.length) (hb : ps[j].key.beq k = true) (h : ∀ m (hm : m < j), ps[m].key.beq k = false) : (ps.take (j + 1)).filter (fun p => !p.key.beq k) = ps.take j := by
  rw [filt_snoc k ps j hj, if_pos hb, List.append_nil]
  refine filt_all k _ fun m hm => ?_
  rw [List.length_take] at hm
  rw [List.getElem_take]
  exact h m (by omega)
set_option maxRecDepth 100000 in
set_option maxHeartbeats 3200000 in
theorem delete_impl (ps : List Pr) (s : Sl) (lo hi : Nat) (kk kn : Int) (ks : ByteArray) (B : Nat) (w : World) (hh : hi ≤ w.heap.size) (hlow : lo ≤ w.heap.size) (hn : ps.length ≤ 1048576) (hsn : s.n = ps.length) (hok : ∀ m (hm : m < ps.length), ps[m].Ok) (hR : Row w lo hi 61 6 s (flatP ps)) (hBlo : B < lo) (hB : w.heap[B]? = some (Obj.cells #[.int .i64 kk, .int .i64 kn, .string ks] 32 (0, 0))) :
    Calls Try.prog 90 #[.slice s.a ps.length s.c, .func (.func 89) #[] #[.pointer (some ⟨B, 0, none⟩)]] w fun e w' => (∃ s' : Sl, e = .returned s'.v ∧ s'.n = (ps.filter (fun p => !p.key.beq ⟨kk, kn, ks⟩)).length ∧ Row w' lo hi 61 6 s' (flatP (ps.filter (fun p => !p.key.beq ⟨kk, kn, ks⟩)))) ∧ Below lo w w' := by
  have hS := pat_of_row' hR hok
  have hfl := flatP_len ps
  obtain ⟨a, n, c⟩ := s
  dsimp only at hsn hS ⊢
  subst hsn
  have HIDX := index_impl ps a c lo hi kk kn ks B w hh (by unfold maxLen; omega) hS hB
  go_enter Try.func90, Try.ntmps90
  go_wp2_with fail
  refine HIDX.mono ?_
  rintro e w1 ⟨⟨r, rfl, hr⟩, hb1⟩
  rcases hr with ⟨rfl, hall⟩ | ⟨j0, hj0, rfl, hbj, hall⟩
  · have HF : Hid (ps.filter (fun p => !p.key.beq ⟨kk, kn, ks⟩) = ps) := filt_all ⟨kk, kn, ks⟩ ps hall
    have HR1 : Hid (Row w1 lo hi 61 6 ⟨a, ps.length, c⟩ (flatP ps)) := hR.below hb1
    have HB1 : Hid (Below lo w w1) := hb1.mono hlow
    clear hall hS hR hB HIDX hfl hb1 hok
    go_wp2_with fail
    go_ret
    exact ⟨⟨⟨a, ps.length, c⟩, rfl, by rw [HF.out], by rw [HF.out]; exact HR1.out⟩, HB1.out⟩
  · have hne : ¬ ((j0 : Int) = -1) := by omega
    have hR1 := hR.below hb1
    have hB1 := (hb1.block B (Array.getElem?_eq_some_iff.1 hB).1).trans hB
    obtain ⟨h1, ⟨e1, e2, e3⟩ | ⟨g, cs0, e1, hl1, hh1, hrow, hsc, hcm, hcs, hpre⟩⟩ := hR1
    · dsimp only at e2; omega
    · dsimp only at e1 hsc hcm hcs
      subst e1
      have hgB : g ≠ B := by omega
      have hcm' : c ≤ 9223372036854775807 := by unfold maxLen at hcm; omega
      have HFF : Hid ((ps.take (j0 + 1)).filter (fun p => !p.key.beq ⟨kk, kn, ks⟩) = ps.take j0) := filt_first ⟨kk, kn, ks⟩ ps j0 hj0 hbj hall
      have HOK := hok
      have HSZ : Hid (w.heap.size ≤ w1.heap.size) := hb1.size
      have HB1 : Hid (Below lo w w1) := hb1.mono hlow
      have hg1 : g < w1.heap.size := (Array.getElem?_eq_some_iff.1 hrow).1
      clear hall hS hR hB HIDX h1 hb1 hbj
      go_wp2_with fail
      go_loopw [5, 6, 7] (fun y x _ wr => ∃ (i j : Nat) (cs : Array Value), y = .int .i64 i ∧ x = .int .i64 j ∧ i < j ∧ j ≤ ps.length ∧ Hid (((ps.take j).filter (fun p => !p.key.beq ⟨kk, kn, ks⟩)).length = i) ∧ wr.heap[g]? = some (.cells cs 61 (0, 0)) ∧ cs.size = c * 6 ∧ Hid (∀ m, m < 6 * i → cs[m]? = (flatP ((ps.take j).filter (fun p => !p.key.beq ⟨kk, kn, ks⟩)))[m]?) ∧ Hid (∀ m, 6 * j ≤ m → m < 6 * ps.length → cs[m]? = (flatP ps)[m]?) ∧ wr.heap[B]? = some (Obj.cells #[.int .i64 kk, .int .i64 kn, .string ks] 32 (0, 0)) ∧ Hid (Below lo w wr) ∧ w1.heap.size ≤ wr.heap.size) (fun _ x _ _ => ps.length - (intOf x).toNat)
      case atStart =>
        refine ⟨j0, j0 + 1, cs0, rfl, by go_num, by omega, by omega, ?_, hrow, hcs, fun m hm => ?_, fun m h1 h2 => hpre m (by omega), hB1, HB1, Nat.le_refl _⟩
        · show _ = _; rw [HFF.out, List.length_take]; omega
        · rw [HFF.out, hpre m (by omega)]
          have ht : ps.take j0 ++ ps.drop j0 = ps := List.take_append_drop _ _
          conv => lhs; rw [← ht]
          unfold flatP
          rw [List.flatMap_append, List.getElem?_append_left]
          rw [show (List.flatMap Pr.cs (ps.take j0)).length = 6 * (ps.take j0).length from flatP_len _, List.length_take]
          omega
      case round =>
        clear hrow hcs hpre hB1 HB1 hg1 HFF
        obtain ⟨i, j, cs, rfl, rfl, hij, hjn, HLN, hrow, hcs, HLO, HHI, hB1, HBW, hsz⟩ := hrel
        have hg1 : g < wr.heap.size := (Array.getElem?_eq_some_iff.1 hrow).1
        have HROW : Hid (wr.heap[g]? = some (.cells cs 61 (0, 0))) := hrow
        have mi : i * 6 = 6 * i := Nat.mul_comm _ _
        have mj : j * 6 = 6 * j := Nat.mul_comm _ _
        by_cases hlt : j < ps.length
        · obtain ⟨p, hp⟩ : ∃ p, p = ps[j] := ⟨_, rfl⟩
          have HP : Hid (p = ps[j]) := hp
          have hx : ∀ t, t < 6 → wr.cell? ⟨g, 6 * j + t, none⟩ = p.cs[t]? := fun t ht => by
            rw [cell_of_row _ _ _ _ _ _ hrow, HHI.out _ (by omega) (by omega), flatP_get ps j hlt t ht, hp]
          have x0 := hx 0 (by decide)
          have x1 := hx 1 (by decide)
          have x2 := hx 2 (by decide)
          have x3 := hx 3 (by decide)
          have x4 := hx 4 (by decide)
          have x5 := hx 5 (by decide)
          simp only [Pr.cs, List.getElem?_cons_zero, List.getElem?_cons_succ, Nat.add_zero] at x0 x1 x2 x3 x4 x5
          have HFS := filt_snoc ⟨kk, kn, ks⟩ ps j hlt
          rw [← hp] at HFS
          have HFS' : Hid ((ps.take (j + 1)).filter (fun p => !p.key.beq ⟨kk, kn, ks⟩) = (ps.take j).filter (fun p => !p.key.beq ⟨kk, kn, ks⟩) ++ (if p.key.beq ⟨kk, kn, ks⟩ = true then [] else [p])) := HFS
          have HKB : Hid ((wr.alloc (.cells #[.int .i64 p.key.k, .int .i64 p.key.n, .string p.key.s, .int .i64 p.val.k, .int .i64 p.val.n, .string p.val.s] 61)).heap[B]? = some (Obj.cells #[.int .i64 kk, .int .i64 kn, .string ks] 32 (0, 0))) := ((bel_alloc wr _).block B (Array.getElem?_eq_some_iff.1 hB1).1).trans hB1
          clear hx hp HFS hrow hB1
          go_wp2_with fail
          refine (isKey_impl p kk kn ks B _ HKB.out).mono ?_
          rintro e w2 ⟨rfl, hb2⟩
          have hb3 := boxed hb2
          have hs3 : wr.heap.size < w2.heap.size := by have := hb2.size; simp at this; omega
          have r1 := (hb3.block g hg1).trans HROW.out
          have HB2 : Hid (w2.heap[B]? = some (Obj.cells #[.int .i64 kk, .int .i64 kn, .string ks] 32 (0, 0))) := (hb2.block B (Array.getElem?_eq_some_iff.1 HKB.out).1).trans HKB.out
          have HBW2 : Hid (Below lo w w2) := HBW.out.trans (hb3.mono (by have := HBW.out.size; omega))
          have t0 := st_cell hb2 0
          have t1 := st_cell hb2 1
          have t2 := st_cell hb2 2
          have t3 := st_cell hb2 3
          have t4 := st_cell hb2 4
          have t5 := st_cell hb2 5
          simp only [List.getElem?_toArray, List.getElem?_cons_zero, List.getElem?_cons_succ] at t0 t1 t2 t3 t4 t5
          have hgn : g ≠ wr.heap.size := by omega
          have hgn' : wr.heap.size ≠ g := by omega
          have hg2 : g < w2.heap.size := by omega
          clear x0 x1 x2 x3 x4 x5 hb2 hb3 HKB
          cases hq : p.key.beq ⟨kk, kn, ks⟩ with
          | true =>
            have HF2 : Hid ((ps.take (j + 1)).filter (fun p => !p.key.beq ⟨kk, kn, ks⟩) = (ps.take j).filter (fun p => !p.key.beq ⟨kk, kn, ks⟩)) := by show _ = _; rw [HFS'.out, if_pos hq, List.append_nil]
            have R1 : Hid (w2.heap[g]? = some (.cells cs 61 (0, 0))) := r1
            clear hq r1 HFS'
            go_wp2_with fail
            go_roundw
            case rel =>
              refine ⟨_, _, _, _, _, _, _, _, _, _, _, _, _, _, _, _, _, _, _, _, _, _, _, ?_, rfl⟩
              exact ⟨i, j + 1, cs, rfl, by go_num, by omega, by omega, by show _ = _; rw [HF2.out]; exact HLN.out, R1.out, hcs, by rw [HF2.out]; exact HLO, fun m h1 h2 => HHI.out m (by omega) h2, HB2.out, HBW2.out, by omega⟩
            case measure => simp [intOf]; omega
          | false =>
            have HF2 : Hid ((ps.take (j + 1)).filter (fun p => !p.key.beq ⟨kk, kn, ks⟩) = (ps.take j).filter (fun p => !p.key.beq ⟨kk, kn, ks⟩) ++ [p]) := by show _ = _; rw [HFS'.out, if_neg (by rw [hq]; decide)]
            have f0 := frozen_of_row w2 g (6 * i) _ _ r1
            have e0 := (cell_of_row w2 g (6 * i) _ _ (0, 0) r1).trans (Array.getElem?_eq_getElem (xs := cs) (i := 6 * i) (by omega))
            have f1 := frozen_of_row w2 g (6 * i + 1) _ _ r1
            have e1 := (cell_of_row w2 g (6 * i + 1) _ _ (0, 0) r1).trans (Array.getElem?_eq_getElem (xs := cs) (i := 6 * i + 1) (by omega))
            have f2 := frozen_of_row w2 g (6 * i + 2) _ _ r1
            have e2 := (cell_of_row w2 g (6 * i + 2) _ _ (0, 0) r1).trans (Array.getElem?_eq_getElem (xs := cs) (i := 6 * i + 2) (by omega))
            have f3 := frozen_of_row w2 g (6 * i + 3) _ _ r1
            have e3 := (cell_of_row w2 g (6 * i + 3) _ _ (0, 0) r1).trans (Array.getElem?_eq_getElem (xs := cs) (i := 6 * i + 3) (by omega))
            have f4 := frozen_of_row w2 g (6 * i + 4) _ _ r1
            have e4 := (cell_of_row w2 g (6 * i + 4) _ _ (0, 0) r1).trans (Array.getElem?_eq_getElem (xs := cs) (i := 6 * i + 4) (by omega))
            have f5 := frozen_of_row w2 g (6 * i + 5) _ _ r1
            have e5 := (cell_of_row w2 g (6 * i + 5) _ _ (0, 0) r1).trans (Array.getElem?_eq_getElem (xs := cs) (i := 6 * i + 5) (by omega))
            have R1 : Hid (w2.heap[g]? = some (.cells cs 61 (0, 0))) := r1
            clear hq r1 HFS'
            dsimp only
            go_wp2_with fail
            go_roundw
            case rel =>
              refine ⟨i + 1, j + 1, _, by go_num, by go_num, by omega, by omega, ?_, (heap_setCell_same _ _ _ _ _ _ (heap_setCell_same _ _ _ _ _ _ (heap_setCell_same _ _ _ _ _ _ (heap_setCell_same _ _ _ _ _ _ (heap_setCell_same _ _ _ _ _ _ (heap_setCell_same _ _ _ _ _ _ R1.out)))))), by simpa using hcs, fun m hm => ?_, fun m h1 h2 => ?_, ?_, ?_, by simp <;> omega⟩
              · show _ = _; rw [HF2.out, List.length_append, HLN.out]; rfl
              · have hFl : (flatP ((ps.take j).filter (fun p => !p.key.beq ⟨kk, kn, ks⟩))).length = 6 * i := by rw [flatP_len, HLN.out]
                rw [HF2.out, flatP_snoc]
                by_cases hm' : m < 6 * i
                · rw [set6v_old cs i _ _ _ _ _ _ _ hm', HLO.out m hm', List.getElem?_append_left (by omega)]
                · obtain ⟨t, rfl⟩ : ∃ t, m = 6 * i + t := ⟨m - 6 * i, by omega⟩
                  rw [set6v_new cs i _ _ _ _ _ _ t (by omega) (by omega), List.getElem?_append_right (by omega), hFl, show 6 * i + t - 6 * i = t by omega]
                  rfl
              · rw [set6v_above cs i _ _ _ _ _ _ m (by omega)]
                exact HHI.out m (by omega) h2
              · repeat (first | (with_reducible exact HB2.out) | (with_reducible refine (heap_setCell_other _ _ _ _ (by show B ≠ g; omega)).trans ?_))
              · show Below lo w _
                repeat (first | (with_reducible exact HBW2.out) | (with_reducible refine Below.setCell ?_ (by show lo ≤ g; omega) _))
            case measure => simp [intOf]; omega
        · obtain rfl : j = ps.length := by omega
          rw [List.take_length] at HLN HLO
          have hin : i < ps.length := hij
          have hcell : ∀ t, t < (ps.length - i) * 6 → (wr.cell? ⟨g, 6 * i + t, none⟩).isSome = true := fun t ht => by
            rw [cell_of_row _ _ _ _ _ _ hrow, Array.getElem?_eq_getElem (by omega)]; rfl
          have hfro : ∀ t, t < (ps.length - i) * 6 → wr.frozen? ⟨g, 6 * i + t, none⟩ = false := fun t _ => frozen_of_row _ _ _ _ _ hrow
          have HCL : ∀ ty, (Builtin.clear_ #[59] ty #[.slice (some ⟨g, 6 * i, none⟩) (ps.length - i) (c - i)]).run Try.prog wr = .ok (.tuple #[]) (wr.setCells g (6 * i) (clearL (ps.length - i))) := fun ty => clear_run wr g (6 * i) (ps.length - i) (c - i) ty (by omega) hcell hfro
          clear hcell hfro hrow
          go_wp2_with fail
          go_ret
          obtain ⟨cs', q1, q2, q3⟩ := setCells_row g _ (clearL (ps.length - i)) (6 * i) wr cs HROW.out
          refine ⟨⟨⟨some ⟨g, 0, none⟩, i, c⟩, rfl, HLN.out.symm, ?_⟩, setCells_below lo g (by omega) _ _ _ _ HBW.out⟩
          have hFl : (flatP (ps.filter (fun p => !p.key.beq ⟨kk, kn, ks⟩))).length = 6 * i := by rw [flatP_len, HLN.out]
          exact ⟨hFl, .inr ⟨g, cs', rfl, hl1, hh1, q1, by show i ≤ c; omega, hcm, by rw [q2]; exact hcs, fun m hm => by rw [q3 m (by omega)]; exact HLO.out m (by omega)⟩⟩
end Go.Proofs.Ytbdpfmkpjeleaaa
