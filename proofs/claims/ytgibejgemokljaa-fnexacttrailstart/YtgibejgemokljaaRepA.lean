/- A row of one number, over and over: slices.Repeat. -/
import Derived.Test.YtgibejgemokljaaOwV
import Derived.Test.YtgibejgemokljaaShelfB
import Derived.Laws.CopyRow
import Derived.Shelf.Spec.SlicesInsert
import Derived.Deep.RegionLaw
namespace Go.Proofs.Ytgibejgemokljaa
open Go.RowKit Go

theorem min_one (n : Nat) (h : 0 < n) : Nat.min 1 n = 1 := Nat.min_eq_left h
theorem below_setRow {B : Nat} {a w : World} (h : Below B a w) (b : Nat) (hb : B ≤ b) (row : Array Value) : Below B a (w.setRow b row) :=
  ⟨h.os, h.tape, h.output, by simpa [World.setRow] using h.size, fun k hk => by
    rw [← h.block k hk]; simp [World.setRow, Array.getElem?_modify]; intro e; omega⟩
def neg1 : Value := .int .i64 (-1)
theorem copy_neg {P : Program} {W W0 : World} {T e : TypeId} {b o n sLen dLen dCap sCap k B : Nat} {ad : Addr} {cur : Array Value} {ty : TypeId} (hu : P.underlying T = some (.slice e)) (hs : (P.info? e).map (·.size) = some 1)
    (hg : W.heap[b]? = some (.cells cur e (0, 0))) (hk : k = Nat.min sLen dLen) (hsrc : ∀ j, j < k → W.cell? (ad.add j) = some neg1) (hc : cur.size = n) (hfit : o + k ≤ n) (hpre : ∀ j, j < o → cur[j]? = some neg1) (hB : Below B W0 W) (hb : B ≤ b) :
    ∃ W' cur', (Builtin.copy_ #[T, T] ty #[.slice (some ⟨b, o, none⟩) dLen dCap, .slice (some ad) sLen sCap]).run P W = .ok (.int .i64 (k : Int)) W' ∧ W'.heap[b]? = some (.cells cur' e (0, 0)) ∧ cur'.size = n ∧ (∀ j, j < o + k → cur'[j]? = some neg1) ∧ Below B W0 W' := by
  have hr := run_copy_row (P := P) W T T ty e b o dLen dCap ad sLen sCap cur e (List.replicate k neg1) hu hs hg (by simp [hk]) (fun j v hv => by
    rw [List.getElem?_replicate] at hv
    split at hv
    · cases hv; exact hsrc j (by assumption)
    · cases hv) (by simp; omega) (fun v hv => by rw [List.eq_of_mem_replicate hv]; rfl)
  rw [List.length_replicate] at hr
  refine ⟨_, _, hr, setRow_heap W b cur _ e _ hg, by simp; omega, fun j hj => ?_, below_setRow hB b hb _⟩
  simp only [List.getElem?_toArray]
  by_cases h1 : j < o
  · rw [List.append_assoc, List.getElem?_append_left (by simp; omega), List.getElem?_take, if_pos h1, Array.getElem?_toList]; exact hpre j h1
  · rw [List.append_assoc, List.getElem?_append_right (by simp; omega), List.getElem?_append_left (by simp; omega), List.getElem?_replicate, if_pos (by simp; omega)]
set_option maxRecDepth 100000 in
set_option maxHeartbeats 3200000 in
theorem repeat_impl (g n : Nat) (T : TypeId) (w : World) (hg : w.heap[g]? = some (.cells #[.int .i64 (-1)] T (0, 0))) (hn : n ≤ 1000000) :
    Calls Try.prog 116 #[.slice (some ⟨g, 0, none⟩) 1 1, .int .i64 n] w fun e w' => (∃ b cb, e = .returned (.slice b n cb) ∧ RowD 1 IntOwn w' (In w.heap.size w'.heap.size) (List.replicate n (-1)) b) ∧ Below w.heap.size w w' := by
  have hmk := run_makeO_n (P := Try.prog) 76 3 _ _ _ Try.underlying76 infO_Int .i64 .i64 n (by omega) (by omega)
  have hgl : g < w.heap.size := (Array.getElem?_eq_some_iff.1 hg).1
  have hsz : (Try.prog.info? 3).map (·.size) = some 1 := by kernel_rfl
  have hgA := (bel_alloc w (Obj.cells (madeCells #[.int .i64 0] n) 3)).block g hgl
  rw [hg] at hgA
  obtain ⟨W2, cur0, hcp, hr2, hs2, hp2, hB2⟩ := copy_neg (P := Try.prog) (W := w.alloc (Obj.cells (madeCells #[.int .i64 0] n) 3)) (W0 := w) (T := 76) (e := 3) (b := w.heap.size) (o := 0) (n := n) (sLen := 1) (dLen := n) (dCap := n) (sCap := 1) (k := Nat.min 1 n) (B := w.heap.size) (ad := ⟨g, 0, none⟩) (ty := 3) Try.underlying76 hsz (heap_alloc_new w _) rfl (fun j hj => by
    have : j = 0 := by have h1 : Nat.min 1 n ≤ 1 := Nat.min_le_left 1 n; omega
    subst this
    exact cell_of_row _ _ 0 _ _ _ hgA) (by simp [size_madeCells]) (by have h1 : Nat.min 1 n ≤ n := Nat.min_le_right 1 n; omega) (fun j hj => absurd hj (Nat.not_lt_zero _)) (bel_alloc w _) (Nat.le_refl _)
  clear hgA hg
  go_enter Try.func116, Try.ntmps116
  go_wp2_with fail
  refine (Try.bits_Mul 1 n (by omega) (by omega) w).mono ?_
  rintro e w1 ⟨rfl, rfl⟩
  rw [show 1 * n / 18446744073709551616 = 0 by omega, show 1 * n % 18446744073709551616 = n by omega]
  have hm1 : Nat.min 1 n ≤ n := Nat.min_le_right 1 n
  have hm2 : 0 < n → 0 < Nat.min 1 n := fun h => by rw [min_one n h]; decide
  have HM2 : Hid (0 < n → 0 < Nat.min 1 n) := hm2
  have H2 : Hid (W2.heap[w1.heap.size]? = some (.cells cur0 3 (0, 0)) ∧ cur0.size = n ∧ (∀ j, j < Nat.min 1 n → cur0[j]? = some neg1) ∧ Below w1.heap.size w1 W2) := ⟨hr2, hs2, fun j hj => hp2 j (by omega), hB2⟩
  clear hr2 hs2 hp2 hB2 hm2
  generalize Nat.min 1 n = m0 at *
  go_wp2_with fail
  go_loopw [8] (fun x wr => ∃ (m : Nat) (cur : Array Value), x = .int .i64 m ∧ m ≤ n ∧ (0 < n → 0 < m) ∧ wr.heap[w1.heap.size]? = some (.cells cur 3 (0, 0)) ∧ cur.size = n ∧ (∀ j, j < m → cur[j]? = some neg1) ∧ Below w1.heap.size w1 wr) (fun x _ => n - (intOf x).toNat)
  case atStart => exact ⟨m0, cur0, rfl, hm1, HM2.out, H2.out.1, H2.out.2.1, H2.out.2.2.1, H2.out.2.2.2⟩
  case round =>
    obtain ⟨m, cur, rfl, hmn, hm0, hr, hs, hp, hB⟩ := hrel
    by_cases hlt : m < n
    · have hmp : 0 < m := hm0 (by omega)
      have hkle : Nat.min m (n - m) ≤ n - m := Nat.min_le_right m (n - m)
      have hkle2 : Nat.min m (n - m) ≤ m := Nat.min_le_left m (n - m)
      have hkp : 0 < Nat.min m (n - m) := Nat.lt_min.2 ⟨hmp, by omega⟩
      obtain ⟨W3, cur3, hcp3, hr3, hs3, hp3, hB3⟩ := copy_neg (P := Try.prog) (W := wr.drew) (W0 := w1) (T := 76) (e := 3) (b := w1.heap.size) (o := m) (n := n) (sLen := m) (dLen := n - m) (dCap := n - m) (sCap := n) (k := Nat.min m (n - m)) (B := w1.heap.size) (ad := ⟨w1.heap.size, 0, none⟩) (ty := 3) (cur := cur) Try.underlying76 hsz hr rfl (fun j hj => by
        have e : (⟨w1.heap.size, 0, none⟩ : Addr).add j = ⟨w1.heap.size, j, none⟩ := by unfold Addr.add; split <;> simp_all
        rw [e]
        exact (cell_of_row _ _ j _ _ _ hr).trans (hp j (by omega))) hs (by omega) (fun j hj => hp j hj) hB.drew (Nat.le_refl _)
      have H3 : Hid (W3.heap[w1.heap.size]? = some (.cells cur3 3 (0, 0)) ∧ cur3.size = n ∧ (∀ j, j < m + Nat.min m (n - m) → cur3[j]? = some neg1) ∧ Below w1.heap.size w1 W3) := ⟨hr3, hs3, hp3, hB3⟩
      clear hr3 hs3 hp3 hB3 hr hs hp hB hm0
      generalize Nat.min m (n - m) = k at *
      have hwr : IntKind.i64.wrap ((m : Int) + k) = ((m + k : Nat) : Int) := by rw [IntKind.wrap_i64]; omega
      go_wp2_with fail
      go_region_law (refine step_copy_runI rfl _ _ 76 76 rfl (.slice (some ⟨w1.heap.size, m, none⟩) (n - m) (n - m)) (.slice (some ⟨w1.heap.size, 0, none⟩) m n) (by simp [Act.eval, Act.put]; omega) (by simp [Act.eval, Act.put]) hcp3 ?_)
      all_goals
        go_wp2_with fail
        go_roundw
        case rel => exact ⟨m + k, by omega, by omega, fun _ => by omega, cur3, H3.out.1, H3.out.2.1, H3.out.2.2.1, H3.out.2.2.2⟩
        case measure => simp [intOf]; omega
    · obtain rfl : m = n := by omega
      have HR : Hid (RowD 1 IntOwn wr (In w1.heap.size wr.heap.size) (List.replicate m (-1)) (some ⟨w1.heap.size, 0, none⟩)) := .inr ⟨w1.heap.size, cur, _, rfl, ⟨Nat.le_refl _, (Array.getElem?_eq_some_iff.1 hr).1⟩, hr, by rw [List.length_replicate, hs, Nat.one_mul]; exact Nat.le_refl _, fun _ _ => False, Parts.none _, fun i hi => ⟨[neg1], ⟨by rw [List.getElem_replicate]; exact ⟨by decide, by decide⟩, by rw [List.getElem_replicate]; rfl⟩, rfl, fun j hj => by
        rw [List.length_replicate] at hi
        obtain rfl : j = 0 := by omega
        rw [Nat.one_mul, Nat.add_zero]
        exact hp i hi⟩⟩
      clear hp
      go_wp2_with fail
      go_ret
      exact ⟨⟨_, _, rfl, HR.out⟩, hB⟩
end Go.Proofs.Ytgibejgemokljaa
