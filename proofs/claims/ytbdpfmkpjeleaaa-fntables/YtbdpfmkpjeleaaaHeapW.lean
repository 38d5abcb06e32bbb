/- A heap is copied by the law: what is laid is its own. -/
import Derived.Test.YtbdpfmkpjeleaaaHeapR
namespace Go.Proofs.Ytbdpfmkpjeleaaa
open Go.RowKit

theorem all_flatP {cs : Array Value} {vs : List Pr} (h : ∀ m (h : m < vs.length) (j : Nat), j < 6 → cs[6 * m + j]? = vs[m].cs[j]?) : ∀ m, m < (flatP vs).length → cs[m]? = (flatP vs)[m]? := by
  intro m hm
  rw [flatP_len] at hm
  have e : m = 6 * (m / 6) + m % 6 := by omega
  rw [e, h (m / 6) (by omega) (m % 6) (by omega), flatP_get vs (m / 6) (by omega) (m % 6) (by omega)]
theorem all_flatV {cs : Array Value} {vs : List Vl} (h : ∀ m (h : m < vs.length) (j : Nat), j < 3 → cs[3 * m + j]? = vs[m].cs[j]?) : ∀ m, m < (flatV vs).length → cs[m]? = (flatV vs)[m]? := by
  intro m hm
  rw [flatV_len] at hm
  have e : m = 3 * (m / 3) + m % 3 := by omega
  rw [e, h (m / 3) (by omega) (m % 3) (by omega), flatV_get vs (m / 3) (by omega) (m % 3) (by omega)]
theorem take_snoc {α β : Type} (f : α → β) (ts : List α) (i : Nat) (h : i < ts.length) : (ts.take (i + 1)).map f = (ts.take i).map f ++ [f ts[i]] := by
  rw [List.take_succ_eq_append_getElem h, List.map_append]; rfl
set_option maxRecDepth 100000 in
set_option maxHeartbeats 800000 in
theorem toPS_own (vs : List Pr) (a : Option Addr) (ca lo hi : Nat) (w : World) (hh : hi ≤ w.heap.size) (hn : vs.length ≤ 1048576) (hS : PAt w lo hi vs a) :
    Calls Try.prog 70 #[.slice a vs.length ca] w fun e w' => (∃ s : Sl, e = .returned s.v ∧ s.n = vs.length ∧ Row w' w.heap.size w'.heap.size 61 6 s (flatP vs)) ∧ Below w.heap.size w w' := by
  have hmk := run_makeV_n (P := Try.prog) 59 61 _ _ _ Try.underlying59 info_pr .i64 .i64 vs.length (by omega) (by omega)
  go_enter Try.func70, Try.ntmps70
  go_wp2_with fail
  go_loopw [4] (fun x wr => ∃ (i : Nat) (cs : Array Value), x = .int .i64 i ∧ i ≤ vs.length ∧ wr.heap[w.heap.size]? = some (.cells cs 61 (0, 0)) ∧ cs.size = 6 * vs.length ∧ (∀ m (h : m < i) (h' : m < vs.length) (j : Nat), j < 6 → cs[6 * m + j]? = vs[m].cs[j]?) ∧ Below w.heap.size w wr) (fun x _ => vs.length - (intOf x).toNat)
  case atStart => exact ⟨0, _, rfl, Nat.zero_le _, heap_alloc_new w _, by simp [size_madeCells]; omega, fun m h => absurd h (Nat.not_lt_zero _), bel_alloc w _⟩
  case round =>
    obtain ⟨i, cs, rfl, hil, hrow, hcs, hall, hbl⟩ := hrel
    by_cases hlt : i < vs.length
    · obtain ⟨hok, g, o, rfl, _, hg, hc⟩ := hS i hlt
      have x0 := (hbl.cell (p := ⟨g, o + 6 * i + 0, none⟩) (by show g < _; omega)).trans (hc 0 (by decide))
      have x1 := (hbl.cell (p := ⟨g, o + 6 * i + 1, none⟩) (by show g < _; omega)).trans (hc 1 (by decide))
      have x2 := (hbl.cell (p := ⟨g, o + 6 * i + 2, none⟩) (by show g < _; omega)).trans (hc 2 (by decide))
      have x3 := (hbl.cell (p := ⟨g, o + 6 * i + 3, none⟩) (by show g < _; omega)).trans (hc 3 (by decide))
      have x4 := (hbl.cell (p := ⟨g, o + 6 * i + 4, none⟩) (by show g < _; omega)).trans (hc 4 (by decide))
      have x5 := (hbl.cell (p := ⟨g, o + 6 * i + 5, none⟩) (by show g < _; omega)).trans (hc 5 (by decide))
      simp only [Pr.cs, List.getElem?_cons_zero, List.getElem?_cons_succ, Nat.add_zero] at x0 x1 x2 x3 x4 x5
      have mc : i * 6 = 6 * i := Nat.mul_comm _ _
      have hwr : w.heap.size < wr.heap.size := (Array.getElem?_eq_some_iff.1 hrow).1
      have HROW : Hid (wr.heap[w.heap.size]? = some (.cells cs 61 (0, 0))) := hrow
      have HALL : Hid (∀ m (h : m < i) (h' : m < vs.length) (j : Nat), j < 6 → cs[6 * m + j]? = vs[m].cs[j]?) := hall
      obtain ⟨p, hp⟩ : ∃ p, p = vs[i] := ⟨_, rfl⟩
      rw [← hp] at x0 x1 x2 x3 x4 x5 hok
      have HP : Hid (p = vs[i]) := hp
      clear hc hS hrow hall hp
      go_wp2_with fail
      refine (toP_any p wr).mono ?_
      rintro e w1 ⟨rfl, hb1⟩
      have r1 := (hb1.block w.heap.size hwr).trans HROW.out
      have f0 := frozen_of_row w1 w.heap.size (6 * i) _ _ r1
      have e0 := (cell_of_row w1 w.heap.size (6 * i) _ _ (0, 0) r1).trans (Array.getElem?_eq_getElem (xs := cs) (i := 6 * i) (by omega))
      have f1 := frozen_of_row w1 w.heap.size (6 * i + 1) _ _ r1
      have e1 := (cell_of_row w1 w.heap.size (6 * i + 1) _ _ (0, 0) r1).trans (Array.getElem?_eq_getElem (xs := cs) (i := 6 * i + 1) (by omega))
      have f2 := frozen_of_row w1 w.heap.size (6 * i + 2) _ _ r1
      have e2 := (cell_of_row w1 w.heap.size (6 * i + 2) _ _ (0, 0) r1).trans (Array.getElem?_eq_getElem (xs := cs) (i := 6 * i + 2) (by omega))
      have f3 := frozen_of_row w1 w.heap.size (6 * i + 3) _ _ r1
      have e3 := (cell_of_row w1 w.heap.size (6 * i + 3) _ _ (0, 0) r1).trans (Array.getElem?_eq_getElem (xs := cs) (i := 6 * i + 3) (by omega))
      have f4 := frozen_of_row w1 w.heap.size (6 * i + 4) _ _ r1
      have e4 := (cell_of_row w1 w.heap.size (6 * i + 4) _ _ (0, 0) r1).trans (Array.getElem?_eq_getElem (xs := cs) (i := 6 * i + 4) (by omega))
      have f5 := frozen_of_row w1 w.heap.size (6 * i + 5) _ _ r1
      have e5 := (cell_of_row w1 w.heap.size (6 * i + 5) _ _ (0, 0) r1).trans (Array.getElem?_eq_getElem (xs := cs) (i := 6 * i + 5) (by omega))
      have R1 : Hid (w1.heap[w.heap.size]? = some (.cells cs 61 (0, 0))) := r1
      clear r1
      go_wp2_with fail
      go_roundw
      case rel =>
        refine ⟨i + 1, _, by go_num, by omega, (heap_setCell_same _ _ _ _ _ _ (heap_setCell_same _ _ _ _ _ _ (heap_setCell_same _ _ _ _ _ _ (heap_setCell_same _ _ _ _ _ _ (heap_setCell_same _ _ _ _ _ _ (heap_setCell_same _ _ _ _ _ _ R1.out)))))), by simpa using hcs, fun m h h' j hj => ?_, (((((((hbl.trans (hb1.mono hbl.size)).setCell (Nat.le_refl _) _).setCell (Nat.le_refl _) _).setCell (Nat.le_refl _) _).setCell (Nat.le_refl _) _).setCell (Nat.le_refl _) _).setCell (Nat.le_refl _) _)⟩
        by_cases hm' : m = i
        · subst hm'
          rw [set6v_new cs m _ _ _ _ _ _ j hj (by omega), ← HP.out]
          rfl
        · rw [set6v_old cs i _ _ _ _ _ _ _ (by omega)]
          exact HALL.out m (by omega) h' j hj
      case measure => simp [intOf]; omega
    · obtain rfl : i = vs.length := by omega
      have HALL : Hid (∀ m (h : m < vs.length) (h' : m < vs.length) (j : Nat), j < 6 → cs[6 * m + j]? = vs[m].cs[j]?) := hall
      have hlt2 : w.heap.size < wr.heap.size := (Array.getElem?_eq_some_iff.1 hrow).1
      clear hS hall
      go_wp2_with fail
      go_ret
      exact ⟨⟨⟨_, _, _⟩, rfl, rfl, by rw [flatP_len], .inr ⟨w.heap.size, cs, rfl, Nat.le_refl _, hlt2, hrow, Nat.le_refl _, by dsimp only; unfold maxLen; omega, by rw [hcs, Nat.mul_comm], all_flatP (fun m h j hj => HALL.out m h h j hj)⟩⟩, hbl⟩
set_option maxRecDepth 100000 in
set_option maxHeartbeats 800000 in
theorem toVS_own (vs : List Vl) (a : Option Addr) (ca lo hi : Nat) (w : World) (hh : hi ≤ w.heap.size) (hn : vs.length ≤ 1048576) (hS : VAt w lo hi vs a) :
    Calls Try.prog 33 #[.slice a vs.length ca] w fun e w' => (∃ s : Sl, e = .returned s.v ∧ s.n = vs.length ∧ Row w' w.heap.size w'.heap.size 32 3 s (flatV vs)) ∧ Below w.heap.size w w' := by
  have hmk := run_makeV_n (P := Try.prog) 28 32 _ _ _ Try.underlying28 info_val .i64 .i64 vs.length (by omega) (by omega)
  go_enter Try.func33, Try.ntmps33
  go_wp2_with fail
  go_loopw [4] (fun x wr => ∃ (i : Nat) (cs : Array Value), x = .int .i64 i ∧ i ≤ vs.length ∧ wr.heap[w.heap.size]? = some (.cells cs 32 (0, 0)) ∧ cs.size = 3 * vs.length ∧ (∀ m (h : m < i) (h' : m < vs.length) (j : Nat), j < 3 → cs[3 * m + j]? = vs[m].cs[j]?) ∧ Below w.heap.size w wr) (fun x _ => vs.length - (intOf x).toNat)
  case atStart => exact ⟨0, _, rfl, Nat.zero_le _, heap_alloc_new w _, by simp [size_madeCells]; omega, fun m h => absurd h (Nat.not_lt_zero _), bel_alloc w _⟩
  case round =>
    obtain ⟨i, cs, rfl, hil, hrow, hcs, hall, hbl⟩ := hrel
    by_cases hlt : i < vs.length
    · obtain ⟨hok, g, o, rfl, _, hg, hc⟩ := hS i hlt
      have x0 := (hbl.cell (p := ⟨g, o + 3 * i + 0, none⟩) (by show g < _; omega)).trans (hc 0 (by decide))
      have x1 := (hbl.cell (p := ⟨g, o + 3 * i + 1, none⟩) (by show g < _; omega)).trans (hc 1 (by decide))
      have x2 := (hbl.cell (p := ⟨g, o + 3 * i + 2, none⟩) (by show g < _; omega)).trans (hc 2 (by decide))
      simp only [Vl.cs, List.getElem?_cons_zero, List.getElem?_cons_succ, Nat.add_zero] at x0 x1 x2
      have mc : i * 3 = 3 * i := Nat.mul_comm _ _
      have hwr : w.heap.size < wr.heap.size := (Array.getElem?_eq_some_iff.1 hrow).1
      have HROW : Hid (wr.heap[w.heap.size]? = some (.cells cs 32 (0, 0))) := hrow
      have HALL : Hid (∀ m (h : m < i) (h' : m < vs.length) (j : Nat), j < 3 → cs[3 * m + j]? = vs[m].cs[j]?) := hall
      obtain ⟨p, hp⟩ : ∃ p, p = vs[i] := ⟨_, rfl⟩
      rw [← hp] at x0 x1 x2 hok
      have HP : Hid (p = vs[i]) := hp
      clear hc hS hrow hall hp
      go_wp2_with fail
      refine (toV_any p.k p.n p.s wr).mono ?_
      rintro e w1 ⟨rfl, hb1⟩
      have r1 := (hb1.block w.heap.size hwr).trans HROW.out
      have f0 := frozen_of_row w1 w.heap.size (3 * i) _ _ r1
      have e0 := (cell_of_row w1 w.heap.size (3 * i) _ _ (0, 0) r1).trans (Array.getElem?_eq_getElem (xs := cs) (i := 3 * i) (by omega))
      have f1 := frozen_of_row w1 w.heap.size (3 * i + 1) _ _ r1
      have e1 := (cell_of_row w1 w.heap.size (3 * i + 1) _ _ (0, 0) r1).trans (Array.getElem?_eq_getElem (xs := cs) (i := 3 * i + 1) (by omega))
      have f2 := frozen_of_row w1 w.heap.size (3 * i + 2) _ _ r1
      have e2 := (cell_of_row w1 w.heap.size (3 * i + 2) _ _ (0, 0) r1).trans (Array.getElem?_eq_getElem (xs := cs) (i := 3 * i + 2) (by omega))
      have R1 : Hid (w1.heap[w.heap.size]? = some (.cells cs 32 (0, 0))) := r1
      clear r1
      go_wp2_with fail
      go_roundw
      case rel =>
        refine ⟨i + 1, _, by go_num, by omega, (heap_setCell_same _ _ _ _ _ _ (heap_setCell_same _ _ _ _ _ _ (heap_setCell_same _ _ _ _ _ _ R1.out))), by simpa using hcs, fun m h h' j hj => ?_, ((((hbl.trans (hb1.mono hbl.size)).setCell (Nat.le_refl _) _).setCell (Nat.le_refl _) _).setCell (Nat.le_refl _) _)⟩
        by_cases hm' : m = i
        · subst hm'
          rw [set3v_new cs m _ _ _ j hj (by omega), ← HP.out]
          rfl
        · rw [set3v_old cs i _ _ _ _ (by omega)]
          exact HALL.out m (by omega) h' j hj
      case measure => simp [intOf]; omega
    · obtain rfl : i = vs.length := by omega
      have HALL : Hid (∀ m (h : m < vs.length) (h' : m < vs.length) (j : Nat), j < 3 → cs[3 * m + j]? = vs[m].cs[j]?) := hall
      have hlt2 : w.heap.size < wr.heap.size := (Array.getElem?_eq_some_iff.1 hrow).1
      clear hS hall
      go_wp2_with fail
      go_ret
      exact ⟨⟨⟨_, _, _⟩, rfl, rfl, by rw [flatV_len], .inr ⟨w.heap.size, cs, rfl, Nat.le_refl _, hlt2, hrow, Nat.le_refl _, by dsimp only; unfold maxLen; omega, by rw [hcs, Nat.mul_comm], all_flatV (fun m h j hj => HALL.out m h h j hj)⟩⟩, hbl⟩
set_option maxRecDepth 100000 in
set_option maxHeartbeats 800000 in
theorem toT_own (ts : List (List Pr)) (a : Option Addr) (ca lo hi : Nat) (w : World) (hh : hi ≤ w.heap.size) (hn : wtT ts ≤ 1048576) (hS : TAt w lo hi ts a) :
    Calls Try.prog 32 #[.slice a ts.length ca] w fun e w' => (∃ (sp : Sl) (ss : List Sl), e = .returned sp.v ∧ sp.n = ts.length ∧ Row w' w.heap.size w'.heap.size 59 1 sp (ss.map Sl.v) ∧ Tabs w' w.heap.size w'.heap.size ss (ts.map flatP)) ∧ Below w.heap.size w w' := by
  have hln := len_wtT ts
  have hmk := run_makeV_n (P := Try.prog) 27 59 _ _ _ Try.underlying27 info_prs .i64 .i64 ts.length (by omega) (by omega)
  go_enter Try.func32, Try.ntmps32
  go_wp2_with fail
  go_loopw [4] (fun x wr => ∃ (i : Nat) (cs : Array Value) (ss : List Sl), x = .int .i64 i ∧ i ≤ ts.length ∧ wr.heap[w.heap.size]? = some (.cells cs 59 (0, 0)) ∧ cs.size = ts.length ∧ Hid (ss.length = i) ∧ (∀ m (h : m < ss.length), cs[m]? = some ss[m].v) ∧ Tabs wr (w.heap.size + 1) wr.heap.size ss ((ts.take i).map flatP) ∧ Below w.heap.size w wr) (fun x _ => ts.length - (intOf x).toNat)
  case atStart => exact ⟨0, _, [], rfl, Nat.zero_le _, heap_alloc_new w _, by simp [size_madeCells], rfl, fun m h => absurd h (Nat.not_lt_zero _), by simpa using Tabs.nil _ (by simp), bel_alloc w _⟩
  case round =>
    obtain ⟨i, cs, ss, rfl, hil, hrow, hcs, HSL, hall, hta, hbl⟩ := hrel
    by_cases hlt : i < ts.length
    · obtain ⟨hl, g, o, b0, cb0, rfl, _, hg, hc, hP⟩ := hS i hlt
      have x0 := (hbl.cell (p := ⟨g, o + i, none⟩) (by show g < _; omega)).trans hc
      have hP' := hP.below hbl hh
      have hwm := wtT_mem ts i hlt
      have hwr : w.heap.size < wr.heap.size := (Array.getElem?_eq_some_iff.1 hrow).1
      have HROW : Hid (wr.heap[w.heap.size]? = some (.cells cs 59 (0, 0))) := hrow
      have HALL : Hid (∀ m (h : m < ss.length), cs[m]? = some ss[m].v) := hall
      have HTA : Hid (Tabs wr (w.heap.size + 1) wr.heap.size ss ((ts.take i).map flatP)) := hta
      have HTS : Hid ((ts.take (i + 1)).map flatP = (ts.take i).map flatP ++ [flatP ts[i]]) := take_snoc flatP ts i hlt
      obtain ⟨t, ht⟩ : ∃ t, t = ts[i] := ⟨_, rfl⟩
      rw [← ht] at x0 hP' hwm hl HTS
      clear hc hS hrow hall hP ht hta
      go_wp2_with fail
      refine (toPS_own t b0 cb0 lo hi wr (Nat.le_trans hh hbl.size) (by omega) hP').mono ?_
      rintro e w1 ⟨⟨⟨b1, n1, cb1⟩, rfl, hn1, hP1⟩, hb1⟩
      have HN1 : Hid (n1 = t.length) := hn1
      clear hn1
      dsimp only [Sl.v]
      have r1 := (hb1.block w.heap.size hwr).trans HROW.out
      have f0 := frozen_of_row w1 w.heap.size i _ _ r1
      have e0 := (cell_of_row w1 w.heap.size i _ _ (0, 0) r1).trans (Array.getElem?_eq_getElem (xs := cs) (i := i) (by omega))
      have R1 : Hid (w1.heap[w.heap.size]? = some (.cells cs 59 (0, 0))) := r1
      clear r1
      go_wp2_with fail
      go_roundw
      case rel =>
        have hs1 := hb1.size
        have fr : ∀ b, w.heap.size + 1 ≤ b → (w1.setCell ⟨w.heap.size, i, none⟩ (.slice b1 n1 cb1)).heap[b]? = w1.heap[b]? := fun b h1 => heap_setCell_other _ _ _ _ (by show b ≠ w.heap.size; omega)
        refine ⟨i + 1, _, ss ++ [⟨b1, n1, cb1⟩], by go_num, by omega, heap_setCell_same _ _ _ _ _ _ R1.out, by simpa using hcs, by show _ = _; rw [List.length_append, HSL.out]; rfl, fun m h => ?_, ?_, (hbl.trans (hb1.mono hbl.size)).setCell (Nat.le_refl _) _⟩
        · have hsl := HSL.out
          rw [List.length_append, List.length_singleton] at h
          by_cases hm' : m < ss.length
          · rw [List.getElem_append_left hm', Array.getElem?_setIfInBounds, if_neg (by omega)]
            exact HALL.out m hm'
          · obtain rfl : m = ss.length := by omega
            rw [Array.getElem?_setIfInBounds, if_pos hsl.symm, if_pos (by omega)]
            simp [Sl.v]
        · rw [HTS.out]
          refine Tabs.snoc (m := wr.heap.size) ((HTA.out.below hb1).keep fun b h1 _ _ => fr b h1) ((hP1.keep fun b h1 _ _ => fr b (by omega)).wide (Nat.le_refl _) (by simp)) (by simp; omega) (by omega)
      case measure => simp [intOf]; omega
    · obtain rfl : i = ts.length := by omega
      have hlt2 : w.heap.size < wr.heap.size := (Array.getElem?_eq_some_iff.1 hrow).1
      have HALL : Hid (∀ m (h : m < ss.length), cs[m]? = some ss[m].v) := hall
      rw [List.take_length] at hta
      have HTA : Hid (Tabs wr (w.heap.size + 1) wr.heap.size ss (ts.map flatP)) := hta
      clear hS hall hta
      go_wp2_with fail
      go_ret
      exact ⟨⟨⟨_, _, _⟩, ss, rfl, rfl, ⟨by rw [List.length_map, HSL.out]; simp, .inr ⟨w.heap.size, cs, rfl, Nat.le_refl _, hlt2, hrow, Nat.le_refl _, by dsimp only; unfold maxLen; omega, by rw [hcs, Nat.mul_one], fun m hm => by rw [List.length_map] at hm; rw [HALL.out m hm, List.getElem?_map, List.getElem?_eq_getElem hm]; rfl⟩⟩, HTA.out.wide (by omega) (Nat.le_refl _)⟩, hbl⟩
set_option maxRecDepth 100000 in
set_option maxHeartbeats 800000 in
theorem toH_own (h : Hp) (v : List Value) (lo hi : Nat) (w : World) (hN : HAt w lo hi h v) (hh : hi ≤ w.heap.size) (h1 : h.wt ≤ 1048576) :
    Calls Try.prog 8 #[.agg v.toArray] w fun e w' => (∃ (sp cl : Sl) (ss : List Sl), e = .returned (.agg #[sp.v, cl.v]) ∧ sp.n = h.ts.length ∧ cl.n = h.vs.length ∧ HLay w' w.heap.size w'.heap.size sp cl ss h.xss (flatV h.vs)) ∧ Below w.heap.size w w' := by
  obtain ⟨a, ca, b, cb, rfl, h2, h3, hT, hV⟩ := hN
  unfold Hp.wt at h1
  obtain ⟨rA, rB, rC, hs0, B0⟩ := rows3 w (Obj.cells #[.slice a h.ts.length ca, .slice b h.vs.length cb] 25) (Obj.cells #[.slice none 0 0, .slice none 0 0] 30) (Obj.cells #[.slice none 0 0, .slice none 0 0] 30)
  go_enter Try.func8, Try.ntmps8
  go_wp2_with fail
  refine (toT_own h.ts a ca lo hi _ (by rw [hs0]; omega) (by omega) (hT.below B0 hh)).mono ?_
  rintro e w1 ⟨⟨⟨b1, n1, cb1⟩, ss, rfl, hn1, hS1, hT1⟩, hb1⟩
  dsimp only at hn1
  subst hn1
  dsimp only [Sl.v]
  rw [hs0] at hS1
  rw [hs0] at hT1
  have hs1 := hb1.size
  rw [hs0] at hs1
  have B1 := B0.trans (hb1.mono (by rw [hs0]; omega))
  have rA1 := (hb1.block w.heap.size (by rw [hs0]; omega)).trans rA
  have rB1 := (hb1.block (w.heap.size + 1) (by rw [hs0]; omega)).trans rB
  have rC1 := (hb1.block (w.heap.size + 1 + 1) (by rw [hs0]; omega)).trans rC
  clear rA rB rC hb1 B0 hs0
  have a0 := cell_of_row _ _ 0 _ _ _ rA1
  have a1 := cell_of_row _ _ 1 _ _ _ rA1
  have c0 := cell_of_row _ _ 0 _ _ _ rC1
  have c1 := cell_of_row _ _ 1 _ _ _ rC1
  have f0 := frozen_of_row _ _ 0 _ _ rC1
  have f1 := frozen_of_row _ _ 1 _ _ rC1
  simp only [List.getElem?_toArray, List.getElem?_cons_zero, List.getElem?_cons_succ] at a0 a1 c0 c1
  go_wp2_with fail
  have hV1 : VAt (w1.setCell ⟨w.heap.size + 1 + 1, 0, none⟩ (.slice b1 h.ts.length cb1)) lo hi h.vs b := (hV.below B1 hh).later (Nat.le_refl _) (Nat.le_refl _) fun p h1 h2 => World.cell?_of_block (w := w1) (heap_setCell_other _ _ _ _ (by show p.block ≠ w.heap.size + 1 + 1; omega))
  refine (toVS_own h.vs b cb lo hi _ (by simp; omega) (by omega) hV1).mono ?_
  rintro e w2 ⟨⟨⟨b2, n2, cb2⟩, rfl, hn2, hV2⟩, hb2⟩
  dsimp only at hn2
  subst hn2
  dsimp only [Sl.v]
  have hs2 := hb2.size
  simp at hs2
  rw [show (w1.setCell ⟨w.heap.size + 1 + 1, 0, none⟩ (.slice b1 h.ts.length cb1)).heap.size = w1.heap.size by simp] at hV2
  have rB2 := (hb2.block (w.heap.size + 1) (by simp; omega)).trans ((heap_setCell_other _ _ _ _ (by simp)).trans rB1)
  have rC2 := (hb2.block (w.heap.size + 1 + 1) (by simp; omega)).trans (heap_setCell_same _ _ 0 _ _ (.slice b1 h.ts.length cb1) rC1)
  have B2 : Below w.heap.size w w2 := (B1.setCell (show w.heap.size ≤ w.heap.size + 1 + 1 by omega) _).trans (hb2.mono (by simp; omega))
  have fr2 : ∀ b, b ≠ w.heap.size + 1 + 1 → b < w1.heap.size → w2.heap[b]? = w1.heap[b]? := fun b h1 h2 => (hb2.block b (by simpa using h2)).trans (heap_setCell_other _ _ _ _ (by show b ≠ w.heap.size + 1 + 1; exact h1))
  have FR2 : Hid (∀ b, b ≠ w.heap.size + 1 + 1 → b < w1.heap.size → w2.heap[b]? = w1.heap[b]?) := fr2
  have HT1 : Hid (Tabs w1 (w.heap.size + 3) w1.heap.size ss (h.ts.map flatP)) := hT1
  have HS1 : Hid (Row w1 (w.heap.size + 3) w1.heap.size 59 1 ⟨b1, h.ts.length, cb1⟩ (ss.map Sl.v)) := hS1
  have HV2 : Hid (Row w2 w1.heap.size w2.heap.size 32 3 ⟨b2, h.vs.length, cb2⟩ (flatV h.vs)) := hV2
  clear rA1 rB1 rC1 a0 a1 c0 c1 f0 f1 hb2 fr2 hT1 hS1 hV2 hV hT hV1
  have c0 := cell_of_row _ _ 0 _ _ _ rC2
  have c1 := cell_of_row _ _ 1 _ _ _ rC2
  have f0 := frozen_of_row _ _ 0 _ _ rC2
  have f1 := frozen_of_row _ _ 1 _ _ rC2
  have d0 := cell_of_row _ _ 0 _ _ _ rB2
  have d1 := cell_of_row _ _ 1 _ _ _ rB2
  have g0 := frozen_of_row _ _ 0 _ _ rB2
  have g1 := frozen_of_row _ _ 1 _ _ rB2
  simp at c0 c1 d0 d1
  go_wp2_with fail
  have fr3 : ∀ (W : World), (∀ b, w.heap.size + 3 ≤ b → W.heap[b]? = w2.heap[b]?) → w2.heap.size ≤ W.heap.size → HLay W w.heap.size W.heap.size ⟨b1, h.ts.length, cb1⟩ ⟨b2, h.vs.length, cb2⟩ ss h.xss (flatV h.vs) := fun W hW hz => by
    have k2 : ∀ b, w.heap.size + 3 ≤ b → b < w1.heap.size → W.heap[b]? = w1.heap[b]? := fun b h1 h2 => (hW b h1).trans (FR2.out b (by omega) h2)
    exact ⟨(HS1.out.keep fun b h1 h2 _ => k2 b h1 h2).wide (by omega) (by omega), (HT1.out.keep fun b h1 h2 _ => k2 b h1 h2).wide (by omega) (by omega), (HV2.out.keep fun b h1 _ _ => hW b (by omega)).wide (by omega) (by omega)⟩
  refine bodyPost_ret (v := .agg #[.slice b1 h.ts.length cb1, .slice b2 h.vs.length cb2]) (by simp [results, Try.results8, go_sem, *]) rfl ⟨⟨⟨b1, h.ts.length, cb1⟩, ⟨b2, h.vs.length, cb2⟩, ss, rfl, rfl, rfl, ?_⟩, ?_⟩
  · refine fr3 _ (fun b hb => ?_) (by simp)
    rw [heap_setCell_other _ _ _ _ (by show b ≠ w.heap.size + 1; omega), heap_setCell_other _ _ _ _ (by show b ≠ w.heap.size + 1; omega), heap_setCell_other _ _ _ _ (by show b ≠ w.heap.size + 1 + 1; omega)]
  · repeat (first | (with_reducible exact B2) | (with_reducible refine Below.setCell ?_ (by simp <;> omega) _))
end Go.Proofs.Ytbdpfmkpjeleaaa
