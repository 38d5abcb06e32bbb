/- The laws' copies of trails are data of one's own. -/
import Derived.Test.YtgibejgemokljaaOwV
import Derived.Test.YtgibejgemokljaaTrW
namespace Go.Proofs.Ytgibejgemokljaa
open Go.RowKit

theorem infO_Vm : (Try.prog.info? 43).map (fun i => (i.zero, i.size, i.bytes)) = some (some (.agg #[.slice none 0 0, .slice none 0 0, .slice none 0 0, .slice none 0 0, .slice none 0 0, .int .i64 0, .int .i64 0, .int .i64 0, .int .i64 0, .string ByteArray.empty]), 10, 168) := by kernel_rfl
set_option maxRecDepth 100000 in
set_option maxHeartbeats 800000 in
theorem owVmS_any (xs : List VmD) (a : Option Addr) (ca lo hi : Nat) (w : World) (hh : hi ≤ w.heap.size) (hw : wtR VmD.wt xs ≤ 1048576) (hS : RowAt 10 VmC w lo hi xs a) :
    Calls Try.prog 72 #[.slice a xs.length ca] w fun e w' => (∃ b cb, e = .returned (.slice b xs.length cb) ∧ RowD 10 VmOwn w' (In w.heap.size w'.heap.size) xs b) ∧ Below w.heap.size w w' := by
  have hn := len_wtR VmD.wt xs
  have hmk := run_makeO_n (P := Try.prog) 49 43 _ _ _ Try.underlying49 infO_Vm .i64 .i64 xs.length (by omega) (by omega)
  go_enter Try.func72, Try.ntmps72
  go_wp2_with fail
  go_loopw [4] (fun x wr => ∃ (i : Nat) (cs : Array Value) (U : Nat → Nat → Prop), x = .int .i64 i ∧ i ≤ xs.length ∧ wr.heap[w.heap.size]? = some (.cells cs 43 (0, 0)) ∧ cs.size = 10 * xs.length ∧ Parts U (In (w.heap.size + 1) wr.heap.size) ∧ (∀ m (h : m < i) (h' : m < xs.length), ∃ l, VmOwn wr (U m) xs[m] l ∧ l.length = 10 ∧ ∀ j, j < 10 → cs[10 * m + j]? = l[j]?) ∧ Below w.heap.size w wr) (fun x _ => xs.length - (intOf x).toNat)
  case atStart => exact ⟨0, _, (fun _ _ => False), rfl, Nat.zero_le _, heap_alloc_new w _, by simp [size_madeCells]; omega, Parts.none _, fun m h => absurd h (Nat.not_lt_zero _), bel_alloc w _⟩
  case round =>
    obtain ⟨i, cs, U, rfl, hil, hrow, hcs, hP, hall, hbl⟩ := hrel
    by_cases hlt : i < xs.length
    · obtain ⟨g, o, cx, rfl, _, hg, hC, _, hc⟩ := hS i hlt
      have hC1 := VmC_keeps.below hC hbl hh
      have hC2 := hC1
      obtain ⟨ok, a_heap_tables, c_heap_tables, a_heap_cells, c_heap_cells, a_funs, c_funs, a_frames, c_frames, a_out, c_out, rfl, l_heap_tables, r_heap_tables, l_heap_cells, r_heap_cells, l_funs, r_funs, l_frames, r_frames, l_out, r_out⟩ := hC1
      have x0 := (hbl.cell (p := ⟨g, o + 10 * i + 0, none⟩) (by show g < _; omega)).trans (hc 0 (by decide))
      have x1 := (hbl.cell (p := ⟨g, o + 10 * i + 1, none⟩) (by show g < _; omega)).trans (hc 1 (by decide))
      have x2 := (hbl.cell (p := ⟨g, o + 10 * i + 2, none⟩) (by show g < _; omega)).trans (hc 2 (by decide))
      have x3 := (hbl.cell (p := ⟨g, o + 10 * i + 3, none⟩) (by show g < _; omega)).trans (hc 3 (by decide))
      have x4 := (hbl.cell (p := ⟨g, o + 10 * i + 4, none⟩) (by show g < _; omega)).trans (hc 4 (by decide))
      have x5 := (hbl.cell (p := ⟨g, o + 10 * i + 5, none⟩) (by show g < _; omega)).trans (hc 5 (by decide))
      have x6 := (hbl.cell (p := ⟨g, o + 10 * i + 6, none⟩) (by show g < _; omega)).trans (hc 6 (by decide))
      have x7 := (hbl.cell (p := ⟨g, o + 10 * i + 7, none⟩) (by show g < _; omega)).trans (hc 7 (by decide))
      have x8 := (hbl.cell (p := ⟨g, o + 10 * i + 8, none⟩) (by show g < _; omega)).trans (hc 8 (by decide))
      have x9 := (hbl.cell (p := ⟨g, o + 10 * i + 9, none⟩) (by show g < _; omega)).trans (hc 9 (by decide))
      simp only [List.getElem?_cons_zero, List.getElem?_cons_succ, Nat.add_zero] at x0 x1 x2 x3 x4 x5 x6 x7 x8 x9
      have mc : i * 10 = 10 * i := Nat.mul_comm _ _
      have hwm := wtR_mem VmD.wt xs i hlt
      have hwr : w.heap.size < wr.heap.size := (Array.getElem?_eq_some_iff.1 hrow).1
      have HROW : Hid (wr.heap[w.heap.size]? = some (.cells cs 43 (0, 0))) := hrow
      have HALL : Hid (∀ m (h : m < i) (h' : m < xs.length), ∃ l, VmOwn wr (U m) xs[m] l ∧ l.length = 10 ∧ ∀ j, j < 10 → cs[10 * m + j]? = l[j]?) := hall
      obtain ⟨x, hx⟩ : ∃ x, x = xs[i] := ⟨_, rfl⟩
      rw [← hx] at x0 x1 x2 x3 x4 x5 x6 x7 x8 x9 hC2 ok hwm l_heap_tables r_heap_tables l_heap_cells r_heap_cells l_funs r_funs l_frames r_frames l_out r_out
      have HX : Hid (x = xs[i]) := hx
      clear hc hS hrow hall hx hC
      go_wp2_with fail
      refine (owVm_any x _ lo hi wr (Nat.le_trans hh hbl.size) (by omega) hC2).mono ?_
      rintro e w1 ⟨⟨cs', rfl, hR⟩, hb1⟩
      have hR2 := hR
      obtain ⟨ok2, V2, pv2, n_a_heap_tables, n_c_heap_tables, n_a_heap_cells, n_c_heap_cells, n_a_funs, n_c_funs, n_a_frames, n_c_frames, n_a_out, n_c_out, rfl, n_r_heap, n_l_funs, n_r_funs, n_l_frames, n_r_frames, n_l_out, n_r_out⟩ := hR
      have r1 := (hb1.block w.heap.size hwr).trans HROW.out
      have f0 := frozen_of_row w1 w.heap.size (10 * i) _ _ r1
      have e0 := (cell_of_row w1 w.heap.size (10 * i) _ _ (0, 0) r1).trans (Array.getElem?_eq_getElem (xs := cs) (i := 10 * i) (by omega))
      have f1 := frozen_of_row w1 w.heap.size (10 * i + 1) _ _ r1
      have e1 := (cell_of_row w1 w.heap.size (10 * i + 1) _ _ (0, 0) r1).trans (Array.getElem?_eq_getElem (xs := cs) (i := 10 * i + 1) (by omega))
      have f2 := frozen_of_row w1 w.heap.size (10 * i + 2) _ _ r1
      have e2 := (cell_of_row w1 w.heap.size (10 * i + 2) _ _ (0, 0) r1).trans (Array.getElem?_eq_getElem (xs := cs) (i := 10 * i + 2) (by omega))
      have f3 := frozen_of_row w1 w.heap.size (10 * i + 3) _ _ r1
      have e3 := (cell_of_row w1 w.heap.size (10 * i + 3) _ _ (0, 0) r1).trans (Array.getElem?_eq_getElem (xs := cs) (i := 10 * i + 3) (by omega))
      have f4 := frozen_of_row w1 w.heap.size (10 * i + 4) _ _ r1
      have e4 := (cell_of_row w1 w.heap.size (10 * i + 4) _ _ (0, 0) r1).trans (Array.getElem?_eq_getElem (xs := cs) (i := 10 * i + 4) (by omega))
      have f5 := frozen_of_row w1 w.heap.size (10 * i + 5) _ _ r1
      have e5 := (cell_of_row w1 w.heap.size (10 * i + 5) _ _ (0, 0) r1).trans (Array.getElem?_eq_getElem (xs := cs) (i := 10 * i + 5) (by omega))
      have f6 := frozen_of_row w1 w.heap.size (10 * i + 6) _ _ r1
      have e6 := (cell_of_row w1 w.heap.size (10 * i + 6) _ _ (0, 0) r1).trans (Array.getElem?_eq_getElem (xs := cs) (i := 10 * i + 6) (by omega))
      have f7 := frozen_of_row w1 w.heap.size (10 * i + 7) _ _ r1
      have e7 := (cell_of_row w1 w.heap.size (10 * i + 7) _ _ (0, 0) r1).trans (Array.getElem?_eq_getElem (xs := cs) (i := 10 * i + 7) (by omega))
      have f8 := frozen_of_row w1 w.heap.size (10 * i + 8) _ _ r1
      have e8 := (cell_of_row w1 w.heap.size (10 * i + 8) _ _ (0, 0) r1).trans (Array.getElem?_eq_getElem (xs := cs) (i := 10 * i + 8) (by omega))
      have f9 := frozen_of_row w1 w.heap.size (10 * i + 9) _ _ r1
      have e9 := (cell_of_row w1 w.heap.size (10 * i + 9) _ _ (0, 0) r1).trans (Array.getElem?_eq_getElem (xs := cs) (i := 10 * i + 9) (by omega))
      have R1 : Hid (w1.heap[w.heap.size]? = some (.cells cs 43 (0, 0))) := r1
      clear r1
      go_wp2_with fail
      go_roundw
      case rel =>
        have hs1 := hb1.size
        have fr : ∀ b, w.heap.size + 1 ≤ b → ((((((((((w1.setCell ⟨w.heap.size, 10 * i, none⟩ (.slice n_a_heap_tables x.heap.tables.length n_c_heap_tables)).setCell ⟨w.heap.size, 10 * i + 1, none⟩ (.slice n_a_heap_cells x.heap.cells.length n_c_heap_cells)).setCell ⟨w.heap.size, 10 * i + 2, none⟩ (.slice n_a_funs x.funs.length n_c_funs)).setCell ⟨w.heap.size, 10 * i + 3, none⟩ (.slice n_a_frames x.frames.length n_c_frames)).setCell ⟨w.heap.size, 10 * i + 4, none⟩ (.slice n_a_out x.out.length n_c_out)).setCell ⟨w.heap.size, 10 * i + 5, none⟩ (.int .i64 x.steps)).setCell ⟨w.heap.size, 10 * i + 6, none⟩ (.int .i64 x.kind)).setCell ⟨w.heap.size, 10 * i + 7, none⟩ (.int .i64 x.value.k)).setCell ⟨w.heap.size, 10 * i + 8, none⟩ (.int .i64 x.value.n)).setCell ⟨w.heap.size, 10 * i + 9, none⟩ (.string x.value.s)).heap[b]? = w1.heap[b]? := fun b h1 => (heap_setCell_other _ _ _ _ (by show b ≠ w.heap.size; omega)).trans ((heap_setCell_other _ _ _ _ (by show b ≠ w.heap.size; omega)).trans ((heap_setCell_other _ _ _ _ (by show b ≠ w.heap.size; omega)).trans ((heap_setCell_other _ _ _ _ (by show b ≠ w.heap.size; omega)).trans ((heap_setCell_other _ _ _ _ (by show b ≠ w.heap.size; omega)).trans ((heap_setCell_other _ _ _ _ (by show b ≠ w.heap.size; omega)).trans ((heap_setCell_other _ _ _ _ (by show b ≠ w.heap.size; omega)).trans ((heap_setCell_other _ _ _ _ (by show b ≠ w.heap.size; omega)).trans ((heap_setCell_other _ _ _ _ (by show b ≠ w.heap.size; omega)).trans (heap_setCell_other _ _ _ _ (by show b ≠ w.heap.size; omega))))))))))
        refine ⟨i + 1, _, (fun m b => (m < i ∧ U m b) ∨ (m = i ∧ In wr.heap.size w1.heap.size b)), by go_num, by omega, (heap_setCell_same _ _ _ _ _ _ (heap_setCell_same _ _ _ _ _ _ (heap_setCell_same _ _ _ _ _ _ (heap_setCell_same _ _ _ _ _ _ (heap_setCell_same _ _ _ _ _ _ (heap_setCell_same _ _ _ _ _ _ (heap_setCell_same _ _ _ _ _ _ (heap_setCell_same _ _ _ _ _ _ (heap_setCell_same _ _ _ _ _ _ (heap_setCell_same _ _ _ _ _ _ R1.out)))))))))), by simpa using hcs, (hP.add (by omega) hs1).wide (fun b hb => ⟨hb.1, by have := hb.2; simp; omega⟩), fun m h h' => ?_, (((((((((((hbl.trans (hb1.mono hbl.size)).setCell (Nat.le_refl _) _).setCell (Nat.le_refl _) _).setCell (Nat.le_refl _) _).setCell (Nat.le_refl _) _).setCell (Nat.le_refl _) _).setCell (Nat.le_refl _) _).setCell (Nat.le_refl _) _).setCell (Nat.le_refl _) _).setCell (Nat.le_refl _) _).setCell (Nat.le_refl _) _)⟩
        by_cases hm' : m = i
        · subst hm'
          rw [← HX.out]
          exact ⟨[.slice n_a_heap_tables x.heap.tables.length n_c_heap_tables, .slice n_a_heap_cells x.heap.cells.length n_c_heap_cells, .slice n_a_funs x.funs.length n_c_funs, .slice n_a_frames x.frames.length n_c_frames, .slice n_a_out x.out.length n_c_out, .int .i64 x.steps, .int .i64 x.kind, .int .i64 x.value.k, .int .i64 x.value.n, .string x.value.s], VmOwn_keeps _ _ _ _ _ _ (fun b hb => .inr ⟨rfl, hb⟩) (fun b hb => fr b (by have := hb.1; omega)) hR2, rfl, fun j hj => by exact sr10_new cs m _ _ _ _ _ _ _ _ _ _ j hj (by omega)⟩
        · obtain ⟨l, h1, h2, h3⟩ := HALL.out m (by omega) h'
          refine ⟨l, VmOwn_keeps _ _ _ _ _ _ (fun b hb => .inl ⟨by omega, hb⟩) (fun b hb => (fr b (by have := (hP.within m b hb).1; omega)).trans (hb1.block b (hP.within m b hb).2)) h1, h2, fun j hj => ?_⟩
          rw [sr10_old cs i _ _ _ _ _ _ _ _ _ _ _ (by omega)]
          exact h3 j hj
      case measure => simp [intOf]; omega
    · obtain rfl : i = xs.length := by omega
      have hlt2 : w.heap.size < wr.heap.size := (Array.getElem?_eq_some_iff.1 hrow).1
      have HALL : Hid (∀ m (h : m < xs.length) (h' : m < xs.length), ∃ l, VmOwn wr (U m) xs[m] l ∧ l.length = 10 ∧ ∀ j, j < 10 → cs[10 * m + j]? = l[j]?) := hall
      clear hS hall
      go_wp2_with fail
      go_ret
      exact ⟨⟨_, _, rfl, .inr ⟨w.heap.size, cs, _, rfl, ⟨Nat.le_refl _, hlt2⟩, hrow, by omega, U, ⟨fun i b hb => ⟨⟨by have := (hP.within i b hb).1; omega, (hP.within i b hb).2⟩, by have := (hP.within i b hb).1; omega⟩, hP.apart⟩, fun m h => HALL.out m h h⟩⟩, hbl⟩
set_option maxRecDepth 100000 in
set_option maxHeartbeats 800000 in
theorem owTrail_any (x : TrailD) (cs : List Value) (lo hi : Nat) (w : World) (hh : hi ≤ w.heap.size) (hw : x.wt ≤ 1048576) (hC : TrailC w lo hi x cs) :
    Calls Try.prog 23 #[.agg cs.toArray] w fun e w' => (∃ cs', e = .returned (.agg cs'.toArray) ∧ TrailOwn w' (In w.heap.size w'.heap.size) x cs') ∧ Below w.heap.size w w' := by
  obtain ⟨ok, a_code, c_code, a_marks, c_marks, a_now_heap_tables, c_now_heap_tables, a_now_heap_cells, c_now_heap_cells, a_now_funs, c_now_funs, a_now_frames, c_now_frames, a_now_out, c_now_out, rfl, l_code, r_code, l_marks, r_marks, l_now_heap_tables, r_now_heap_tables, l_now_heap_cells, r_now_heap_cells, l_now_funs, r_now_funs, l_now_frames, r_now_frames, l_now_out, r_now_out⟩ := hC
  unfold TrailD.wt at hw
  have hn_code := len_wtR ProtoD.wt x.code
  have hn_marks := len_wtR VmD.wt x.marks
  have h_now : VmC w lo hi x.now [.slice a_now_heap_tables x.now.heap.tables.length c_now_heap_tables, .slice a_now_heap_cells x.now.heap.cells.length c_now_heap_cells, .slice a_now_funs x.now.funs.length c_now_funs, .slice a_now_frames x.now.frames.length c_now_frames, .slice a_now_out x.now.out.length c_now_out, .int .i64 x.now.steps, .int .i64 x.now.kind, .int .i64 x.now.value.k, .int .i64 x.now.value.n, .string x.now.value.s] := ⟨ok.now, a_now_heap_tables, c_now_heap_tables, a_now_heap_cells, c_now_heap_cells, a_now_funs, c_now_funs, a_now_frames, c_now_frames, a_now_out, c_now_out, rfl, l_now_heap_tables, r_now_heap_tables, l_now_heap_cells, r_now_heap_cells, l_now_funs, r_now_funs, l_now_frames, r_now_frames, l_now_out, r_now_out⟩
  go_enter Try.func23, Try.ntmps23
  go_wp2_with fail
  have B0 : ∀ A B C : Obj, Below w.heap.size w (((w.alloc A).alloc B).alloc C) := fun A B C => (rows3 w A B C).2.2.2.2
  refine (owProtoS_any x.code a_code c_code lo hi _ (by simp; omega) (by omega) (r_code.below ProtoC_keeps (B0 _ _ _) hh)).mono ?_
  rintro e w1 ⟨⟨b1, d1, rfl, hU1⟩, hb1⟩
  obtain ⟨hc1, hf1⟩ := bcell hb1
  have hz1 : w.heap.size + 1 + 1 < w1.heap.size := by have := hb1.size; simp at this; omega
  have hy1 : w.heap.size + 1 < w1.heap.size := by omega
  have hx1 : w.heap.size < w1.heap.size := by omega
  have B1 : Below w.heap.size w w1 := (B0 _ _ _).trans (hb1.mono (by simp <;> omega))
  have le1 : w.heap.size + 3 ≤ w1.heap.size := by omega
  have U1_1 : RowD 5 ProtoOwn w1 (In (w.heap.size + 3) w1.heap.size) x.code b1 := hU1.later ProtoOwn_keeps (fun b hb => ⟨by have := hb.1; simp at this; omega, hb.2⟩) (fun _ _ => rfl)
  go_wp2_with fail
  have S1 : Below w.heap.size w ((w1.setCell ⟨w.heap.size + 1 + 1, 0, none⟩ (.slice b1 x.code.length d1)).setCell ⟨w.heap.size + 1 + 1, 1, none⟩ (.int .i64 x.every)) := ((B1.setCell (by show w.heap.size ≤ w.heap.size + 1 + 1; omega) _).setCell (by show w.heap.size ≤ w.heap.size + 1 + 1; omega) _)
  refine (owVmS_any x.marks a_marks c_marks lo hi _ (by simp; omega) (by omega) (r_marks.below VmC_keeps S1 hh)).mono ?_
  rintro e w2 ⟨⟨b2, d2, rfl, hU2⟩, hb2⟩
  obtain ⟨hc2, hf2⟩ := bcell hb2
  have hz2 : w.heap.size + 1 + 1 < w2.heap.size := by have := hb2.size; simp at this; omega
  have hy2 : w.heap.size + 1 < w2.heap.size := by omega
  have hx2 : w.heap.size < w2.heap.size := by omega
  have B2 : Below w.heap.size w w2 := S1.trans (hb2.mono S1.size)
  have le2 : w1.heap.size ≤ w2.heap.size := by have := hb2.size; simpa using this
  have U1_2 : RowD 5 ProtoOwn w2 (In (w.heap.size + 3) w1.heap.size) x.code b1 := ((U1_1.set ProtoOwn_keeps _ _ (fun b hb => by have := hb.1; show b ≠ w.heap.size + 1 + 1; omega)).set ProtoOwn_keeps _ _ (fun b hb => by have := hb.1; show b ≠ w.heap.size + 1 + 1; omega)).below ProtoOwn_keeps (fun b hb => by have := hb.2; simp; omega) hb2
  have U2_2 : RowD 10 VmOwn w2 (In (w1.heap.size) w2.heap.size) x.marks b2 := hU2.later VmOwn_keeps (fun b hb => ⟨by have := hb.1; simp at this; omega, hb.2⟩) (fun _ _ => rfl)
  go_wp2_with fail
  have S2 : Below w.heap.size w (w2.setCell ⟨w.heap.size + 1 + 1, 2, none⟩ (.slice b2 x.marks.length d2)) := (B2.setCell (by show w.heap.size ≤ w.heap.size + 1 + 1; omega) _)
  refine (owVm_any x.now _ lo hi _ (by simp; omega) (by omega) (VmC_keeps.below h_now S2 hh)).mono ?_
  rintro e w3 ⟨⟨cs3, rfl, hU3⟩, hb3⟩
  obtain ⟨hc3, hf3⟩ := bcell hb3
  have hz3 : w.heap.size + 1 + 1 < w3.heap.size := by have := hb3.size; simp at this; omega
  have hy3 : w.heap.size + 1 < w3.heap.size := by omega
  have hx3 : w.heap.size < w3.heap.size := by omega
  have B3 : Below w.heap.size w w3 := S2.trans (hb3.mono S2.size)
  have le3 : w2.heap.size ≤ w3.heap.size := by have := hb3.size; simpa using this
  have U1_3 : RowD 5 ProtoOwn w3 (In (w.heap.size + 3) w1.heap.size) x.code b1 := (U1_2.set ProtoOwn_keeps _ _ (fun b hb => by have := hb.1; show b ≠ w.heap.size + 1 + 1; omega)).below ProtoOwn_keeps (fun b hb => by have := hb.2; simp; omega) hb3
  have U2_3 : RowD 10 VmOwn w3 (In (w1.heap.size) w2.heap.size) x.marks b2 := (U2_2.set VmOwn_keeps _ _ (fun b hb => by have := hb.1; show b ≠ w.heap.size + 1 + 1; omega)).below VmOwn_keeps (fun b hb => by have := hb.2; simp; omega) hb3
  have U3_30 : VmOwn w3 (In (w2.heap.size) w3.heap.size) x.now cs3 := VmOwn_keeps _ _ _ _ _ _ (fun b hb => ⟨by have := hb.1; simp at this; omega, hb.2⟩) (fun _ _ => rfl) hU3
  have hk3 := U3_30
  obtain ⟨_, _, _, z3_a_heap_tables, z3_c_heap_tables, z3_a_heap_cells, z3_c_heap_cells, z3_a_funs, z3_c_funs, z3_a_frames, z3_c_frames, z3_a_out, z3_c_out, rfl, z3_r_heap, z3_l_funs, z3_r_funs, z3_l_frames, z3_r_frames, z3_l_out, z3_r_out⟩ := hk3
  have U3_3 : VmOwn w3 (In (w2.heap.size) w3.heap.size) x.now [.slice z3_a_heap_tables x.now.heap.tables.length z3_c_heap_tables, .slice z3_a_heap_cells x.now.heap.cells.length z3_c_heap_cells, .slice z3_a_funs x.now.funs.length z3_c_funs, .slice z3_a_frames x.now.frames.length z3_c_frames, .slice z3_a_out x.now.out.length z3_c_out, .int .i64 x.now.steps, .int .i64 x.now.kind, .int .i64 x.now.value.k, .int .i64 x.now.value.n, .string x.now.value.s] := U3_30
  go_wp2_with fail
  have hp : ∀ hi, w3.heap.size ≤ hi → Parts (V5 (In (w.heap.size + 3) w1.heap.size) (In (w1.heap.size) w2.heap.size) (In (w2.heap.size) w3.heap.size) (In w3.heap.size w3.heap.size) (In w3.heap.size w3.heap.size)) (In w.heap.size hi) := fun hi h => parts5 (by omega) (by omega) (by omega) (by omega) (by omega) (by omega) (by omega) (by omega) (by omega) (by omega) (by omega)
  exact bodyPost_ret (v := .agg #[.slice b1 x.code.length d1, .int .i64 x.every, .slice b2 x.marks.length d2, .slice z3_a_heap_tables x.now.heap.tables.length z3_c_heap_tables, .slice z3_a_heap_cells x.now.heap.cells.length z3_c_heap_cells, .slice z3_a_funs x.now.funs.length z3_c_funs, .slice z3_a_frames x.now.frames.length z3_c_frames, .slice z3_a_out x.now.out.length z3_c_out, .int .i64 x.now.steps, .int .i64 x.now.kind, .int .i64 x.now.value.k, .int .i64 x.now.value.n, .string x.now.value.s]) (by simp [results, Try.results23, go_sem, *]) rfl ⟨⟨[.slice b1 x.code.length d1, .int .i64 x.every, .slice b2 x.marks.length d2, .slice z3_a_heap_tables x.now.heap.tables.length z3_c_heap_tables, .slice z3_a_heap_cells x.now.heap.cells.length z3_c_heap_cells, .slice z3_a_funs x.now.funs.length z3_c_funs, .slice z3_a_frames x.now.frames.length z3_c_frames, .slice z3_a_out x.now.out.length z3_c_out, .int .i64 x.now.steps, .int .i64 x.now.kind, .int .i64 x.now.value.k, .int .i64 x.now.value.n, .string x.now.value.s], rfl, ok, _, hp _ (by simp), b1, d1, b2, d2, z3_a_heap_tables, z3_c_heap_tables, z3_a_heap_cells, z3_c_heap_cells, z3_a_funs, z3_c_funs, z3_a_frames, z3_c_frames, z3_a_out, z3_c_out, rfl, ok.code, by show RowD 5 ProtoOwn _ (In (w.heap.size + 3) w1.heap.size) x.code b1; repeat (first | (with_reducible exact U1_3) | (with_reducible refine RowD.set ProtoOwn_keeps _ _ (fun b hb => In.ne hb (by simp <;> omega)) ?_)), ok.marks, by show RowD 10 VmOwn _ (In (w1.heap.size) w2.heap.size) x.marks b2; repeat (first | (with_reducible exact U2_3) | (with_reducible refine RowD.set VmOwn_keeps _ _ (fun b hb => In.ne hb (by simp <;> omega)) ?_)), by show VmOwn _ (In (w2.heap.size) w3.heap.size) x.now [.slice z3_a_heap_tables x.now.heap.tables.length z3_c_heap_tables, .slice z3_a_heap_cells x.now.heap.cells.length z3_c_heap_cells, .slice z3_a_funs x.now.funs.length z3_c_funs, .slice z3_a_frames x.now.frames.length z3_c_frames, .slice z3_a_out x.now.out.length z3_c_out, .int .i64 x.now.steps, .int .i64 x.now.kind, .int .i64 x.now.value.k, .int .i64 x.now.value.n, .string x.now.value.s]; repeat (first | (with_reducible exact U3_3) | (with_reducible refine KeepsD.set VmOwn_keeps _ _ (fun b hb => In.ne hb (by simp <;> omega)) ?_))⟩, by repeat (first | (with_reducible exact B3) | (with_reducible refine Below.setCell ?_ (by simp <;> omega) _))⟩
end Go.Proofs.Ytgibejgemokljaa
