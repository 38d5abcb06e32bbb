/- A trail at its start: the program. -/
import Derived.Test.YtgibejgemokljaaTstP
import Derived.Test.YtgibejgemokljaaTstD
import Derived.Test.YtgibejgemokljaaVstJ
namespace Go.Proofs.Ytgibejgemokljaa
open Go.RowKit

set_option maxRecDepth 100000 in
set_option maxHeartbeats 3200000 in
theorem tstart_impl (ps : List ProtoD) (a : Option Addr) (ca lo hi : Nat) (n : Int) (hN : IntOk n) (w : World) (hh : hi ≤ w.heap.size) (hw : wtR ProtoD.wt ps ≤ 1048576) (hS : RowAt 5 ProtoC w lo hi ps a) :
    Calls Try.prog 15 #[.slice a ps.length ca, .int .i64 n] w fun e w' => (∃ cs', e = .returned (.tuple #[.agg cs'.toArray, .bool (trailB ps n)]) ∧ TrailOwn w' (In w.heap.size w'.heap.size) (trailV ps n) cs') ∧ Below w.heap.size w w' := by
  have hl := len_wtR ProtoD.wt ps
  have hpl : ps.length ≤ maxLen := by unfold maxLen; omega
  have B0 := bel_alloc w (Obj.cells #[.slice none 0 0, .int .i64 0, .slice none 0 0, .slice none 0 0, .slice none 0 0, .slice none 0 0, .slice none 0 0, .slice none 0 0, .int .i64 0, .int .i64 0, .int .i64 0, .int .i64 0, .string ⟨#[]⟩] 51)
  go_enter Try.func15, Try.ntmps15
  go_wp2_with fail
  refine (code_impl ps a ca lo hi _ (by simp; omega) hw (hS.below ProtoC_keeps B0 hh)).mono ?_
  rintro e w1 ⟨rfl, hb1⟩
  have B1 := boxed hb1
  have hz1 : w.heap.size < w1.heap.size := by have := hb1.size; simp at this; omega
  have qR := (hb1.block w.heap.size (by simp)).trans (heap_alloc_new w (Obj.cells #[.slice none 0 0, .int .i64 0, .slice none 0 0, .slice none 0 0, .slice none 0 0, .slice none 0 0, .slice none 0 0, .slice none 0 0, .int .i64 0, .int .i64 0, .int .i64 0, .int .i64 0, .string ⟨#[]⟩] 51))
  have hS1 := hS.below ProtoC_keeps B1 hh
  clear hb1 hS B0
  cases hok : codeOk ps with
  | false =>
    have HT : Hid (trailB ps n = false) := by show _ = _; unfold trailB; rw [hok]; rfl
    clear hok
    have k0 := cell_of_row _ _ 0 _ _ _ qR
    have n0 := frozen_of_row _ _ 0 _ _ qR
    have k1 := cell_of_row _ _ 1 _ _ _ qR
    have n1 := frozen_of_row _ _ 1 _ _ qR
    have k2 := cell_of_row _ _ 2 _ _ _ qR
    have n2 := frozen_of_row _ _ 2 _ _ qR
    have k3 := cell_of_row _ _ 3 _ _ _ qR
    have n3 := frozen_of_row _ _ 3 _ _ qR
    have k4 := cell_of_row _ _ 4 _ _ _ qR
    have n4 := frozen_of_row _ _ 4 _ _ qR
    have k5 := cell_of_row _ _ 5 _ _ _ qR
    have n5 := frozen_of_row _ _ 5 _ _ qR
    have k6 := cell_of_row _ _ 6 _ _ _ qR
    have n6 := frozen_of_row _ _ 6 _ _ qR
    have k7 := cell_of_row _ _ 7 _ _ _ qR
    have n7 := frozen_of_row _ _ 7 _ _ qR
    have k8 := cell_of_row _ _ 8 _ _ _ qR
    have n8 := frozen_of_row _ _ 8 _ _ qR
    have k9 := cell_of_row _ _ 9 _ _ _ qR
    have n9 := frozen_of_row _ _ 9 _ _ qR
    have k10 := cell_of_row _ _ 10 _ _ _ qR
    have n10 := frozen_of_row _ _ 10 _ _ qR
    have k11 := cell_of_row _ _ 11 _ _ _ qR
    have n11 := frozen_of_row _ _ 11 _ _ qR
    have k12 := cell_of_row _ _ 12 _ _ _ qR
    have n12 := frozen_of_row _ _ 12 _ _ qR
    simp only [List.getElem?_toArray, List.getElem?_cons_zero, List.getElem?_cons_succ] at k0 k1 k2 k3 k4 k5 k6 k7 k8 k9 k10 k11 k12
    go_wp2_with fail
    exact bodyPost_ret (v := .tuple #[.agg #[.slice none 0 0, .int .i64 0, .slice none 0 0, .slice none 0 0, .slice none 0 0, .slice none 0 0, .slice none 0 0, .slice none 0 0, .int .i64 0, .int .i64 0, .int .i64 0, .int .i64 0, .string ⟨#[]⟩], .bool false]) (by simp [results, Try.results15, go_sem, *]) rfl ⟨⟨[.slice none 0 0, .int .i64 0, .slice none 0 0, .slice none 0 0, .slice none 0 0, .slice none 0 0, .slice none 0 0, .slice none 0 0, .int .i64 0, .int .i64 0, .int .i64 0, .int .i64 0, .string ⟨#[]⟩], by rw [HT.out], trail0_own HT.out _ _⟩, by repeat (first | (with_reducible exact B1) | (with_reducible refine Below.setCell ?_ (by simp <;> omega) _))⟩
  | true =>
    go_wp2_with fail
    refine (in_impl n 1 1000 _).mono ?_
    rintro e w' ⟨rfl, rfl⟩
    cases hin : inR n 1 1000 with
    | false =>
      have HT : Hid (trailB ps n = false) := by show _ = _; unfold trailB; rw [hok, hin]; rfl
      clear hok hin
      have k0 := cell_of_row _ _ 0 _ _ _ qR
      have n0 := frozen_of_row _ _ 0 _ _ qR
      have k1 := cell_of_row _ _ 1 _ _ _ qR
      have n1 := frozen_of_row _ _ 1 _ _ qR
      have k2 := cell_of_row _ _ 2 _ _ _ qR
      have n2 := frozen_of_row _ _ 2 _ _ qR
      have k3 := cell_of_row _ _ 3 _ _ _ qR
      have n3 := frozen_of_row _ _ 3 _ _ qR
      have k4 := cell_of_row _ _ 4 _ _ _ qR
      have n4 := frozen_of_row _ _ 4 _ _ qR
      have k5 := cell_of_row _ _ 5 _ _ _ qR
      have n5 := frozen_of_row _ _ 5 _ _ qR
      have k6 := cell_of_row _ _ 6 _ _ _ qR
      have n6 := frozen_of_row _ _ 6 _ _ qR
      have k7 := cell_of_row _ _ 7 _ _ _ qR
      have n7 := frozen_of_row _ _ 7 _ _ qR
      have k8 := cell_of_row _ _ 8 _ _ _ qR
      have n8 := frozen_of_row _ _ 8 _ _ qR
      have k9 := cell_of_row _ _ 9 _ _ _ qR
      have n9 := frozen_of_row _ _ 9 _ _ qR
      have k10 := cell_of_row _ _ 10 _ _ _ qR
      have n10 := frozen_of_row _ _ 10 _ _ qR
      have k11 := cell_of_row _ _ 11 _ _ _ qR
      have n11 := frozen_of_row _ _ 11 _ _ qR
      have k12 := cell_of_row _ _ 12 _ _ _ qR
      have n12 := frozen_of_row _ _ 12 _ _ qR
      simp only [List.getElem?_toArray, List.getElem?_cons_zero, List.getElem?_cons_succ] at k0 k1 k2 k3 k4 k5 k6 k7 k8 k9 k10 k11 k12
      go_wp2_with fail
      exact bodyPost_ret (v := .tuple #[.agg #[.slice none 0 0, .int .i64 0, .slice none 0 0, .slice none 0 0, .slice none 0 0, .slice none 0 0, .slice none 0 0, .slice none 0 0, .int .i64 0, .int .i64 0, .int .i64 0, .int .i64 0, .string ⟨#[]⟩], .bool false]) (by simp [results, Try.results15, go_sem, *]) rfl ⟨⟨[.slice none 0 0, .int .i64 0, .slice none 0 0, .slice none 0 0, .slice none 0 0, .slice none 0 0, .slice none 0 0, .slice none 0 0, .int .i64 0, .int .i64 0, .int .i64 0, .int .i64 0, .string ⟨#[]⟩], by rw [HT.out], trail0_own HT.out _ _⟩, by repeat (first | (with_reducible exact B1) | (with_reducible refine Below.setCell ?_ (by simp <;> omega) _))⟩
    | true =>
      have HT : Hid (trailB ps n = true) := by show _ = _; unfold trailB; rw [hok, hin]; rfl
      clear hok hin
      go_wp2_with fail
      refine (copycode_impl ps a ca lo hi w1 (Nat.le_trans hh B1.size) hw hS1).mono ?_
      rintro e w2 ⟨⟨b, cb, rfl, U0⟩, hb2⟩
      have B2 := B1.trans (hb2.mono B1.size)
      have hz2 := hb2.size
      have q2 := (hb2.block w.heap.size hz1).trans qR
      go_wp2_with fail
      refine (vmstart_impl ps a ca lo hi w2 (Nat.le_trans hh B2.size) hw (hS1.below ProtoC_keeps hb2 (Nat.le_trans hh B1.size))).mono ?_
      rintro e w3 ⟨⟨cs1, rfl, V1⟩, hb3⟩
      have B3 := B2.trans (hb3.mono B2.size)
      have hz3 := hb3.size
      have q3 := (hb3.block w.heap.size (by omega)).trans q2
      have U0 := U0.below ProtoOwn_keeps (fun b hb => hb.2) hb3
      have V1o := V1
      obtain ⟨_, _, _, e_a_heap_tables, e_c_heap_tables, e_a_heap_cells, e_c_heap_cells, e_a_funs, e_c_funs, e_a_frames, e_c_frames, e_a_out, e_c_out, rfl, e_r_heap, e_l_funs, e_r_funs, e_l_frames, e_r_frames, e_l_out, e_r_out⟩ := V1o
      clear e_r_heap e_l_funs e_r_funs e_l_frames e_r_frames e_l_out e_r_out
      go_wp2_with fail
      obtain ⟨W4, hW4⟩ : ∃ W, W = w3.alloc (Obj.cells #[.slice e_a_heap_tables (startV ps).heap.tables.length e_c_heap_tables, .slice e_a_heap_cells (startV ps).heap.cells.length e_c_heap_cells, .slice e_a_funs (startV ps).funs.length e_c_funs, .slice e_a_frames (startV ps).frames.length e_c_frames, .slice e_a_out (startV ps).out.length e_c_out, .int .i64 (startV ps).steps, .int .i64 (startV ps).kind, .int .i64 (startV ps).value.k, .int .i64 (startV ps).value.n, .string (startV ps).value.s] 43) := ⟨_, rfl⟩
      rw [← hW4]
      have hb4 : Below w3.heap.size w3 W4 := by rw [hW4]; exact bel_alloc _ _
      have rM : W4.heap[w3.heap.size]? = some (Obj.cells #[.slice e_a_heap_tables (startV ps).heap.tables.length e_c_heap_tables, .slice e_a_heap_cells (startV ps).heap.cells.length e_c_heap_cells, .slice e_a_funs (startV ps).funs.length e_c_funs, .slice e_a_frames (startV ps).frames.length e_c_frames, .slice e_a_out (startV ps).out.length e_c_out, .int .i64 (startV ps).steps, .int .i64 (startV ps).kind, .int .i64 (startV ps).value.k, .int .i64 (startV ps).value.n, .string (startV ps).value.s] 43) := by rw [hW4]; exact heap_alloc_new _ _
      have hz4 : w3.heap.size + 1 ≤ W4.heap.size := by rw [hW4]; simp
      clear hW4
      have B4 := B3.trans (hb4.mono B3.size)
      have q4 := (hb4.block w.heap.size (by omega)).trans q3
      have U0 := U0.below ProtoOwn_keeps (fun b hb => by have := hb.2; omega) hb4
      have V1 := VmOwn_keeps.below (fun b hb => hb.2) hb4 V1
      refine (vmstart_impl ps a ca lo hi W4 (Nat.le_trans hh B4.size) hw (hS1.below ProtoC_keeps ((hb2.trans (hb3.mono hb2.size)).trans (hb4.mono (by omega))) (Nat.le_trans hh B1.size))).mono ?_
      rintro e w5 ⟨⟨cs2, rfl, V2⟩, hb5⟩
      have B5 := B4.trans (hb5.mono B4.size)
      have hz5 := hb5.size
      have q5 := (hb5.block w.heap.size (by omega)).trans q4
      have rM5 := (hb5.block w3.heap.size (by omega)).trans rM
      have U0 := U0.below ProtoOwn_keeps (fun b hb => by have := hb.2; omega) hb5
      have V1 := VmOwn_keeps.below (fun b hb => by have := hb.2; omega) hb5 V1
      have V2o := V2
      obtain ⟨_, _, _, f_a_heap_tables, f_c_heap_tables, f_a_heap_cells, f_c_heap_cells, f_a_funs, f_c_funs, f_a_frames, f_c_frames, f_a_out, f_c_out, rfl, f_r_heap, f_l_funs, f_r_funs, f_l_frames, f_r_frames, f_l_out, f_r_out⟩ := V2o
      clear f_r_heap f_l_funs f_r_funs f_l_frames f_r_frames f_l_out f_r_out hb2 hb3 hb4 hb5 hS1 qR q2 q3 q4 rM
      have k0 := cell_of_row _ _ 0 _ _ _ q5
      have n0 := frozen_of_row _ _ 0 _ _ q5
      have k1 := cell_of_row _ _ 1 _ _ _ q5
      have n1 := frozen_of_row _ _ 1 _ _ q5
      have k2 := cell_of_row _ _ 2 _ _ _ q5
      have n2 := frozen_of_row _ _ 2 _ _ q5
      have k3 := cell_of_row _ _ 3 _ _ _ q5
      have n3 := frozen_of_row _ _ 3 _ _ q5
      have k4 := cell_of_row _ _ 4 _ _ _ q5
      have n4 := frozen_of_row _ _ 4 _ _ q5
      have k5 := cell_of_row _ _ 5 _ _ _ q5
      have n5 := frozen_of_row _ _ 5 _ _ q5
      have k6 := cell_of_row _ _ 6 _ _ _ q5
      have n6 := frozen_of_row _ _ 6 _ _ q5
      have k7 := cell_of_row _ _ 7 _ _ _ q5
      have n7 := frozen_of_row _ _ 7 _ _ q5
      have k8 := cell_of_row _ _ 8 _ _ _ q5
      have n8 := frozen_of_row _ _ 8 _ _ q5
      have k9 := cell_of_row _ _ 9 _ _ _ q5
      have n9 := frozen_of_row _ _ 9 _ _ q5
      have k10 := cell_of_row _ _ 10 _ _ _ q5
      have n10 := frozen_of_row _ _ 10 _ _ q5
      have k11 := cell_of_row _ _ 11 _ _ _ q5
      have n11 := frozen_of_row _ _ 11 _ _ q5
      have k12 := cell_of_row _ _ 12 _ _ _ q5
      have n12 := frozen_of_row _ _ 12 _ _ q5
      simp only [List.getElem?_toArray, List.getElem?_cons_zero, List.getElem?_cons_succ] at k0 k1 k2 k3 k4 k5 k6 k7 k8 k9 k10 k11 k12
      go_wp2_with fail
      obtain ⟨wf, hwf⟩ : ∃ wf, wf = (((((((((((((w5.setCell ⟨w.heap.size, 0, none⟩ (.slice b ps.length cb)).setCell ⟨w.heap.size, 1, none⟩ (.int .i64 n)).setCell ⟨w.heap.size, 2, none⟩ (.slice (some ⟨w3.heap.size, 0, none⟩) 1 1)).setCell ⟨w.heap.size, 3, none⟩ (.slice f_a_heap_tables (startV ps).heap.tables.length f_c_heap_tables)).setCell ⟨w.heap.size, 4, none⟩ (.slice f_a_heap_cells (startV ps).heap.cells.length f_c_heap_cells)).setCell ⟨w.heap.size, 5, none⟩ (.slice f_a_funs (startV ps).funs.length f_c_funs)).setCell ⟨w.heap.size, 6, none⟩ (.slice f_a_frames (startV ps).frames.length f_c_frames)).setCell ⟨w.heap.size, 7, none⟩ (.slice f_a_out (startV ps).out.length f_c_out)).setCell ⟨w.heap.size, 8, none⟩ (.int .i64 (startV ps).steps)).setCell ⟨w.heap.size, 9, none⟩ (.int .i64 (startV ps).kind)).setCell ⟨w.heap.size, 10, none⟩ (.int .i64 (startV ps).value.k)).setCell ⟨w.heap.size, 11, none⟩ (.int .i64 (startV ps).value.n)).setCell ⟨w.heap.size, 12, none⟩ (.string (startV ps).value.s)) := ⟨_, rfl⟩
      have Uf : RowD 5 ProtoOwn wf (In w1.heap.size w2.heap.size) ps b := by rw [hwf]; exact (((((((((((((U0.set ProtoOwn_keeps _ _ (fun b hb => In.ne hb (by show w.heap.size < _; omega))).set ProtoOwn_keeps _ _ (fun b hb => In.ne hb (by show w.heap.size < _; omega))).set ProtoOwn_keeps _ _ (fun b hb => In.ne hb (by show w.heap.size < _; omega))).set ProtoOwn_keeps _ _ (fun b hb => In.ne hb (by show w.heap.size < _; omega))).set ProtoOwn_keeps _ _ (fun b hb => In.ne hb (by show w.heap.size < _; omega))).set ProtoOwn_keeps _ _ (fun b hb => In.ne hb (by show w.heap.size < _; omega))).set ProtoOwn_keeps _ _ (fun b hb => In.ne hb (by show w.heap.size < _; omega))).set ProtoOwn_keeps _ _ (fun b hb => In.ne hb (by show w.heap.size < _; omega))).set ProtoOwn_keeps _ _ (fun b hb => In.ne hb (by show w.heap.size < _; omega))).set ProtoOwn_keeps _ _ (fun b hb => In.ne hb (by show w.heap.size < _; omega))).set ProtoOwn_keeps _ _ (fun b hb => In.ne hb (by show w.heap.size < _; omega))).set ProtoOwn_keeps _ _ (fun b hb => In.ne hb (by show w.heap.size < _; omega))).set ProtoOwn_keeps _ _ (fun b hb => In.ne hb (by show w.heap.size < _; omega)))
      have V1f : VmOwn wf (In w2.heap.size w3.heap.size) (startV ps) [.slice e_a_heap_tables (startV ps).heap.tables.length e_c_heap_tables, .slice e_a_heap_cells (startV ps).heap.cells.length e_c_heap_cells, .slice e_a_funs (startV ps).funs.length e_c_funs, .slice e_a_frames (startV ps).frames.length e_c_frames, .slice e_a_out (startV ps).out.length e_c_out, .int .i64 (startV ps).steps, .int .i64 (startV ps).kind, .int .i64 (startV ps).value.k, .int .i64 (startV ps).value.n, .string (startV ps).value.s] := by rw [hwf]; exact (VmOwn_keeps.set _ _ (fun b hb => In.ne hb (by show w.heap.size < _; omega)) (VmOwn_keeps.set _ _ (fun b hb => In.ne hb (by show w.heap.size < _; omega)) (VmOwn_keeps.set _ _ (fun b hb => In.ne hb (by show w.heap.size < _; omega)) (VmOwn_keeps.set _ _ (fun b hb => In.ne hb (by show w.heap.size < _; omega)) (VmOwn_keeps.set _ _ (fun b hb => In.ne hb (by show w.heap.size < _; omega)) (VmOwn_keeps.set _ _ (fun b hb => In.ne hb (by show w.heap.size < _; omega)) (VmOwn_keeps.set _ _ (fun b hb => In.ne hb (by show w.heap.size < _; omega)) (VmOwn_keeps.set _ _ (fun b hb => In.ne hb (by show w.heap.size < _; omega)) (VmOwn_keeps.set _ _ (fun b hb => In.ne hb (by show w.heap.size < _; omega)) (VmOwn_keeps.set _ _ (fun b hb => In.ne hb (by show w.heap.size < _; omega)) (VmOwn_keeps.set _ _ (fun b hb => In.ne hb (by show w.heap.size < _; omega)) (VmOwn_keeps.set _ _ (fun b hb => In.ne hb (by show w.heap.size < _; omega)) (VmOwn_keeps.set _ _ (fun b hb => In.ne hb (by show w.heap.size < _; omega)) V1)))))))))))))
      have V2f : VmOwn wf (In W4.heap.size w5.heap.size) (startV ps) [.slice f_a_heap_tables (startV ps).heap.tables.length f_c_heap_tables, .slice f_a_heap_cells (startV ps).heap.cells.length f_c_heap_cells, .slice f_a_funs (startV ps).funs.length f_c_funs, .slice f_a_frames (startV ps).frames.length f_c_frames, .slice f_a_out (startV ps).out.length f_c_out, .int .i64 (startV ps).steps, .int .i64 (startV ps).kind, .int .i64 (startV ps).value.k, .int .i64 (startV ps).value.n, .string (startV ps).value.s] := by rw [hwf]; exact (VmOwn_keeps.set _ _ (fun b hb => In.ne hb (by show w.heap.size < _; omega)) (VmOwn_keeps.set _ _ (fun b hb => In.ne hb (by show w.heap.size < _; omega)) (VmOwn_keeps.set _ _ (fun b hb => In.ne hb (by show w.heap.size < _; omega)) (VmOwn_keeps.set _ _ (fun b hb => In.ne hb (by show w.heap.size < _; omega)) (VmOwn_keeps.set _ _ (fun b hb => In.ne hb (by show w.heap.size < _; omega)) (VmOwn_keeps.set _ _ (fun b hb => In.ne hb (by show w.heap.size < _; omega)) (VmOwn_keeps.set _ _ (fun b hb => In.ne hb (by show w.heap.size < _; omega)) (VmOwn_keeps.set _ _ (fun b hb => In.ne hb (by show w.heap.size < _; omega)) (VmOwn_keeps.set _ _ (fun b hb => In.ne hb (by show w.heap.size < _; omega)) (VmOwn_keeps.set _ _ (fun b hb => In.ne hb (by show w.heap.size < _; omega)) (VmOwn_keeps.set _ _ (fun b hb => In.ne hb (by show w.heap.size < _; omega)) (VmOwn_keeps.set _ _ (fun b hb => In.ne hb (by show w.heap.size < _; omega)) (VmOwn_keeps.set _ _ (fun b hb => In.ne hb (by show w.heap.size < _; omega)) V2)))))))))))))
      have Mf : wf.heap[w3.heap.size]? = some (Obj.cells #[.slice e_a_heap_tables (startV ps).heap.tables.length e_c_heap_tables, .slice e_a_heap_cells (startV ps).heap.cells.length e_c_heap_cells, .slice e_a_funs (startV ps).funs.length e_c_funs, .slice e_a_frames (startV ps).frames.length e_c_frames, .slice e_a_out (startV ps).out.length e_c_out, .int .i64 (startV ps).steps, .int .i64 (startV ps).kind, .int .i64 (startV ps).value.k, .int .i64 (startV ps).value.n, .string (startV ps).value.s] 43) := by rw [hwf]; exact ((heap_setCell_other _ _ _ _ (by show w3.heap.size ≠ w.heap.size; omega)).trans ((heap_setCell_other _ _ _ _ (by show w3.heap.size ≠ w.heap.size; omega)).trans ((heap_setCell_other _ _ _ _ (by show w3.heap.size ≠ w.heap.size; omega)).trans ((heap_setCell_other _ _ _ _ (by show w3.heap.size ≠ w.heap.size; omega)).trans ((heap_setCell_other _ _ _ _ (by show w3.heap.size ≠ w.heap.size; omega)).trans ((heap_setCell_other _ _ _ _ (by show w3.heap.size ≠ w.heap.size; omega)).trans ((heap_setCell_other _ _ _ _ (by show w3.heap.size ≠ w.heap.size; omega)).trans ((heap_setCell_other _ _ _ _ (by show w3.heap.size ≠ w.heap.size; omega)).trans ((heap_setCell_other _ _ _ _ (by show w3.heap.size ≠ w.heap.size; omega)).trans ((heap_setCell_other _ _ _ _ (by show w3.heap.size ≠ w.heap.size; omega)).trans ((heap_setCell_other _ _ _ _ (by show w3.heap.size ≠ w.heap.size; omega)).trans ((heap_setCell_other _ _ _ _ (by show w3.heap.size ≠ w.heap.size; omega)).trans ((heap_setCell_other _ _ _ _ (by show w3.heap.size ≠ w.heap.size; omega)).trans rM5)))))))))))))
      have zf : w5.heap.size ≤ wf.heap.size := by rw [hwf]; simp
      have Bf : Below w.heap.size w wf := by rw [hwf]; repeat (first | (with_reducible exact B5) | (with_reducible refine Below.setCell ?_ (by show w.heap.size ≤ w.heap.size; omega) _))
      exact bodyPost_ret (v := .tuple #[.agg #[.slice b ps.length cb, .int .i64 n, .slice (some ⟨w3.heap.size, 0, none⟩) 1 1, .slice f_a_heap_tables (startV ps).heap.tables.length f_c_heap_tables, .slice f_a_heap_cells (startV ps).heap.cells.length f_c_heap_cells, .slice f_a_funs (startV ps).funs.length f_c_funs, .slice f_a_frames (startV ps).frames.length f_c_frames, .slice f_a_out (startV ps).out.length f_c_out, .int .i64 (startV ps).steps, .int .i64 (startV ps).kind, .int .i64 (startV ps).value.k, .int .i64 (startV ps).value.n, .string (startV ps).value.s], .bool true]) (by simp [results, Try.results15, go_sem, *]) rfl (by rw [← hwf]; exact ⟨⟨[.slice b ps.length cb, .int .i64 n, .slice (some ⟨w3.heap.size, 0, none⟩) 1 1, .slice f_a_heap_tables (startV ps).heap.tables.length f_c_heap_tables, .slice f_a_heap_cells (startV ps).heap.cells.length f_c_heap_cells, .slice f_a_funs (startV ps).funs.length f_c_funs, .slice f_a_frames (startV ps).frames.length f_c_frames, .slice f_a_out (startV ps).out.length f_c_out, .int .i64 (startV ps).steps, .int .i64 (startV ps).kind, .int .i64 (startV ps).value.k, .int .i64 (startV ps).value.n, .string (startV ps).value.s], by rw [HT.out], trail1_own HT.out hN hpl (l := [.slice e_a_heap_tables (startV ps).heap.tables.length e_c_heap_tables, .slice e_a_heap_cells (startV ps).heap.cells.length e_c_heap_cells, .slice e_a_funs (startV ps).funs.length e_c_funs, .slice e_a_frames (startV ps).frames.length e_c_frames, .slice e_a_out (startV ps).out.length e_c_out, .int .i64 (startV ps).steps, .int .i64 (startV ps).kind, .int .i64 (startV ps).value.k, .int .i64 (startV ps).value.n, .string (startV ps).value.s]) (lo := w.heap.size) (hi := wf.heap.size) (l0 := w1.heap.size) (h0 := w2.heap.size) (l1 := w2.heap.size) (g := w3.heap.size) (l2 := W4.heap.size) (h2 := w5.heap.size) (by omega) (by omega) (by omega) (by omega) (by omega) (by omega) (by omega) Uf V1f rfl Mf V2f⟩, Bf⟩)
end Go.Proofs.Ytgibejgemokljaa
