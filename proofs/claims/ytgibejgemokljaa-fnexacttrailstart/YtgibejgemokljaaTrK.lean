/- A marked trail is found marked. -/
import Derived.Test.YtgibejgemokljaaTrN
import Derived.Test.YtgibejgemokljaaTrH
import Derived.Test.YtgibejgemokljaaTrI
import Derived.Test.YtgibejgemokljaaOwJ
namespace Go.Proofs.Ytgibejgemokljaa
open Go.RowKit

set_option maxRecDepth 100000 in
set_option maxHeartbeats 4000000 in
theorem hdTrail_any (x : TrailD) (cs : List Value) (K : Nat) (z : Int) (S : Nat → Prop) (w : World) (hS : ∀ b, S b → b < w.heap.size) (hO : TrailOwn w S (Trailtd K x) cs) (hz : z = K) (hK : 0 < K) (hn : K + Trailtn x ≤ 1099511627776) :
    Calls Try.prog 20 #[.agg cs.toArray, .int .i64 z] w fun e w' => e = .returned (.int .i64 ((K + Trailtn x : Nat) : Int)) ∧ Below w.heap.size w w' := by
  subst hz
  unfold Trailtn at hn ⊢
  obtain ⟨ok, V, pv, a_code, c_code, a_marks, c_marks, a_now_heap_tables, c_now_heap_tables, a_now_heap_cells, c_now_heap_cells, a_now_funs, c_now_funs, a_now_frames, c_now_frames, a_now_out, c_now_out, rfl, l_code, r_code, l_marks, r_marks, r_now⟩ := hO
  have h_code : (Trailtd K x).code.length = x.code.length := mkR_len _ _ _ _
  rw [h_code] at l_code
  have h_marks : (Trailtd K x).marks.length = x.marks.length := mkR_len _ _ _ _
  rw [h_marks] at l_marks
  have h_now_heap_tables : (Trailtd K x).now.heap.tables.length = x.now.heap.tables.length := mkR_len _ _ _ _
  rw [h_now_heap_tables] at r_now
  have h_now_heap_cells : (Trailtd K x).now.heap.cells.length = x.now.heap.cells.length := mkF_len _ _ _ _
  rw [h_now_heap_cells] at r_now
  have h_now_funs : (Trailtd K x).now.funs.length = x.now.funs.length := mkR_len _ _ _ _
  rw [h_now_funs] at r_now
  have h_now_frames : (Trailtd K x).now.frames.length = x.now.frames.length := mkR_len _ _ _ _
  rw [h_now_frames] at r_now
  have h_now_out : (Trailtd K x).now.out.length = x.now.out.length := mkF_len _ _ _ _
  rw [h_now_out] at r_now
  rw [h_code, h_marks, h_now_heap_tables, h_now_heap_cells, h_now_funs, h_now_frames, h_now_out]
  simp only [show (Trailtd K x).every = x.every from rfl, show (Trailtd K x).now.steps = x.now.steps from rfl, show (Trailtd K x).now.kind = x.now.kind from rfl, show (Trailtd K x).now.value = x.now.value from rfl]
  have R0 : (w.alloc (Obj.cells #[.slice a_code x.code.length c_code, .int .i64 x.every, .slice a_marks x.marks.length c_marks, .slice a_now_heap_tables x.now.heap.tables.length c_now_heap_tables, .slice a_now_heap_cells x.now.heap.cells.length c_now_heap_cells, .slice a_now_funs x.now.funs.length c_now_funs, .slice a_now_frames x.now.frames.length c_now_frames, .slice a_now_out x.now.out.length c_now_out, .int .i64 x.now.steps, .int .i64 x.now.kind, .int .i64 x.now.value.k, .int .i64 x.now.value.n, .string x.now.value.s] 51)).heap[w.heap.size]? = some (Obj.cells #[.slice a_code x.code.length c_code, .int .i64 x.every, .slice a_marks x.marks.length c_marks, .slice a_now_heap_tables x.now.heap.tables.length c_now_heap_tables, .slice a_now_heap_cells x.now.heap.cells.length c_now_heap_cells, .slice a_now_funs x.now.funs.length c_now_funs, .slice a_now_frames x.now.frames.length c_now_frames, .slice a_now_out x.now.out.length c_now_out, .int .i64 x.now.steps, .int .i64 x.now.kind, .int .i64 x.now.value.k, .int .i64 x.now.value.n, .string x.now.value.s] 51) := heap_alloc_new _ _
  have B0 : Below w.heap.size w (w.alloc (Obj.cells #[.slice a_code x.code.length c_code, .int .i64 x.every, .slice a_marks x.marks.length c_marks, .slice a_now_heap_tables x.now.heap.tables.length c_now_heap_tables, .slice a_now_heap_cells x.now.heap.cells.length c_now_heap_cells, .slice a_now_funs x.now.funs.length c_now_funs, .slice a_now_frames x.now.frames.length c_now_frames, .slice a_now_out x.now.out.length c_now_out, .int .i64 x.now.steps, .int .i64 x.now.kind, .int .i64 x.now.value.k, .int .i64 x.now.value.n, .string x.now.value.s] 51)) := bel_alloc _ _
  have s0 : (w.alloc (Obj.cells #[.slice a_code x.code.length c_code, .int .i64 x.every, .slice a_marks x.marks.length c_marks, .slice a_now_heap_tables x.now.heap.tables.length c_now_heap_tables, .slice a_now_heap_cells x.now.heap.cells.length c_now_heap_cells, .slice a_now_funs x.now.funs.length c_now_funs, .slice a_now_frames x.now.frames.length c_now_frames, .slice a_now_out x.now.out.length c_now_out, .int .i64 x.now.steps, .int .i64 x.now.kind, .int .i64 x.now.value.k, .int .i64 x.now.value.n, .string x.now.value.s] 51)).heap.size = w.heap.size + 1 := by simp
  have HS : Hid (∀ b, S b → b < w.heap.size) := hS
  have r_code : RowD 5 ProtoOwn w (V 0) (mkR Protomd Protomn (K) x.code) a_code := r_code
  have r_code := r_code.below ProtoOwn_keeps (fun b hb => hS b (pv.within 0 b hb)) B0
  have r_marks : RowD 10 VmOwn w (V 1) (mkR Vmmd Vmmn (K + mnR Protomn x.code) x.marks) a_marks := r_marks
  have r_marks := r_marks.below VmOwn_keeps (fun b hb => hS b (pv.within 1 b hb)) B0
  have r_now : VmOwn w (V 2) (Vmtd (K + mnR Protomn x.code + mnR Vmmn x.marks) x.now) [.slice a_now_heap_tables x.now.heap.tables.length c_now_heap_tables, .slice a_now_heap_cells x.now.heap.cells.length c_now_heap_cells, .slice a_now_funs x.now.funs.length c_now_funs, .slice a_now_frames x.now.frames.length c_now_frames, .slice a_now_out x.now.out.length c_now_out, .int .i64 x.now.steps, .int .i64 x.now.kind, .int .i64 x.now.value.k, .int .i64 x.now.value.n, .string x.now.value.s] := r_now
  have r_now := VmOwn_keeps.below (fun b hb => hS b (pv.within 2 b hb)) B0 r_now
  clear hS
  go_enter Try.func20, Try.ntmps20
  go_wp2_with fail
  obtain ⟨W0, hW0⟩ : ∃ W0, W0 = w.alloc (Obj.cells #[.slice a_code x.code.length c_code, .int .i64 x.every, .slice a_marks x.marks.length c_marks, .slice a_now_heap_tables x.now.heap.tables.length c_now_heap_tables, .slice a_now_heap_cells x.now.heap.cells.length c_now_heap_cells, .slice a_now_funs x.now.funs.length c_now_funs, .slice a_now_frames x.now.frames.length c_now_frames, .slice a_now_out x.now.out.length c_now_out, .int .i64 x.now.steps, .int .i64 x.now.kind, .int .i64 x.now.value.k, .int .i64 x.now.value.n, .string x.now.value.s] 51) := ⟨_, rfl⟩
  rw [← hW0] at R0 B0 s0 ⊢ r_code r_marks r_now
  clear hW0
  have e0 := cell_of_row _ _ 0 _ _ _ R0
  have e1 := cell_of_row _ _ 1 _ _ _ R0
  have e2 := cell_of_row _ _ 2 _ _ _ R0
  have e3 := cell_of_row _ _ 3 _ _ _ R0
  have e4 := cell_of_row _ _ 4 _ _ _ R0
  have e5 := cell_of_row _ _ 5 _ _ _ R0
  have e6 := cell_of_row _ _ 6 _ _ _ R0
  have e7 := cell_of_row _ _ 7 _ _ _ R0
  have e8 := cell_of_row _ _ 8 _ _ _ R0
  have e9 := cell_of_row _ _ 9 _ _ _ R0
  have e10 := cell_of_row _ _ 10 _ _ _ R0
  have e11 := cell_of_row _ _ 11 _ _ _ R0
  have e12 := cell_of_row _ _ 12 _ _ _ R0
  simp only [List.getElem?_toArray, List.getElem?_cons_zero, List.getElem?_cons_succ] at e0 e1 e2 e3 e4 e5 e6 e7 e8 e9 e10 e11 e12
  go_wp2_with fail
  refine (hdProtoS_any x.code a_code c_code (K) _ _ _ (fun b hb => by have := HS.out b (pv.within 0 b hb); omega) r_code (by push_cast; omega) (by omega) (by omega) l_code).mono ?_
  rintro e w1 ⟨rfl, hb1⟩
  have R1 := (hb1.block w.heap.size (by omega)).trans R0
  have B1 := B0.trans (hb1.mono B0.size)
  have s1 := hb1.size
  have r_marks := r_marks.below VmOwn_keeps (fun b hb => by have := HS.out b (pv.within 1 b hb); omega) hb1
  have r_now := VmOwn_keeps.below (fun b hb => by have := HS.out b (pv.within 2 b hb); omega) hb1 r_now
  clear e0 e1 e2 e3 e4 e5 e6 e7 e8 e9 e10 e11 e12
  have e0 := cell_of_row _ _ 0 _ _ _ R1
  have e1 := cell_of_row _ _ 1 _ _ _ R1
  have e2 := cell_of_row _ _ 2 _ _ _ R1
  have e3 := cell_of_row _ _ 3 _ _ _ R1
  have e4 := cell_of_row _ _ 4 _ _ _ R1
  have e5 := cell_of_row _ _ 5 _ _ _ R1
  have e6 := cell_of_row _ _ 6 _ _ _ R1
  have e7 := cell_of_row _ _ 7 _ _ _ R1
  have e8 := cell_of_row _ _ 8 _ _ _ R1
  have e9 := cell_of_row _ _ 9 _ _ _ R1
  have e10 := cell_of_row _ _ 10 _ _ _ R1
  have e11 := cell_of_row _ _ 11 _ _ _ R1
  have e12 := cell_of_row _ _ 12 _ _ _ R1
  simp only [List.getElem?_toArray, List.getElem?_cons_zero, List.getElem?_cons_succ] at e0 e1 e2 e3 e4 e5 e6 e7 e8 e9 e10 e11 e12
  go_wp2_with fail
  refine (hdVmS_any x.marks a_marks c_marks (K + mnR Protomn x.code) _ _ _ (fun b hb => by have := HS.out b (pv.within 1 b hb); omega) r_marks (by push_cast; omega) (by omega) (by omega) l_marks).mono ?_
  rintro e w2 ⟨rfl, hb2⟩
  have R2 := (hb2.block w.heap.size (by omega)).trans R1
  have B2 := B1.trans (hb2.mono B1.size)
  have s2 := hb2.size
  have r_now := VmOwn_keeps.below (fun b hb => by have := HS.out b (pv.within 2 b hb); omega) hb2 r_now
  clear e0 e1 e2 e3 e4 e5 e6 e7 e8 e9 e10 e11 e12
  have e0 := cell_of_row _ _ 0 _ _ _ R2
  have e1 := cell_of_row _ _ 1 _ _ _ R2
  have e2 := cell_of_row _ _ 2 _ _ _ R2
  have e3 := cell_of_row _ _ 3 _ _ _ R2
  have e4 := cell_of_row _ _ 4 _ _ _ R2
  have e5 := cell_of_row _ _ 5 _ _ _ R2
  have e6 := cell_of_row _ _ 6 _ _ _ R2
  have e7 := cell_of_row _ _ 7 _ _ _ R2
  have e8 := cell_of_row _ _ 8 _ _ _ R2
  have e9 := cell_of_row _ _ 9 _ _ _ R2
  have e10 := cell_of_row _ _ 10 _ _ _ R2
  have e11 := cell_of_row _ _ 11 _ _ _ R2
  have e12 := cell_of_row _ _ 12 _ _ _ R2
  simp only [List.getElem?_toArray, List.getElem?_cons_zero, List.getElem?_cons_succ] at e0 e1 e2 e3 e4 e5 e6 e7 e8 e9 e10 e11 e12
  go_wp2_with fail
  refine (hdVm_any x.now _ (K + mnR Protomn x.code + mnR Vmmn x.marks) _ _ _ (fun b hb => by have := HS.out b (pv.within 2 b hb); omega) r_now (by push_cast; omega) (by omega) (by omega)).mono ?_
  rintro e w3 ⟨rfl, hb3⟩
  have R3 := (hb3.block w.heap.size (by omega)).trans R2
  have B3 := B2.trans (hb3.mono B2.size)
  have s3 := hb3.size
  clear e0 e1 e2 e3 e4 e5 e6 e7 e8 e9 e10 e11 e12
  go_wp2_with fail
  go_ret
  exact ⟨ret_int (by push_cast; omega), B3⟩
end Go.Proofs.Ytgibejgemokljaa
