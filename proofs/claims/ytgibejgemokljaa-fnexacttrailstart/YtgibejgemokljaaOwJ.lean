/- A marked heap, a marked machine is found marked. -/
import Derived.Test.YtgibejgemokljaaOwI
import Derived.Test.YtgibejgemokljaaOwR
namespace Go.Proofs.Ytgibejgemokljaa
open Go.RowKit

set_option maxRecDepth 100000 in
set_option maxHeartbeats 4000000 in
theorem hdHeap_any (x : HeapD) (cs : List Value) (K : Nat) (z : Int) (S : Nat → Prop) (w : World) (hS : ∀ b, S b → b < w.heap.size) (hO : HeapOwn w S (Heaptd K x) cs) (hz : z = K) (hK : 0 < K) (hn : K + Heaptn x ≤ 1099511627776) :
    Calls Try.prog 79 #[.agg cs.toArray, .int .i64 z] w fun e w' => e = .returned (.int .i64 ((K + Heaptn x : Nat) : Int)) ∧ Below w.heap.size w w' := by
  subst hz
  unfold Heaptn at hn ⊢
  obtain ⟨ok, V, pv, a_tables, c_tables, a_cells, c_cells, rfl, l_tables, r_tables, l_cells, r_cells⟩ := hO
  have h_tables : (Heaptd K x).tables.length = x.tables.length := mkR_len _ _ _ _
  rw [h_tables] at l_tables
  have h_cells : (Heaptd K x).cells.length = x.cells.length := mkF_len _ _ _ _
  rw [h_cells] at l_cells
  rw [h_tables, h_cells]
  have R0 : (w.alloc (Obj.cells #[.slice a_tables x.tables.length c_tables, .slice a_cells x.cells.length c_cells] 38)).heap[w.heap.size]? = some (Obj.cells #[.slice a_tables x.tables.length c_tables, .slice a_cells x.cells.length c_cells] 38) := heap_alloc_new _ _
  have B0 : Below w.heap.size w (w.alloc (Obj.cells #[.slice a_tables x.tables.length c_tables, .slice a_cells x.cells.length c_cells] 38)) := bel_alloc _ _
  have s0 : (w.alloc (Obj.cells #[.slice a_tables x.tables.length c_tables, .slice a_cells x.cells.length c_cells] 38)).heap.size = w.heap.size + 1 := by simp
  have HS : Hid (∀ b, S b → b < w.heap.size) := hS
  have r_tables : RowD 1 PairSOwn w (V 0) (mkR PairSmd PairSmn (K) x.tables) a_tables := r_tables
  have r_tables := r_tables.below PairSOwn_keeps (fun b hb => hS b (pv.within 0 b hb)) B0
  have r_cells : RowD 3 ValOwn w (V 1) (mkF Valuemk 3 (K + mnR PairSmn x.tables) x.cells.length) a_cells := r_cells
  have r_cells := r_cells.below ValOwn_keeps (fun b hb => hS b (pv.within 1 b hb)) B0
  clear hS
  go_enter Try.func79, Try.ntmps79
  go_wp2_with fail
  obtain ⟨W0, hW0⟩ : ∃ W0, W0 = w.alloc (Obj.cells #[.slice a_tables x.tables.length c_tables, .slice a_cells x.cells.length c_cells] 38) := ⟨_, rfl⟩
  rw [← hW0] at R0 B0 s0 ⊢ r_tables r_cells
  clear hW0
  have e0 := cell_of_row _ _ 0 _ _ _ R0
  have e1 := cell_of_row _ _ 1 _ _ _ R0
  simp only [List.getElem?_toArray, List.getElem?_cons_zero, List.getElem?_cons_succ] at e0 e1
  go_wp2_with fail
  refine (hdPairSS_any x.tables a_tables c_tables (K) _ _ _ (fun b hb => by have := HS.out b (pv.within 0 b hb); omega) r_tables (by push_cast; omega) (by omega) (by omega) l_tables).mono ?_
  rintro e w1 ⟨rfl, hb1⟩
  have R1 := (hb1.block w.heap.size (by omega)).trans R0
  have B1 := B0.trans (hb1.mono B0.size)
  have s1 := hb1.size
  have r_cells := r_cells.below ValOwn_keeps (fun b hb => by have := HS.out b (pv.within 1 b hb); omega) hb1
  clear e0 e1
  have e0 := cell_of_row _ _ 0 _ _ _ R1
  have e1 := cell_of_row _ _ 1 _ _ _ R1
  simp only [List.getElem?_toArray, List.getElem?_cons_zero, List.getElem?_cons_succ] at e0 e1
  go_wp2_with fail
  refine (hdValueS_any x.cells.length a_cells c_cells (K + mnR PairSmn x.tables) _ _ _ r_cells (by push_cast; omega) (by omega) (by omega)).mono ?_
  rintro e w2 ⟨rfl, hb2⟩
  have R2 := (hb2.block w.heap.size (by omega)).trans R1
  have B2 := B1.trans (hb2.mono B1.size)
  have s2 := hb2.size
  clear e0 e1
  go_wp2_with fail
  go_ret
  exact ⟨ret_int (by push_cast; omega), B2⟩
set_option maxRecDepth 100000 in
set_option maxHeartbeats 4000000 in
theorem hdVm_any (x : VmD) (cs : List Value) (K : Nat) (z : Int) (S : Nat → Prop) (w : World) (hS : ∀ b, S b → b < w.heap.size) (hO : VmOwn w S (Vmtd K x) cs) (hz : z = K) (hK : 0 < K) (hn : K + Vmtn x ≤ 1099511627776) :
    Calls Try.prog 28 #[.agg cs.toArray, .int .i64 z] w fun e w' => e = .returned (.int .i64 ((K + Vmtn x : Nat) : Int)) ∧ Below w.heap.size w w' := by
  subst hz
  unfold Vmtn at hn ⊢
  obtain ⟨ok, V, pv, a_heap_tables, c_heap_tables, a_heap_cells, c_heap_cells, a_funs, c_funs, a_frames, c_frames, a_out, c_out, rfl, r_heap, l_funs, r_funs, l_frames, r_frames, l_out, r_out⟩ := hO
  have h_heap_tables : (Vmtd K x).heap.tables.length = x.heap.tables.length := mkR_len _ _ _ _
  rw [h_heap_tables] at r_heap
  have h_heap_cells : (Vmtd K x).heap.cells.length = x.heap.cells.length := mkF_len _ _ _ _
  rw [h_heap_cells] at r_heap
  have h_funs : (Vmtd K x).funs.length = x.funs.length := mkR_len _ _ _ _
  rw [h_funs] at l_funs
  have h_frames : (Vmtd K x).frames.length = x.frames.length := mkR_len _ _ _ _
  rw [h_frames] at l_frames
  have h_out : (Vmtd K x).out.length = x.out.length := mkF_len _ _ _ _
  rw [h_out] at l_out
  rw [h_funs, h_frames, h_out, h_heap_tables, h_heap_cells]
  simp only [show (Vmtd K x).steps = x.steps from rfl, show (Vmtd K x).kind = x.kind from rfl, show (Vmtd K x).value = x.value from rfl]
  have R0 : (w.alloc (Obj.cells #[.slice a_heap_tables x.heap.tables.length c_heap_tables, .slice a_heap_cells x.heap.cells.length c_heap_cells, .slice a_funs x.funs.length c_funs, .slice a_frames x.frames.length c_frames, .slice a_out x.out.length c_out, .int .i64 x.steps, .int .i64 x.kind, .int .i64 x.value.k, .int .i64 x.value.n, .string x.value.s] 43)).heap[w.heap.size]? = some (Obj.cells #[.slice a_heap_tables x.heap.tables.length c_heap_tables, .slice a_heap_cells x.heap.cells.length c_heap_cells, .slice a_funs x.funs.length c_funs, .slice a_frames x.frames.length c_frames, .slice a_out x.out.length c_out, .int .i64 x.steps, .int .i64 x.kind, .int .i64 x.value.k, .int .i64 x.value.n, .string x.value.s] 43) := heap_alloc_new _ _
  have B0 : Below w.heap.size w (w.alloc (Obj.cells #[.slice a_heap_tables x.heap.tables.length c_heap_tables, .slice a_heap_cells x.heap.cells.length c_heap_cells, .slice a_funs x.funs.length c_funs, .slice a_frames x.frames.length c_frames, .slice a_out x.out.length c_out, .int .i64 x.steps, .int .i64 x.kind, .int .i64 x.value.k, .int .i64 x.value.n, .string x.value.s] 43)) := bel_alloc _ _
  have s0 : (w.alloc (Obj.cells #[.slice a_heap_tables x.heap.tables.length c_heap_tables, .slice a_heap_cells x.heap.cells.length c_heap_cells, .slice a_funs x.funs.length c_funs, .slice a_frames x.frames.length c_frames, .slice a_out x.out.length c_out, .int .i64 x.steps, .int .i64 x.kind, .int .i64 x.value.k, .int .i64 x.value.n, .string x.value.s] 43)).heap.size = w.heap.size + 1 := by simp
  have HS : Hid (∀ b, S b → b < w.heap.size) := hS
  have r_heap : HeapOwn w (V 0) (Heaptd (K) x.heap) [.slice a_heap_tables x.heap.tables.length c_heap_tables, .slice a_heap_cells x.heap.cells.length c_heap_cells] := r_heap
  have r_heap := HeapOwn_keeps.below (fun b hb => hS b (pv.within 0 b hb)) B0 r_heap
  have r_funs : RowD 2 ClosureOwn w (V 1) (mkR Closuremd Closuremn (K + Heaptn x.heap) x.funs) a_funs := r_funs
  have r_funs := r_funs.below ClosureOwn_keeps (fun b hb => hS b (pv.within 1 b hb)) B0
  have r_frames : RowD 6 FrameOwn w (V 2) (mkR Framemd Framemn (K + Heaptn x.heap + mnR Closuremn x.funs) x.frames) a_frames := r_frames
  have r_frames := r_frames.below FrameOwn_keeps (fun b hb => hS b (pv.within 2 b hb)) B0
  have r_out : RowD 1 StrOwn w (V 3) (mkF Stringmk 1 (K + Heaptn x.heap + mnR Closuremn x.funs + mnR Framemn x.frames) x.out.length) a_out := r_out
  have r_out := r_out.below StrOwn_keeps (fun b hb => hS b (pv.within 3 b hb)) B0
  clear hS
  go_enter Try.func28, Try.ntmps28
  go_wp2_with fail
  obtain ⟨W0, hW0⟩ : ∃ W0, W0 = w.alloc (Obj.cells #[.slice a_heap_tables x.heap.tables.length c_heap_tables, .slice a_heap_cells x.heap.cells.length c_heap_cells, .slice a_funs x.funs.length c_funs, .slice a_frames x.frames.length c_frames, .slice a_out x.out.length c_out, .int .i64 x.steps, .int .i64 x.kind, .int .i64 x.value.k, .int .i64 x.value.n, .string x.value.s] 43) := ⟨_, rfl⟩
  rw [← hW0] at R0 B0 s0 ⊢ r_heap r_funs r_frames r_out
  clear hW0
  have e0 := cell_of_row _ _ 0 _ _ _ R0
  have e1 := cell_of_row _ _ 1 _ _ _ R0
  have e2 := cell_of_row _ _ 2 _ _ _ R0
  have e3 := cell_of_row _ _ 3 _ _ _ R0
  have e4 := cell_of_row _ _ 4 _ _ _ R0
  have e5 := cell_of_row _ _ 5 _ _ _ R0
  have e6 := cell_of_row _ _ 6 _ _ _ R0
  have e7 := cell_of_row _ _ 7 _ _ _ R0
  have e8 := cell_of_row _ _ 8 _ _ _ R0
  have e9 := cell_of_row _ _ 9 _ _ _ R0
  simp only [List.getElem?_toArray, List.getElem?_cons_zero, List.getElem?_cons_succ] at e0 e1 e2 e3 e4 e5 e6 e7 e8 e9
  go_wp2_with fail
  refine (hdHeap_any x.heap _ (K) _ _ _ (fun b hb => by have := HS.out b (pv.within 0 b hb); omega) r_heap (by push_cast; omega) (by omega) (by omega)).mono ?_
  rintro e w1 ⟨rfl, hb1⟩
  have R1 := (hb1.block w.heap.size (by omega)).trans R0
  have B1 := B0.trans (hb1.mono B0.size)
  have s1 := hb1.size
  have r_funs := r_funs.below ClosureOwn_keeps (fun b hb => by have := HS.out b (pv.within 1 b hb); omega) hb1
  have r_frames := r_frames.below FrameOwn_keeps (fun b hb => by have := HS.out b (pv.within 2 b hb); omega) hb1
  have r_out := r_out.below StrOwn_keeps (fun b hb => by have := HS.out b (pv.within 3 b hb); omega) hb1
  clear e0 e1 e2 e3 e4 e5 e6 e7 e8 e9
  have e0 := cell_of_row _ _ 0 _ _ _ R1
  have e1 := cell_of_row _ _ 1 _ _ _ R1
  have e2 := cell_of_row _ _ 2 _ _ _ R1
  have e3 := cell_of_row _ _ 3 _ _ _ R1
  have e4 := cell_of_row _ _ 4 _ _ _ R1
  have e5 := cell_of_row _ _ 5 _ _ _ R1
  have e6 := cell_of_row _ _ 6 _ _ _ R1
  have e7 := cell_of_row _ _ 7 _ _ _ R1
  have e8 := cell_of_row _ _ 8 _ _ _ R1
  have e9 := cell_of_row _ _ 9 _ _ _ R1
  simp only [List.getElem?_toArray, List.getElem?_cons_zero, List.getElem?_cons_succ] at e0 e1 e2 e3 e4 e5 e6 e7 e8 e9
  go_wp2_with fail
  refine (hdClosureS_any x.funs a_funs c_funs (K + Heaptn x.heap) _ _ _ (fun b hb => by have := HS.out b (pv.within 1 b hb); omega) r_funs (by push_cast; omega) (by omega) (by omega) l_funs).mono ?_
  rintro e w2 ⟨rfl, hb2⟩
  have R2 := (hb2.block w.heap.size (by omega)).trans R1
  have B2 := B1.trans (hb2.mono B1.size)
  have s2 := hb2.size
  have r_frames := r_frames.below FrameOwn_keeps (fun b hb => by have := HS.out b (pv.within 2 b hb); omega) hb2
  have r_out := r_out.below StrOwn_keeps (fun b hb => by have := HS.out b (pv.within 3 b hb); omega) hb2
  clear e0 e1 e2 e3 e4 e5 e6 e7 e8 e9
  have e0 := cell_of_row _ _ 0 _ _ _ R2
  have e1 := cell_of_row _ _ 1 _ _ _ R2
  have e2 := cell_of_row _ _ 2 _ _ _ R2
  have e3 := cell_of_row _ _ 3 _ _ _ R2
  have e4 := cell_of_row _ _ 4 _ _ _ R2
  have e5 := cell_of_row _ _ 5 _ _ _ R2
  have e6 := cell_of_row _ _ 6 _ _ _ R2
  have e7 := cell_of_row _ _ 7 _ _ _ R2
  have e8 := cell_of_row _ _ 8 _ _ _ R2
  have e9 := cell_of_row _ _ 9 _ _ _ R2
  simp only [List.getElem?_toArray, List.getElem?_cons_zero, List.getElem?_cons_succ] at e0 e1 e2 e3 e4 e5 e6 e7 e8 e9
  go_wp2_with fail
  refine (hdFrameS_any x.frames a_frames c_frames (K + Heaptn x.heap + mnR Closuremn x.funs) _ _ _ (fun b hb => by have := HS.out b (pv.within 2 b hb); omega) r_frames (by push_cast; omega) (by omega) (by omega) l_frames).mono ?_
  rintro e w3 ⟨rfl, hb3⟩
  have R3 := (hb3.block w.heap.size (by omega)).trans R2
  have B3 := B2.trans (hb3.mono B2.size)
  have s3 := hb3.size
  have r_out := r_out.below StrOwn_keeps (fun b hb => by have := HS.out b (pv.within 3 b hb); omega) hb3
  clear e0 e1 e2 e3 e4 e5 e6 e7 e8 e9
  have e0 := cell_of_row _ _ 0 _ _ _ R3
  have e1 := cell_of_row _ _ 1 _ _ _ R3
  have e2 := cell_of_row _ _ 2 _ _ _ R3
  have e3 := cell_of_row _ _ 3 _ _ _ R3
  have e4 := cell_of_row _ _ 4 _ _ _ R3
  have e5 := cell_of_row _ _ 5 _ _ _ R3
  have e6 := cell_of_row _ _ 6 _ _ _ R3
  have e7 := cell_of_row _ _ 7 _ _ _ R3
  have e8 := cell_of_row _ _ 8 _ _ _ R3
  have e9 := cell_of_row _ _ 9 _ _ _ R3
  simp only [List.getElem?_toArray, List.getElem?_cons_zero, List.getElem?_cons_succ] at e0 e1 e2 e3 e4 e5 e6 e7 e8 e9
  go_wp2_with fail
  refine (hdStringS_any x.out.length a_out c_out (K + Heaptn x.heap + mnR Closuremn x.funs + mnR Framemn x.frames) _ _ _ r_out (by push_cast; omega) (by omega) (by omega)).mono ?_
  rintro e w4 ⟨rfl, hb4⟩
  have R4 := (hb4.block w.heap.size (by omega)).trans R3
  have B4 := B3.trans (hb4.mono B3.size)
  have s4 := hb4.size
  clear e0 e1 e2 e3 e4 e5 e6 e7 e8 e9
  go_wp2_with fail
  go_ret
  exact ⟨ret_int (by push_cast; omega), B4⟩
end Go.Proofs.Ytgibejgemokljaa
