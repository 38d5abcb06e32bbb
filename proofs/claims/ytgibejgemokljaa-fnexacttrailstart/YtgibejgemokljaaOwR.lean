/- A heap and a machine are marked. -/
import Derived.Test.YtgibejgemokljaaOwQ
namespace Go.Proofs.Ytgibejgemokljaa
open Go.RowKit

def Heaptn (x : HeapD) : Nat := mnR PairSmn x.tables + 3 * x.cells.length
def Heaptd (K : Nat) (x : HeapD) : HeapD := { x with tables := mkR PairSmd PairSmn (K) x.tables, cells := mkF Valuemk 3 (K + mnR PairSmn x.tables) x.cells.length }
theorem Heaptd_own (x : HeapD) (_ok : x.Ok) (N : Nat) (a_tables : Option Addr) (c_tables : Nat) (a_cells : Option Addr) (c_cells : Nat) (V : Nat → Nat → Prop) (S : Nat → Prop) (w : World) (pv : Parts V S) (l_tables : x.tables.length ≤ maxLen) (r_tables : RowD 1 PairSOwn w (V 0) (mkR PairSmd PairSmn (N) x.tables) a_tables) (l_cells : x.cells.length ≤ maxLen) (r_cells : RowD 3 ValOwn w (V 1) (mkF Valuemk 3 (N + mnR PairSmn x.tables) x.cells.length) a_cells) : HeapOwn w S (Heaptd N x) [.slice a_tables x.tables.length c_tables, .slice a_cells x.cells.length c_cells] := by
  have h_tables : (Heaptd N x).tables.length = x.tables.length := mkR_len _ _ _ _
  have h_cells : (Heaptd N x).cells.length = x.cells.length := mkF_len _ _ _ _
  exact ⟨⟨(by rw [h_tables]; exact l_tables), (by rw [h_cells]; exact l_cells)⟩, V, pv, a_tables, c_tables, a_cells, c_cells, (by (rw [h_tables, h_cells]); try rfl), (by rw [h_tables]; exact l_tables), r_tables, (by rw [h_cells]; exact l_cells), r_cells⟩
set_option maxRecDepth 100000 in
set_option maxHeartbeats 4000000 in
theorem mkHeap_any (x : HeapD) (cs : List Value) (K : Nat) (z : Int) (S : Nat → Prop) (w : World) (hS : ∀ b, S b → b < w.heap.size) (hO : HeapOwn w S x cs) (hz : z = K) (hK : 0 < K) (hn : K + Heaptn x ≤ 1099511627776) :
    Calls Try.prog 75 #[.agg cs.toArray, .int .i64 z] w fun e w' => e = .returned (.int .i64 ((K + Heaptn x : Nat) : Int)) ∧ HeapOwn w' S (Heaptd K x) cs ∧ Outs S w w' := by
  subst hz
  unfold Heaptn at hn ⊢
  obtain ⟨ok, V, pv, a_tables, c_tables, a_cells, c_cells, rfl, l_tables, r_tables, l_cells, r_cells⟩ := hO
  have hSw : ¬ S w.heap.size := fun h => absurd (hS _ h) (Nat.lt_irrefl _)
  have HS : Hid (∀ b, S b → b < w.heap.size) := hS
  have R0 : (w.alloc (Obj.cells #[.slice a_tables x.tables.length c_tables, .slice a_cells x.cells.length c_cells] 38)).heap[w.heap.size]? = some (Obj.cells #[.slice a_tables x.tables.length c_tables, .slice a_cells x.cells.length c_cells] 38) := heap_alloc_new _ _
  have O0 : Outs S w (w.alloc (Obj.cells #[.slice a_tables x.tables.length c_tables, .slice a_cells x.cells.length c_cells] 38)) := (Outs.refl S w).alloc _
  have s0 : (w.alloc (Obj.cells #[.slice a_tables x.tables.length c_tables, .slice a_cells x.cells.length c_cells] 38)).heap.size = w.heap.size + 1 := by simp
  have r_tables := r_tables.later PairSOwn_keeps (w' := w.alloc (Obj.cells #[.slice a_tables x.tables.length c_tables, .slice a_cells x.cells.length c_cells] 38)) (fun _ h => h) (fun b hb => Below.heap_alloc _ _ _ (hS b (pv.within 0 b hb)))
  have r_cells := r_cells.later ValOwn_keeps (w' := w.alloc (Obj.cells #[.slice a_tables x.tables.length c_tables, .slice a_cells x.cells.length c_cells] 38)) (fun _ h => h) (fun b hb => Below.heap_alloc _ _ _ (hS b (pv.within 1 b hb)))
  clear hS
  go_enter Try.func75, Try.ntmps75
  go_wp2_with fail
  obtain ⟨W0, hW0⟩ : ∃ W0, W0 = w.alloc (Obj.cells #[.slice a_tables x.tables.length c_tables, .slice a_cells x.cells.length c_cells] 38) := ⟨_, rfl⟩
  rw [← hW0] at R0 O0 s0 ⊢ r_tables r_cells
  clear hW0
  have e0 := cell_of_row _ _ 0 _ _ _ R0
  have e1 := cell_of_row _ _ 1 _ _ _ R0
  simp only [List.getElem?_toArray, List.getElem?_cons_zero, List.getElem?_cons_succ] at e0 e1
  go_wp2_with fail
  refine (mkPairSS_any x.tables a_tables c_tables (K) _ _ _ (fun b hb => by have := HS.out b (pv.within 0 b hb); omega) r_tables (by push_cast; omega) (by omega) (by omega) l_tables).mono ?_
  rintro e w1 ⟨rfl, rN, oN⟩
  have R1 := (oN.block w.heap.size (by omega) (fun h => hSw (pv.within 0 _ h))).trans R0
  have O1 := O0.trans (oN.wide (pv.within 0))
  have s1 := oN.size
  have r_cells := r_cells.later ValOwn_keeps (fun _ h => h) (fun b hb => oN.block b (by have := HS.out b (pv.within 1 b hb); omega) (fun hc => by have := pv.apart 1 0 b hb hc; omega))
  have r_tables := rN
  clear rN oN e0 e1
  have e0 := cell_of_row _ _ 0 _ _ _ R1
  have e1 := cell_of_row _ _ 1 _ _ _ R1
  simp only [List.getElem?_toArray, List.getElem?_cons_zero, List.getElem?_cons_succ] at e0 e1
  go_wp2_with fail
  refine (mkValueS_any x.cells a_cells c_cells (K + mnR PairSmn x.tables) _ _ _ r_cells (by push_cast; omega) (by omega) (by omega)).mono ?_
  rintro e w2 ⟨rfl, rN, oN⟩
  have R2 := (oN.block w.heap.size (by omega) (fun h => hSw (pv.within 1 _ h))).trans R1
  have O2 := O1.trans (oN.wide (pv.within 1))
  have s2 := oN.size
  have r_tables := r_tables.later PairSOwn_keeps (fun _ h => h) (fun b hb => oN.block b (by have := HS.out b (pv.within 0 b hb); omega) (fun hc => by have := pv.apart 0 1 b hb hc; omega))
  have r_cells := rN
  clear rN oN e0 e1
  go_wp2_with fail
  go_ret
  exact ⟨ret_int (by push_cast; omega), Heaptd_own x ok K a_tables c_tables a_cells c_cells V S _ pv l_tables r_tables l_cells r_cells, O2⟩
def Vmtn (x : VmD) : Nat := Heaptn x.heap + mnR Closuremn x.funs + mnR Framemn x.frames + 1 * x.out.length
def Vmtd (K : Nat) (x : VmD) : VmD := { x with heap := Heaptd (K) x.heap, funs := mkR Closuremd Closuremn (K + Heaptn x.heap) x.funs, frames := mkR Framemd Framemn (K + Heaptn x.heap + mnR Closuremn x.funs) x.frames, out := mkF Stringmk 1 (K + Heaptn x.heap + mnR Closuremn x.funs + mnR Framemn x.frames) x.out.length }
theorem Vmtd_own (x : VmD) (ok : x.Ok) (N : Nat) (a_heap_tables : Option Addr) (c_heap_tables : Nat) (a_heap_cells : Option Addr) (c_heap_cells : Nat) (a_funs : Option Addr) (c_funs : Nat) (a_frames : Option Addr) (c_frames : Nat) (a_out : Option Addr) (c_out : Nat) (V : Nat → Nat → Prop) (S : Nat → Prop) (w : World) (pv : Parts V S) (r_heap : HeapOwn w (V 0) (Heaptd (N) x.heap) [.slice a_heap_tables x.heap.tables.length c_heap_tables, .slice a_heap_cells x.heap.cells.length c_heap_cells]) (l_funs : x.funs.length ≤ maxLen) (r_funs : RowD 2 ClosureOwn w (V 1) (mkR Closuremd Closuremn (N + Heaptn x.heap) x.funs) a_funs) (l_frames : x.frames.length ≤ maxLen) (r_frames : RowD 6 FrameOwn w (V 2) (mkR Framemd Framemn (N + Heaptn x.heap + mnR Closuremn x.funs) x.frames) a_frames) (l_out : x.out.length ≤ maxLen) (r_out : RowD 1 StrOwn w (V 3) (mkF Stringmk 1 (N + Heaptn x.heap + mnR Closuremn x.funs + mnR Framemn x.frames) x.out.length) a_out) : VmOwn w S (Vmtd N x) [.slice a_heap_tables x.heap.tables.length c_heap_tables, .slice a_heap_cells x.heap.cells.length c_heap_cells, .slice a_funs x.funs.length c_funs, .slice a_frames x.frames.length c_frames, .slice a_out x.out.length c_out, .int .i64 x.steps, .int .i64 x.kind, .int .i64 x.value.k, .int .i64 x.value.n, .string x.value.s] := by
  have h_heap_tables : (Vmtd N x).heap.tables.length = x.heap.tables.length := mkR_len _ _ _ _
  have h_heap_cells : (Vmtd N x).heap.cells.length = x.heap.cells.length := mkF_len _ _ _ _
  have h_funs : (Vmtd N x).funs.length = x.funs.length := mkR_len _ _ _ _
  have h_frames : (Vmtd N x).frames.length = x.frames.length := mkR_len _ _ _ _
  have h_out : (Vmtd N x).out.length = x.out.length := mkF_len _ _ _ _
  exact ⟨⟨(by have h := r_heap; exact h.1), (by rw [h_funs]; exact l_funs), (by rw [h_frames]; exact l_frames), (by rw [h_out]; exact l_out), ok.steps, ok.kind, ok.value⟩, V, pv, a_heap_tables, c_heap_tables, a_heap_cells, c_heap_cells, a_funs, c_funs, a_frames, c_frames, a_out, c_out, (by (rw [h_heap_tables, h_heap_cells, h_funs, h_frames, h_out]); try rfl), (by rw [h_heap_tables]; rw [h_heap_cells]; exact r_heap), (by rw [h_funs]; exact l_funs), r_funs, (by rw [h_frames]; exact l_frames), r_frames, (by rw [h_out]; exact l_out), r_out⟩
set_option maxRecDepth 100000 in
set_option maxHeartbeats 4000000 in
theorem mkVm_any (x : VmD) (cs : List Value) (K : Nat) (z : Int) (S : Nat → Prop) (w : World) (hS : ∀ b, S b → b < w.heap.size) (hO : VmOwn w S x cs) (hz : z = K) (hK : 0 < K) (hn : K + Vmtn x ≤ 1099511627776) :
    Calls Try.prog 27 #[.agg cs.toArray, .int .i64 z] w fun e w' => e = .returned (.int .i64 ((K + Vmtn x : Nat) : Int)) ∧ VmOwn w' S (Vmtd K x) cs ∧ Outs S w w' := by
  subst hz
  unfold Vmtn at hn ⊢
  obtain ⟨ok, V, pv, a_heap_tables, c_heap_tables, a_heap_cells, c_heap_cells, a_funs, c_funs, a_frames, c_frames, a_out, c_out, rfl, r_heap, l_funs, r_funs, l_frames, r_frames, l_out, r_out⟩ := hO
  have hSw : ¬ S w.heap.size := fun h => absurd (hS _ h) (Nat.lt_irrefl _)
  have HS : Hid (∀ b, S b → b < w.heap.size) := hS
  have R0 : (w.alloc (Obj.cells #[.slice a_heap_tables x.heap.tables.length c_heap_tables, .slice a_heap_cells x.heap.cells.length c_heap_cells, .slice a_funs x.funs.length c_funs, .slice a_frames x.frames.length c_frames, .slice a_out x.out.length c_out, .int .i64 x.steps, .int .i64 x.kind, .int .i64 x.value.k, .int .i64 x.value.n, .string x.value.s] 43)).heap[w.heap.size]? = some (Obj.cells #[.slice a_heap_tables x.heap.tables.length c_heap_tables, .slice a_heap_cells x.heap.cells.length c_heap_cells, .slice a_funs x.funs.length c_funs, .slice a_frames x.frames.length c_frames, .slice a_out x.out.length c_out, .int .i64 x.steps, .int .i64 x.kind, .int .i64 x.value.k, .int .i64 x.value.n, .string x.value.s] 43) := heap_alloc_new _ _
  have O0 : Outs S w (w.alloc (Obj.cells #[.slice a_heap_tables x.heap.tables.length c_heap_tables, .slice a_heap_cells x.heap.cells.length c_heap_cells, .slice a_funs x.funs.length c_funs, .slice a_frames x.frames.length c_frames, .slice a_out x.out.length c_out, .int .i64 x.steps, .int .i64 x.kind, .int .i64 x.value.k, .int .i64 x.value.n, .string x.value.s] 43)) := (Outs.refl S w).alloc _
  have s0 : (w.alloc (Obj.cells #[.slice a_heap_tables x.heap.tables.length c_heap_tables, .slice a_heap_cells x.heap.cells.length c_heap_cells, .slice a_funs x.funs.length c_funs, .slice a_frames x.frames.length c_frames, .slice a_out x.out.length c_out, .int .i64 x.steps, .int .i64 x.kind, .int .i64 x.value.k, .int .i64 x.value.n, .string x.value.s] 43)).heap.size = w.heap.size + 1 := by simp
  have r_heap := HeapOwn_keeps _ (w.alloc (Obj.cells #[.slice a_heap_tables x.heap.tables.length c_heap_tables, .slice a_heap_cells x.heap.cells.length c_heap_cells, .slice a_funs x.funs.length c_funs, .slice a_frames x.frames.length c_frames, .slice a_out x.out.length c_out, .int .i64 x.steps, .int .i64 x.kind, .int .i64 x.value.k, .int .i64 x.value.n, .string x.value.s] 43)) _ _ _ _ (fun _ h => h) (fun b hb => Below.heap_alloc _ _ _ (hS b (pv.within 0 b hb))) r_heap
  have r_funs := r_funs.later ClosureOwn_keeps (w' := w.alloc (Obj.cells #[.slice a_heap_tables x.heap.tables.length c_heap_tables, .slice a_heap_cells x.heap.cells.length c_heap_cells, .slice a_funs x.funs.length c_funs, .slice a_frames x.frames.length c_frames, .slice a_out x.out.length c_out, .int .i64 x.steps, .int .i64 x.kind, .int .i64 x.value.k, .int .i64 x.value.n, .string x.value.s] 43)) (fun _ h => h) (fun b hb => Below.heap_alloc _ _ _ (hS b (pv.within 1 b hb)))
  have r_frames := r_frames.later FrameOwn_keeps (w' := w.alloc (Obj.cells #[.slice a_heap_tables x.heap.tables.length c_heap_tables, .slice a_heap_cells x.heap.cells.length c_heap_cells, .slice a_funs x.funs.length c_funs, .slice a_frames x.frames.length c_frames, .slice a_out x.out.length c_out, .int .i64 x.steps, .int .i64 x.kind, .int .i64 x.value.k, .int .i64 x.value.n, .string x.value.s] 43)) (fun _ h => h) (fun b hb => Below.heap_alloc _ _ _ (hS b (pv.within 2 b hb)))
  have r_out := r_out.later StrOwn_keeps (w' := w.alloc (Obj.cells #[.slice a_heap_tables x.heap.tables.length c_heap_tables, .slice a_heap_cells x.heap.cells.length c_heap_cells, .slice a_funs x.funs.length c_funs, .slice a_frames x.frames.length c_frames, .slice a_out x.out.length c_out, .int .i64 x.steps, .int .i64 x.kind, .int .i64 x.value.k, .int .i64 x.value.n, .string x.value.s] 43)) (fun _ h => h) (fun b hb => Below.heap_alloc _ _ _ (hS b (pv.within 3 b hb)))
  clear hS
  go_enter Try.func27, Try.ntmps27
  go_wp2_with fail
  obtain ⟨W0, hW0⟩ : ∃ W0, W0 = w.alloc (Obj.cells #[.slice a_heap_tables x.heap.tables.length c_heap_tables, .slice a_heap_cells x.heap.cells.length c_heap_cells, .slice a_funs x.funs.length c_funs, .slice a_frames x.frames.length c_frames, .slice a_out x.out.length c_out, .int .i64 x.steps, .int .i64 x.kind, .int .i64 x.value.k, .int .i64 x.value.n, .string x.value.s] 43) := ⟨_, rfl⟩
  rw [← hW0] at R0 O0 s0 ⊢ r_heap r_funs r_frames r_out
  clear hW0
  have e0 := cell_of_row _ _ 0 _ _ _ R0
  have e1 := cell_of_row _ _ 1 _ _ _ R0
  have e2 := cell_of_row _ _ 2 _ _ _ R0
  have e3 := cell_of_row _ _ 3 _ _ _ R0
  have e4 := cell_of_row _ _ 4 _ _ _ R0
  have e5 := cell_of_row _ _ 5 _ _ _ R0
  have e6 := cell_of_row _ _ 6 _ _ _ R0
  have e7 := cell_of_row _ _ 7 _ _ _ R0
  have e8 := cell_of_row _ _ 8 _ _ _ R0
  have e9 := cell_of_row _ _ 9 _ _ _ R0
  simp only [List.getElem?_toArray, List.getElem?_cons_zero, List.getElem?_cons_succ] at e0 e1 e2 e3 e4 e5 e6 e7 e8 e9
  go_wp2_with fail
  refine (mkHeap_any x.heap _ (K) _ _ _ (fun b hb => by have := HS.out b (pv.within 0 b hb); omega) r_heap (by push_cast; omega) (by omega) (by omega)).mono ?_
  rintro e w1 ⟨rfl, rN, oN⟩
  have R1 := (oN.block w.heap.size (by omega) (fun h => hSw (pv.within 0 _ h))).trans R0
  have O1 := O0.trans (oN.wide (pv.within 0))
  have s1 := oN.size
  have r_funs := r_funs.later ClosureOwn_keeps (fun _ h => h) (fun b hb => oN.block b (by have := HS.out b (pv.within 1 b hb); omega) (fun hc => by have := pv.apart 1 0 b hb hc; omega))
  have r_frames := r_frames.later FrameOwn_keeps (fun _ h => h) (fun b hb => oN.block b (by have := HS.out b (pv.within 2 b hb); omega) (fun hc => by have := pv.apart 2 0 b hb hc; omega))
  have r_out := r_out.later StrOwn_keeps (fun _ h => h) (fun b hb => oN.block b (by have := HS.out b (pv.within 3 b hb); omega) (fun hc => by have := pv.apart 3 0 b hb hc; omega))
  have r_heap := rN
  clear rN oN e0 e1 e2 e3 e4 e5 e6 e7 e8 e9
  have e0 := cell_of_row _ _ 0 _ _ _ R1
  have e1 := cell_of_row _ _ 1 _ _ _ R1
  have e2 := cell_of_row _ _ 2 _ _ _ R1
  have e3 := cell_of_row _ _ 3 _ _ _ R1
  have e4 := cell_of_row _ _ 4 _ _ _ R1
  have e5 := cell_of_row _ _ 5 _ _ _ R1
  have e6 := cell_of_row _ _ 6 _ _ _ R1
  have e7 := cell_of_row _ _ 7 _ _ _ R1
  have e8 := cell_of_row _ _ 8 _ _ _ R1
  have e9 := cell_of_row _ _ 9 _ _ _ R1
  simp only [List.getElem?_toArray, List.getElem?_cons_zero, List.getElem?_cons_succ] at e0 e1 e2 e3 e4 e5 e6 e7 e8 e9
  go_wp2_with fail
  refine (mkClosureS_any x.funs a_funs c_funs (K + Heaptn x.heap) _ _ _ (fun b hb => by have := HS.out b (pv.within 1 b hb); omega) r_funs (by push_cast; omega) (by omega) (by omega) l_funs).mono ?_
  rintro e w2 ⟨rfl, rN, oN⟩
  have R2 := (oN.block w.heap.size (by omega) (fun h => hSw (pv.within 1 _ h))).trans R1
  have O2 := O1.trans (oN.wide (pv.within 1))
  have s2 := oN.size
  have r_heap := HeapOwn_keeps _ w2 _ _ _ _ (fun _ h => h) (fun b hb => oN.block b (by have := HS.out b (pv.within 0 b hb); omega) (fun hc => by have := pv.apart 0 1 b hb hc; omega)) r_heap
  have r_frames := r_frames.later FrameOwn_keeps (fun _ h => h) (fun b hb => oN.block b (by have := HS.out b (pv.within 2 b hb); omega) (fun hc => by have := pv.apart 2 1 b hb hc; omega))
  have r_out := r_out.later StrOwn_keeps (fun _ h => h) (fun b hb => oN.block b (by have := HS.out b (pv.within 3 b hb); omega) (fun hc => by have := pv.apart 3 1 b hb hc; omega))
  have r_funs := rN
  clear rN oN e0 e1 e2 e3 e4 e5 e6 e7 e8 e9
  have e0 := cell_of_row _ _ 0 _ _ _ R2
  have e1 := cell_of_row _ _ 1 _ _ _ R2
  have e2 := cell_of_row _ _ 2 _ _ _ R2
  have e3 := cell_of_row _ _ 3 _ _ _ R2
  have e4 := cell_of_row _ _ 4 _ _ _ R2
  have e5 := cell_of_row _ _ 5 _ _ _ R2
  have e6 := cell_of_row _ _ 6 _ _ _ R2
  have e7 := cell_of_row _ _ 7 _ _ _ R2
  have e8 := cell_of_row _ _ 8 _ _ _ R2
  have e9 := cell_of_row _ _ 9 _ _ _ R2
  simp only [List.getElem?_toArray, List.getElem?_cons_zero, List.getElem?_cons_succ] at e0 e1 e2 e3 e4 e5 e6 e7 e8 e9
  go_wp2_with fail
  refine (mkFrameS_any x.frames a_frames c_frames (K + Heaptn x.heap + mnR Closuremn x.funs) _ _ _ (fun b hb => by have := HS.out b (pv.within 2 b hb); omega) r_frames (by push_cast; omega) (by omega) (by omega) l_frames).mono ?_
  rintro e w3 ⟨rfl, rN, oN⟩
  have R3 := (oN.block w.heap.size (by omega) (fun h => hSw (pv.within 2 _ h))).trans R2
  have O3 := O2.trans (oN.wide (pv.within 2))
  have s3 := oN.size
  have r_heap := HeapOwn_keeps _ w3 _ _ _ _ (fun _ h => h) (fun b hb => oN.block b (by have := HS.out b (pv.within 0 b hb); omega) (fun hc => by have := pv.apart 0 2 b hb hc; omega)) r_heap
  have r_funs := r_funs.later ClosureOwn_keeps (fun _ h => h) (fun b hb => oN.block b (by have := HS.out b (pv.within 1 b hb); omega) (fun hc => by have := pv.apart 1 2 b hb hc; omega))
  have r_out := r_out.later StrOwn_keeps (fun _ h => h) (fun b hb => oN.block b (by have := HS.out b (pv.within 3 b hb); omega) (fun hc => by have := pv.apart 3 2 b hb hc; omega))
  have r_frames := rN
  clear rN oN e0 e1 e2 e3 e4 e5 e6 e7 e8 e9
  have e0 := cell_of_row _ _ 0 _ _ _ R3
  have e1 := cell_of_row _ _ 1 _ _ _ R3
  have e2 := cell_of_row _ _ 2 _ _ _ R3
  have e3 := cell_of_row _ _ 3 _ _ _ R3
  have e4 := cell_of_row _ _ 4 _ _ _ R3
  have e5 := cell_of_row _ _ 5 _ _ _ R3
  have e6 := cell_of_row _ _ 6 _ _ _ R3
  have e7 := cell_of_row _ _ 7 _ _ _ R3
  have e8 := cell_of_row _ _ 8 _ _ _ R3
  have e9 := cell_of_row _ _ 9 _ _ _ R3
  simp only [List.getElem?_toArray, List.getElem?_cons_zero, List.getElem?_cons_succ] at e0 e1 e2 e3 e4 e5 e6 e7 e8 e9
  go_wp2_with fail
  refine (mkStringS_any x.out a_out c_out (K + Heaptn x.heap + mnR Closuremn x.funs + mnR Framemn x.frames) _ _ _ r_out (by push_cast; omega) (by omega) (by omega)).mono ?_
  rintro e w4 ⟨rfl, rN, oN⟩
  have R4 := (oN.block w.heap.size (by omega) (fun h => hSw (pv.within 3 _ h))).trans R3
  have O4 := O3.trans (oN.wide (pv.within 3))
  have s4 := oN.size
  have r_heap := HeapOwn_keeps _ w4 _ _ _ _ (fun _ h => h) (fun b hb => oN.block b (by have := HS.out b (pv.within 0 b hb); omega) (fun hc => by have := pv.apart 0 3 b hb hc; omega)) r_heap
  have r_funs := r_funs.later ClosureOwn_keeps (fun _ h => h) (fun b hb => oN.block b (by have := HS.out b (pv.within 1 b hb); omega) (fun hc => by have := pv.apart 1 3 b hb hc; omega))
  have r_frames := r_frames.later FrameOwn_keeps (fun _ h => h) (fun b hb => oN.block b (by have := HS.out b (pv.within 2 b hb); omega) (fun hc => by have := pv.apart 2 3 b hb hc; omega))
  have r_out := rN
  clear rN oN e0 e1 e2 e3 e4 e5 e6 e7 e8 e9
  go_wp2_with fail
  go_ret
  exact ⟨ret_int (by push_cast; omega), Vmtd_own x ok K a_heap_tables c_heap_tables a_heap_cells c_heap_cells a_funs c_funs a_frames c_frames a_out c_out V S _ pv r_heap l_funs r_funs l_frames r_frames l_out r_out, O4⟩
end Go.Proofs.Ytgibejgemokljaa
