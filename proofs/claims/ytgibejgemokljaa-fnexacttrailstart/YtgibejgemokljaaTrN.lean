/- A trail is marked. -/
import Derived.Test.YtgibejgemokljaaTrM
import Derived.Test.YtgibejgemokljaaOwR
namespace Go.Proofs.Ytgibejgemokljaa
open Go.RowKit

def Trailtn (x : TrailD) : Nat := mnR Protomn x.code + mnR Vmmn x.marks + Vmtn x.now
def Trailtd (K : Nat) (x : TrailD) : TrailD := { x with code := mkR Protomd Protomn (K) x.code, marks := mkR Vmmd Vmmn (K + mnR Protomn x.code) x.marks, now := Vmtd (K + mnR Protomn x.code + mnR Vmmn x.marks) x.now }
theorem Trailtd_own (x : TrailD) (ok : x.Ok) (N : Nat) (a_code : Option Addr) (c_code : Nat) (a_marks : Option Addr) (c_marks : Nat) (a_now_heap_tables : Option Addr) (c_now_heap_tables : Nat) (a_now_heap_cells : Option Addr) (c_now_heap_cells : Nat) (a_now_funs : Option Addr) (c_now_funs : Nat) (a_now_frames : Option Addr) (c_now_frames : Nat) (a_now_out : Option Addr) (c_now_out : Nat) (V : Nat → Nat → Prop) (S : Nat → Prop) (w : World) (pv : Parts V S) (l_code : x.code.length ≤ maxLen) (r_code : RowD 5 ProtoOwn w (V 0) (mkR Protomd Protomn (N) x.code) a_code) (l_marks : x.marks.length ≤ maxLen) (r_marks : RowD 10 VmOwn w (V 1) (mkR Vmmd Vmmn (N + mnR Protomn x.code) x.marks) a_marks) (r_now : VmOwn w (V 2) (Vmtd (N + mnR Protomn x.code + mnR Vmmn x.marks) x.now) [.slice a_now_heap_tables x.now.heap.tables.length c_now_heap_tables, .slice a_now_heap_cells x.now.heap.cells.length c_now_heap_cells, .slice a_now_funs x.now.funs.length c_now_funs, .slice a_now_frames x.now.frames.length c_now_frames, .slice a_now_out x.now.out.length c_now_out, .int .i64 x.now.steps, .int .i64 x.now.kind, .int .i64 x.now.value.k, .int .i64 x.now.value.n, .string x.now.value.s]) : TrailOwn w S (Trailtd N x) [.slice a_code x.code.length c_code, .int .i64 x.every, .slice a_marks x.marks.length c_marks, .slice a_now_heap_tables x.now.heap.tables.length c_now_heap_tables, .slice a_now_heap_cells x.now.heap.cells.length c_now_heap_cells, .slice a_now_funs x.now.funs.length c_now_funs, .slice a_now_frames x.now.frames.length c_now_frames, .slice a_now_out x.now.out.length c_now_out, .int .i64 x.now.steps, .int .i64 x.now.kind, .int .i64 x.now.value.k, .int .i64 x.now.value.n, .string x.now.value.s] := by
  have h_code : (Trailtd N x).code.length = x.code.length := mkR_len _ _ _ _
  have h_marks : (Trailtd N x).marks.length = x.marks.length := mkR_len _ _ _ _
  have h_now_heap_tables : (Trailtd N x).now.heap.tables.length = x.now.heap.tables.length := mkR_len _ _ _ _
  have h_now_heap_cells : (Trailtd N x).now.heap.cells.length = x.now.heap.cells.length := mkF_len _ _ _ _
  have h_now_funs : (Trailtd N x).now.funs.length = x.now.funs.length := mkR_len _ _ _ _
  have h_now_frames : (Trailtd N x).now.frames.length = x.now.frames.length := mkR_len _ _ _ _
  have h_now_out : (Trailtd N x).now.out.length = x.now.out.length := mkF_len _ _ _ _
  exact ⟨⟨(by rw [h_code]; exact l_code), ok.every, (by rw [h_marks]; exact l_marks), (by have h := r_now; exact h.1)⟩, V, pv, a_code, c_code, a_marks, c_marks, a_now_heap_tables, c_now_heap_tables, a_now_heap_cells, c_now_heap_cells, a_now_funs, c_now_funs, a_now_frames, c_now_frames, a_now_out, c_now_out, (by (rw [h_code, h_marks, h_now_heap_tables, h_now_heap_cells, h_now_funs, h_now_frames, h_now_out]); try rfl), (by rw [h_code]; exact l_code), r_code, (by rw [h_marks]; exact l_marks), r_marks, (by rw [h_now_heap_tables]; rw [h_now_heap_cells]; rw [h_now_funs]; rw [h_now_frames]; rw [h_now_out]; exact r_now)⟩
set_option maxRecDepth 100000 in
set_option maxHeartbeats 4000000 in
theorem mkTrail_any (x : TrailD) (cs : List Value) (K : Nat) (z : Int) (S : Nat → Prop) (w : World) (hS : ∀ b, S b → b < w.heap.size) (hO : TrailOwn w S x cs) (hz : z = K) (hK : 0 < K) (hn : K + Trailtn x ≤ 1099511627776) :
    Calls Try.prog 19 #[.agg cs.toArray, .int .i64 z] w fun e w' => e = .returned (.int .i64 ((K + Trailtn x : Nat) : Int)) ∧ TrailOwn w' S (Trailtd K x) cs ∧ Outs S w w' := by
  subst hz
  unfold Trailtn at hn ⊢
  obtain ⟨ok, V, pv, a_code, c_code, a_marks, c_marks, a_now_heap_tables, c_now_heap_tables, a_now_heap_cells, c_now_heap_cells, a_now_funs, c_now_funs, a_now_frames, c_now_frames, a_now_out, c_now_out, rfl, l_code, r_code, l_marks, r_marks, r_now⟩ := hO
  have hSw : ¬ S w.heap.size := fun h => absurd (hS _ h) (Nat.lt_irrefl _)
  have HS : Hid (∀ b, S b → b < w.heap.size) := hS
  have R0 : (w.alloc (Obj.cells #[.slice a_code x.code.length c_code, .int .i64 x.every, .slice a_marks x.marks.length c_marks, .slice a_now_heap_tables x.now.heap.tables.length c_now_heap_tables, .slice a_now_heap_cells x.now.heap.cells.length c_now_heap_cells, .slice a_now_funs x.now.funs.length c_now_funs, .slice a_now_frames x.now.frames.length c_now_frames, .slice a_now_out x.now.out.length c_now_out, .int .i64 x.now.steps, .int .i64 x.now.kind, .int .i64 x.now.value.k, .int .i64 x.now.value.n, .string x.now.value.s] 51)).heap[w.heap.size]? = some (Obj.cells #[.slice a_code x.code.length c_code, .int .i64 x.every, .slice a_marks x.marks.length c_marks, .slice a_now_heap_tables x.now.heap.tables.length c_now_heap_tables, .slice a_now_heap_cells x.now.heap.cells.length c_now_heap_cells, .slice a_now_funs x.now.funs.length c_now_funs, .slice a_now_frames x.now.frames.length c_now_frames, .slice a_now_out x.now.out.length c_now_out, .int .i64 x.now.steps, .int .i64 x.now.kind, .int .i64 x.now.value.k, .int .i64 x.now.value.n, .string x.now.value.s] 51) := heap_alloc_new _ _
  have O0 : Outs S w (w.alloc (Obj.cells #[.slice a_code x.code.length c_code, .int .i64 x.every, .slice a_marks x.marks.length c_marks, .slice a_now_heap_tables x.now.heap.tables.length c_now_heap_tables, .slice a_now_heap_cells x.now.heap.cells.length c_now_heap_cells, .slice a_now_funs x.now.funs.length c_now_funs, .slice a_now_frames x.now.frames.length c_now_frames, .slice a_now_out x.now.out.length c_now_out, .int .i64 x.now.steps, .int .i64 x.now.kind, .int .i64 x.now.value.k, .int .i64 x.now.value.n, .string x.now.value.s] 51)) := (Outs.refl S w).alloc _
  have s0 : (w.alloc (Obj.cells #[.slice a_code x.code.length c_code, .int .i64 x.every, .slice a_marks x.marks.length c_marks, .slice a_now_heap_tables x.now.heap.tables.length c_now_heap_tables, .slice a_now_heap_cells x.now.heap.cells.length c_now_heap_cells, .slice a_now_funs x.now.funs.length c_now_funs, .slice a_now_frames x.now.frames.length c_now_frames, .slice a_now_out x.now.out.length c_now_out, .int .i64 x.now.steps, .int .i64 x.now.kind, .int .i64 x.now.value.k, .int .i64 x.now.value.n, .string x.now.value.s] 51)).heap.size = w.heap.size + 1 := by simp
  have r_code := r_code.later ProtoOwn_keeps (w' := w.alloc (Obj.cells #[.slice a_code x.code.length c_code, .int .i64 x.every, .slice a_marks x.marks.length c_marks, .slice a_now_heap_tables x.now.heap.tables.length c_now_heap_tables, .slice a_now_heap_cells x.now.heap.cells.length c_now_heap_cells, .slice a_now_funs x.now.funs.length c_now_funs, .slice a_now_frames x.now.frames.length c_now_frames, .slice a_now_out x.now.out.length c_now_out, .int .i64 x.now.steps, .int .i64 x.now.kind, .int .i64 x.now.value.k, .int .i64 x.now.value.n, .string x.now.value.s] 51)) (fun _ h => h) (fun b hb => Below.heap_alloc _ _ _ (hS b (pv.within 0 b hb)))
  have r_marks := r_marks.later VmOwn_keeps (w' := w.alloc (Obj.cells #[.slice a_code x.code.length c_code, .int .i64 x.every, .slice a_marks x.marks.length c_marks, .slice a_now_heap_tables x.now.heap.tables.length c_now_heap_tables, .slice a_now_heap_cells x.now.heap.cells.length c_now_heap_cells, .slice a_now_funs x.now.funs.length c_now_funs, .slice a_now_frames x.now.frames.length c_now_frames, .slice a_now_out x.now.out.length c_now_out, .int .i64 x.now.steps, .int .i64 x.now.kind, .int .i64 x.now.value.k, .int .i64 x.now.value.n, .string x.now.value.s] 51)) (fun _ h => h) (fun b hb => Below.heap_alloc _ _ _ (hS b (pv.within 1 b hb)))
  have r_now := VmOwn_keeps _ (w.alloc (Obj.cells #[.slice a_code x.code.length c_code, .int .i64 x.every, .slice a_marks x.marks.length c_marks, .slice a_now_heap_tables x.now.heap.tables.length c_now_heap_tables, .slice a_now_heap_cells x.now.heap.cells.length c_now_heap_cells, .slice a_now_funs x.now.funs.length c_now_funs, .slice a_now_frames x.now.frames.length c_now_frames, .slice a_now_out x.now.out.length c_now_out, .int .i64 x.now.steps, .int .i64 x.now.kind, .int .i64 x.now.value.k, .int .i64 x.now.value.n, .string x.now.value.s] 51)) _ _ _ _ (fun _ h => h) (fun b hb => Below.heap_alloc _ _ _ (hS b (pv.within 2 b hb))) r_now
  clear hS
  go_enter Try.func19, Try.ntmps19
  go_wp2_with fail
  obtain ⟨W0, hW0⟩ : ∃ W0, W0 = w.alloc (Obj.cells #[.slice a_code x.code.length c_code, .int .i64 x.every, .slice a_marks x.marks.length c_marks, .slice a_now_heap_tables x.now.heap.tables.length c_now_heap_tables, .slice a_now_heap_cells x.now.heap.cells.length c_now_heap_cells, .slice a_now_funs x.now.funs.length c_now_funs, .slice a_now_frames x.now.frames.length c_now_frames, .slice a_now_out x.now.out.length c_now_out, .int .i64 x.now.steps, .int .i64 x.now.kind, .int .i64 x.now.value.k, .int .i64 x.now.value.n, .string x.now.value.s] 51) := ⟨_, rfl⟩
  rw [← hW0] at R0 O0 s0 ⊢ r_code r_marks r_now
  clear hW0
  have e0 := cell_of_row _ _ 0 _ _ _ R0
  have e1 := cell_of_row _ _ 1 _ _ _ R0
  have e2 := cell_of_row _ _ 2 _ _ _ R0
  have e3 := cell_of_row _ _ 3 _ _ _ R0
  have e4 := cell_of_row _ _ 4 _ _ _ R0
  have e5 := cell_of_row _ _ 5 _ _ _ R0
  have e6 := cell_of_row _ _ 6 _ _ _ R0
  have e7 := cell_of_row _ _ 7 _ _ _ R0
  have e8 := cell_of_row _ _ 8 _ _ _ R0
  have e9 := cell_of_row _ _ 9 _ _ _ R0
  have e10 := cell_of_row _ _ 10 _ _ _ R0
  have e11 := cell_of_row _ _ 11 _ _ _ R0
  have e12 := cell_of_row _ _ 12 _ _ _ R0
  simp only [List.getElem?_toArray, List.getElem?_cons_zero, List.getElem?_cons_succ] at e0 e1 e2 e3 e4 e5 e6 e7 e8 e9 e10 e11 e12
  go_wp2_with fail
  refine (mkProtoS_any x.code a_code c_code (K) _ _ _ (fun b hb => by have := HS.out b (pv.within 0 b hb); omega) r_code (by push_cast; omega) (by omega) (by omega) l_code).mono ?_
  rintro e w1 ⟨rfl, rN, oN⟩
  have R1 := (oN.block w.heap.size (by omega) (fun h => hSw (pv.within 0 _ h))).trans R0
  have O1 := O0.trans (oN.wide (pv.within 0))
  have s1 := oN.size
  have r_marks := r_marks.later VmOwn_keeps (fun _ h => h) (fun b hb => oN.block b (by have := HS.out b (pv.within 1 b hb); omega) (fun hc => by have := pv.apart 1 0 b hb hc; omega))
  have r_now := VmOwn_keeps _ w1 _ _ _ _ (fun _ h => h) (fun b hb => oN.block b (by have := HS.out b (pv.within 2 b hb); omega) (fun hc => by have := pv.apart 2 0 b hb hc; omega)) r_now
  have r_code := rN
  clear rN oN e0 e1 e2 e3 e4 e5 e6 e7 e8 e9 e10 e11 e12
  have e0 := cell_of_row _ _ 0 _ _ _ R1
  have e1 := cell_of_row _ _ 1 _ _ _ R1
  have e2 := cell_of_row _ _ 2 _ _ _ R1
  have e3 := cell_of_row _ _ 3 _ _ _ R1
  have e4 := cell_of_row _ _ 4 _ _ _ R1
  have e5 := cell_of_row _ _ 5 _ _ _ R1
  have e6 := cell_of_row _ _ 6 _ _ _ R1
  have e7 := cell_of_row _ _ 7 _ _ _ R1
  have e8 := cell_of_row _ _ 8 _ _ _ R1
  have e9 := cell_of_row _ _ 9 _ _ _ R1
  have e10 := cell_of_row _ _ 10 _ _ _ R1
  have e11 := cell_of_row _ _ 11 _ _ _ R1
  have e12 := cell_of_row _ _ 12 _ _ _ R1
  simp only [List.getElem?_toArray, List.getElem?_cons_zero, List.getElem?_cons_succ] at e0 e1 e2 e3 e4 e5 e6 e7 e8 e9 e10 e11 e12
  go_wp2_with fail
  refine (mkVmS_any x.marks a_marks c_marks (K + mnR Protomn x.code) _ _ _ (fun b hb => by have := HS.out b (pv.within 1 b hb); omega) r_marks (by push_cast; omega) (by omega) (by omega) l_marks).mono ?_
  rintro e w2 ⟨rfl, rN, oN⟩
  have R2 := (oN.block w.heap.size (by omega) (fun h => hSw (pv.within 1 _ h))).trans R1
  have O2 := O1.trans (oN.wide (pv.within 1))
  have s2 := oN.size
  have r_code := r_code.later ProtoOwn_keeps (fun _ h => h) (fun b hb => oN.block b (by have := HS.out b (pv.within 0 b hb); omega) (fun hc => by have := pv.apart 0 1 b hb hc; omega))
  have r_now := VmOwn_keeps _ w2 _ _ _ _ (fun _ h => h) (fun b hb => oN.block b (by have := HS.out b (pv.within 2 b hb); omega) (fun hc => by have := pv.apart 2 1 b hb hc; omega)) r_now
  have r_marks := rN
  clear rN oN e0 e1 e2 e3 e4 e5 e6 e7 e8 e9 e10 e11 e12
  have e0 := cell_of_row _ _ 0 _ _ _ R2
  have e1 := cell_of_row _ _ 1 _ _ _ R2
  have e2 := cell_of_row _ _ 2 _ _ _ R2
  have e3 := cell_of_row _ _ 3 _ _ _ R2
  have e4 := cell_of_row _ _ 4 _ _ _ R2
  have e5 := cell_of_row _ _ 5 _ _ _ R2
  have e6 := cell_of_row _ _ 6 _ _ _ R2
  have e7 := cell_of_row _ _ 7 _ _ _ R2
  have e8 := cell_of_row _ _ 8 _ _ _ R2
  have e9 := cell_of_row _ _ 9 _ _ _ R2
  have e10 := cell_of_row _ _ 10 _ _ _ R2
  have e11 := cell_of_row _ _ 11 _ _ _ R2
  have e12 := cell_of_row _ _ 12 _ _ _ R2
  simp only [List.getElem?_toArray, List.getElem?_cons_zero, List.getElem?_cons_succ] at e0 e1 e2 e3 e4 e5 e6 e7 e8 e9 e10 e11 e12
  go_wp2_with fail
  refine (mkVm_any x.now _ (K + mnR Protomn x.code + mnR Vmmn x.marks) _ _ _ (fun b hb => by have := HS.out b (pv.within 2 b hb); omega) r_now (by push_cast; omega) (by omega) (by omega)).mono ?_
  rintro e w3 ⟨rfl, rN, oN⟩
  have R3 := (oN.block w.heap.size (by omega) (fun h => hSw (pv.within 2 _ h))).trans R2
  have O3 := O2.trans (oN.wide (pv.within 2))
  have s3 := oN.size
  have r_code := r_code.later ProtoOwn_keeps (fun _ h => h) (fun b hb => oN.block b (by have := HS.out b (pv.within 0 b hb); omega) (fun hc => by have := pv.apart 0 2 b hb hc; omega))
  have r_marks := r_marks.later VmOwn_keeps (fun _ h => h) (fun b hb => oN.block b (by have := HS.out b (pv.within 1 b hb); omega) (fun hc => by have := pv.apart 1 2 b hb hc; omega))
  have r_now := rN
  clear rN oN e0 e1 e2 e3 e4 e5 e6 e7 e8 e9 e10 e11 e12
  go_wp2_with fail
  go_ret
  exact ⟨ret_int (by push_cast; omega), Trailtd_own x ok K a_code c_code a_marks c_marks a_now_heap_tables c_now_heap_tables a_now_heap_cells c_now_heap_cells a_now_funs c_now_funs a_now_frames c_now_frames a_now_out c_now_out V S _ pv l_code r_code l_marks r_marks r_now, O3⟩
end Go.Proofs.Ytgibejgemokljaa
