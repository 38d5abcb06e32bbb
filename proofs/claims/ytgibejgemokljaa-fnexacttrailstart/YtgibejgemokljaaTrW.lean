/- Trails of one's own. -/
import Derived.Test.YtgibejgemokljaaOwP
import Derived.Test.YtgibejgemokljaaTrP
namespace Go.Proofs.Ytgibejgemokljaa
open Go.RowKit

def TrailOwn (w : World) (S : Nat → Prop) (x : TrailD) (cs : List Value) : Prop :=
  x.Ok ∧ ∃ V, Parts V S ∧ ∃ a_code c_code a_marks c_marks a_now_heap_tables c_now_heap_tables a_now_heap_cells c_now_heap_cells a_now_funs c_now_funs a_now_frames c_now_frames a_now_out c_now_out, cs = [.slice a_code x.code.length c_code, .int .i64 x.every, .slice a_marks x.marks.length c_marks, .slice a_now_heap_tables x.now.heap.tables.length c_now_heap_tables, .slice a_now_heap_cells x.now.heap.cells.length c_now_heap_cells, .slice a_now_funs x.now.funs.length c_now_funs, .slice a_now_frames x.now.frames.length c_now_frames, .slice a_now_out x.now.out.length c_now_out, .int .i64 x.now.steps, .int .i64 x.now.kind, .int .i64 x.now.value.k, .int .i64 x.now.value.n, .string x.now.value.s] ∧ x.code.length ≤ maxLen ∧ RowD 5 ProtoOwn w (V 0) x.code a_code ∧ x.marks.length ≤ maxLen ∧ RowD 10 VmOwn w (V 1) x.marks a_marks ∧ VmOwn w (V 2) x.now [.slice a_now_heap_tables x.now.heap.tables.length c_now_heap_tables, .slice a_now_heap_cells x.now.heap.cells.length c_now_heap_cells, .slice a_now_funs x.now.funs.length c_now_funs, .slice a_now_frames x.now.frames.length c_now_frames, .slice a_now_out x.now.out.length c_now_out, .int .i64 x.now.steps, .int .i64 x.now.kind, .int .i64 x.now.value.k, .int .i64 x.now.value.n, .string x.now.value.s]
theorem TrailOwn_keeps : KeepsD TrailOwn := by
  intro w w' S S' x l hs hc h
  obtain ⟨ok, V, pv, a_code, c_code, a_marks, c_marks, a_now_heap_tables, c_now_heap_tables, a_now_heap_cells, c_now_heap_cells, a_now_funs, c_now_funs, a_now_frames, c_now_frames, a_now_out, c_now_out, rfl, l_code, r_code, l_marks, r_marks, r_now⟩ := h
  exact ⟨ok, V, pv.wide hs, a_code, c_code, a_marks, c_marks, a_now_heap_tables, c_now_heap_tables, a_now_heap_cells, c_now_heap_cells, a_now_funs, c_now_funs, a_now_frames, c_now_frames, a_now_out, c_now_out, rfl, l_code, r_code.later ProtoOwn_keeps (fun _ h => h) (fun b hb => hc b (pv.within 0 b hb)), l_marks, r_marks.later VmOwn_keeps (fun _ h => h) (fun b hb => hc b (pv.within 1 b hb)), VmOwn_keeps _ _ _ _ _ _ (fun _ h => h) (fun b hb => hc b (pv.within 2 b hb)) r_now⟩
theorem TrailOwn_lies : Lies TrailOwn TrailC := by
  intro w S lo hi x l hS h
  obtain ⟨ok, V, pv, a_code, c_code, a_marks, c_marks, a_now_heap_tables, c_now_heap_tables, a_now_heap_cells, c_now_heap_cells, a_now_funs, c_now_funs, a_now_frames, c_now_frames, a_now_out, c_now_out, rfl, l_code, r_code, l_marks, r_marks, r_now⟩ := h
  have z_now := VmOwn_lies _ _ lo hi _ _ (fun b hb => hS b (pv.within 2 b hb)) r_now
  obtain ⟨_, m_a_now_heap_tables, m_c_now_heap_tables, m_a_now_heap_cells, m_c_now_heap_cells, m_a_now_funs, m_c_now_funs, m_a_now_frames, m_c_now_frames, m_a_now_out, m_c_now_out, e_now, m_l_now_heap_tables, m_r_now_heap_tables, m_l_now_heap_cells, m_r_now_heap_cells, m_l_now_funs, m_r_now_funs, m_l_now_frames, m_r_now_frames, m_l_now_out, m_r_now_out⟩ := z_now
  simp only [List.cons.injEq, Value.slice.injEq, and_true, true_and] at e_now
  obtain ⟨⟨rfl, rfl⟩, ⟨rfl, rfl⟩, ⟨rfl, rfl⟩, ⟨rfl, rfl⟩, ⟨rfl, rfl⟩⟩ := e_now
  exact ⟨ok, a_code, c_code, a_marks, c_marks, a_now_heap_tables, c_now_heap_tables, a_now_heap_cells, c_now_heap_cells, a_now_funs, c_now_funs, a_now_frames, c_now_frames, a_now_out, c_now_out, rfl, l_code, r_code.lies ProtoOwn_lies (fun b hb => hS b (pv.within 0 b hb)), l_marks, r_marks.lies VmOwn_lies (fun b hb => hS b (pv.within 1 b hb)), m_l_now_heap_tables, m_r_now_heap_tables, m_l_now_heap_cells, m_r_now_heap_cells, m_l_now_funs, m_r_now_funs, m_l_now_frames, m_r_now_frames, m_l_now_out, m_r_now_out⟩
end Go.Proofs.Ytgibejgemokljaa
