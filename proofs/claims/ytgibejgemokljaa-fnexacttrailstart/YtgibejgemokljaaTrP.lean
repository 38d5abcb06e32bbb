/- Trails, told plainly, and how they lie in memory. -/
import Derived.Test.YtgibejgemokljaaVmP
namespace Go.Proofs.Ytgibejgemokljaa
open Go.RowKit

structure TrailD where
  code : List ProtoD
  every : Int
  marks : List VmD
  now : VmD
structure TrailD.Ok (x : TrailD) : Prop where
  code : x.code.length ≤ maxLen
  every : IntOk x.every
  marks : x.marks.length ≤ maxLen
  now : x.now.Ok
def TrailD.wt (x : TrailD) : Nat := wtR ProtoD.wt x.code + wtR VmD.wt x.marks + x.now.wt
def TrailC (w : World) (lo hi : Nat) (x : TrailD) (cs : List Value) : Prop :=
  x.Ok ∧ ∃ a_code c_code a_marks c_marks a_now_heap_tables c_now_heap_tables a_now_heap_cells c_now_heap_cells a_now_funs c_now_funs a_now_frames c_now_frames a_now_out c_now_out, cs = [.slice a_code x.code.length c_code, .int .i64 x.every, .slice a_marks x.marks.length c_marks, .slice a_now_heap_tables x.now.heap.tables.length c_now_heap_tables, .slice a_now_heap_cells x.now.heap.cells.length c_now_heap_cells, .slice a_now_funs x.now.funs.length c_now_funs, .slice a_now_frames x.now.frames.length c_now_frames, .slice a_now_out x.now.out.length c_now_out, .int .i64 x.now.steps, .int .i64 x.now.kind, .int .i64 x.now.value.k, .int .i64 x.now.value.n, .string x.now.value.s] ∧ x.code.length ≤ maxLen ∧ RowAt 5 ProtoC w lo hi x.code a_code ∧ x.marks.length ≤ maxLen ∧ RowAt 10 VmC w lo hi x.marks a_marks ∧ x.now.heap.tables.length ≤ maxLen ∧ RowAt 1 PairSC w lo hi x.now.heap.tables a_now_heap_tables ∧ x.now.heap.cells.length ≤ maxLen ∧ RowAt 3 ValC w lo hi x.now.heap.cells a_now_heap_cells ∧ x.now.funs.length ≤ maxLen ∧ RowAt 2 ClosureC w lo hi x.now.funs a_now_funs ∧ x.now.frames.length ≤ maxLen ∧ RowAt 6 FrameC w lo hi x.now.frames a_now_frames ∧ x.now.out.length ≤ maxLen ∧ RowAt 1 StrC w lo hi x.now.out a_now_out
theorem TrailC_keeps : Keeps TrailC := by
  intro w w' lo hi lo' hi' x cs hl hh hc h
  obtain ⟨ok, a_code, c_code, a_marks, c_marks, a_now_heap_tables, c_now_heap_tables, a_now_heap_cells, c_now_heap_cells, a_now_funs, c_now_funs, a_now_frames, c_now_frames, a_now_out, c_now_out, rfl, l_code, r_code, l_marks, r_marks, l_now_heap_tables, r_now_heap_tables, l_now_heap_cells, r_now_heap_cells, l_now_funs, r_now_funs, l_now_frames, r_now_frames, l_now_out, r_now_out⟩ := h
  exact ⟨ok, a_code, c_code, a_marks, c_marks, a_now_heap_tables, c_now_heap_tables, a_now_heap_cells, c_now_heap_cells, a_now_funs, c_now_funs, a_now_frames, c_now_frames, a_now_out, c_now_out, rfl, l_code, r_code.later ProtoC_keeps hl hh hc, l_marks, r_marks.later VmC_keeps hl hh hc, l_now_heap_tables, r_now_heap_tables.later PairSC_keeps hl hh hc, l_now_heap_cells, r_now_heap_cells.later ValC_keeps hl hh hc, l_now_funs, r_now_funs.later ClosureC_keeps hl hh hc, l_now_frames, r_now_frames.later FrameC_keeps hl hh hc, l_now_out, r_now_out.later StrC_keeps hl hh hc⟩
end Go.Proofs.Ytgibejgemokljaa
