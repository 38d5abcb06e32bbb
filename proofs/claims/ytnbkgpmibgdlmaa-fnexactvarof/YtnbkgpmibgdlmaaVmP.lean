/- Machines, told plainly, and how they lie in memory. -/
import Derived.Test.YtnbkgpmibgdlmaaDatQ
namespace Go.Proofs.Ytnbkgpmibgdlmaa
open Go.RowKit

theorem sr10_old (cs : Array Value) (i : Nat) (v0 v1 v2 v3 v4 v5 v6 v7 v8 v9 : Value) (m : Nat) (h : m < 10 * i) : ((((((((((cs.setIfInBounds (10 * i) v0).setIfInBounds (10 * i + 1) v1).setIfInBounds (10 * i + 2) v2).setIfInBounds (10 * i + 3) v3).setIfInBounds (10 * i + 4) v4).setIfInBounds (10 * i + 5) v5).setIfInBounds (10 * i + 6) v6).setIfInBounds (10 * i + 7) v7).setIfInBounds (10 * i + 8) v8).setIfInBounds (10 * i + 9) v9)[m]? = cs[m]? := by
  simp only [Array.getElem?_setIfInBounds]
  rw [if_neg (by omega), if_neg (by omega), if_neg (by omega), if_neg (by omega), if_neg (by omega), if_neg (by omega), if_neg (by omega), if_neg (by omega), if_neg (by omega), if_neg (by omega)]
theorem sr10_new (cs : Array Value) (i : Nat) (v0 v1 v2 v3 v4 v5 v6 v7 v8 v9 : Value) (j : Nat) (h : j < 10) (hs : 10 * i + 10 ≤ cs.size) : ((((((((((cs.setIfInBounds (10 * i) v0).setIfInBounds (10 * i + 1) v1).setIfInBounds (10 * i + 2) v2).setIfInBounds (10 * i + 3) v3).setIfInBounds (10 * i + 4) v4).setIfInBounds (10 * i + 5) v5).setIfInBounds (10 * i + 6) v6).setIfInBounds (10 * i + 7) v7).setIfInBounds (10 * i + 8) v8).setIfInBounds (10 * i + 9) v9)[10 * i + j]? = [v0, v1, v2, v3, v4, v5, v6, v7, v8, v9][j]? := by
  simp only [Array.getElem?_setIfInBounds, Array.size_setIfInBounds]
  match j, h with
  | 0, _ => simp; omega
  | 1, _ => simp; omega
  | 2, _ => simp; omega
  | 3, _ => simp; omega
  | 4, _ => simp; omega
  | 5, _ => simp; omega
  | 6, _ => simp; omega
  | 7, _ => simp; omega
  | 8, _ => simp; omega
  | 9, _ => simp; omega
structure ClosureD where
  proto : Int
  ups : List Int
structure ClosureD.Ok (x : ClosureD) : Prop where
  proto : IntOk x.proto
  ups : x.ups.length ≤ maxLen
def ClosureD.wt (x : ClosureD) : Nat := x.ups.length
def ClosureC (w : World) (lo hi : Nat) (x : ClosureD) (cs : List Value) : Prop :=
  x.Ok ∧ ∃ a_ups c_ups, cs = [.int .i64 x.proto, .slice a_ups x.ups.length c_ups] ∧ x.ups.length ≤ maxLen ∧ RowAt 1 IntC w lo hi x.ups a_ups
theorem ClosureC_keeps : Keeps ClosureC := by
  intro w w' lo hi lo' hi' x cs hl hh hc h
  obtain ⟨ok, a_ups, c_ups, rfl, l_ups, r_ups⟩ := h
  exact ⟨ok, a_ups, c_ups, rfl, l_ups, r_ups.later IntC_keeps hl hh hc⟩
structure FrameD where
  proto : Int
  pc : Int
  slots : List Int
  ups : List Int
  stack : List Vl
  guard : Bool
structure FrameD.Ok (x : FrameD) : Prop where
  proto : IntOk x.proto
  pc : IntOk x.pc
  slots : x.slots.length ≤ maxLen
  ups : x.ups.length ≤ maxLen
  stack : x.stack.length ≤ maxLen
  guard : True
def FrameD.wt (x : FrameD) : Nat := x.slots.length + x.ups.length + wtR Vl.wt x.stack
def FrameC (w : World) (lo hi : Nat) (x : FrameD) (cs : List Value) : Prop :=
  x.Ok ∧ ∃ a_slots c_slots a_ups c_ups a_stack c_stack, cs = [.int .i64 x.proto, .int .i64 x.pc, .slice a_slots x.slots.length c_slots, .slice a_ups x.ups.length c_ups, .slice a_stack x.stack.length c_stack, .bool x.guard] ∧ x.slots.length ≤ maxLen ∧ RowAt 1 IntC w lo hi x.slots a_slots ∧ x.ups.length ≤ maxLen ∧ RowAt 1 IntC w lo hi x.ups a_ups ∧ x.stack.length ≤ maxLen ∧ RowAt 3 ValC w lo hi x.stack a_stack
theorem FrameC_keeps : Keeps FrameC := by
  intro w w' lo hi lo' hi' x cs hl hh hc h
  obtain ⟨ok, a_slots, c_slots, a_ups, c_ups, a_stack, c_stack, rfl, l_slots, r_slots, l_ups, r_ups, l_stack, r_stack⟩ := h
  exact ⟨ok, a_slots, c_slots, a_ups, c_ups, a_stack, c_stack, rfl, l_slots, r_slots.later IntC_keeps hl hh hc, l_ups, r_ups.later IntC_keeps hl hh hc, l_stack, r_stack.later ValC_keeps hl hh hc⟩
structure PairD where
  key : Vl
  val : Vl
structure PairD.Ok (x : PairD) : Prop where
  key : x.key.Ok
  val : x.val.Ok
def PairD.wt (x : PairD) : Nat := x.key.s.size + x.val.s.size
def PairC (_ : World) (_ _ : Nat) (x : PairD) (cs : List Value) : Prop := x.Ok ∧ cs = [.int .i64 x.key.k, .int .i64 x.key.n, .string x.key.s, .int .i64 x.val.k, .int .i64 x.val.n, .string x.val.s]
theorem PairC_keeps : Keeps PairC := fun _ _ _ _ _ _ _ _ _ _ _ h => h
def PairSC (w : World) (lo hi : Nat) (x : List PairD) (cs : List Value) : Prop :=
  x.length ≤ maxLen ∧ ∃ a_p c_p, cs = [.slice a_p x.length c_p] ∧ RowAt 6 PairC w lo hi x a_p
theorem PairSC_keeps : Keeps PairSC := by
  intro w w' lo hi lo' hi' x cs hl hh hc h
  obtain ⟨ok, a_p, c_p, rfl, r_p⟩ := h
  exact ⟨ok, a_p, c_p, rfl, r_p.later PairC_keeps hl hh hc⟩
structure HeapD where
  tables : List (List PairD)
  cells : List Vl
structure HeapD.Ok (x : HeapD) : Prop where
  tables : x.tables.length ≤ maxLen
  cells : x.cells.length ≤ maxLen
def HeapD.wt (x : HeapD) : Nat := wtR (wtR PairD.wt) x.tables + wtR Vl.wt x.cells
def HeapC (w : World) (lo hi : Nat) (x : HeapD) (cs : List Value) : Prop :=
  x.Ok ∧ ∃ a_tables c_tables a_cells c_cells, cs = [.slice a_tables x.tables.length c_tables, .slice a_cells x.cells.length c_cells] ∧ x.tables.length ≤ maxLen ∧ RowAt 1 PairSC w lo hi x.tables a_tables ∧ x.cells.length ≤ maxLen ∧ RowAt 3 ValC w lo hi x.cells a_cells
theorem HeapC_keeps : Keeps HeapC := by
  intro w w' lo hi lo' hi' x cs hl hh hc h
  obtain ⟨ok, a_tables, c_tables, a_cells, c_cells, rfl, l_tables, r_tables, l_cells, r_cells⟩ := h
  exact ⟨ok, a_tables, c_tables, a_cells, c_cells, rfl, l_tables, r_tables.later PairSC_keeps hl hh hc, l_cells, r_cells.later ValC_keeps hl hh hc⟩
structure VmD where
  heap : HeapD
  funs : List ClosureD
  frames : List FrameD
  out : List ByteArray
  steps : Int
  kind : Int
  value : Vl
structure VmD.Ok (x : VmD) : Prop where
  heap : x.heap.Ok
  funs : x.funs.length ≤ maxLen
  frames : x.frames.length ≤ maxLen
  out : x.out.length ≤ maxLen
  steps : IntOk x.steps
  kind : IntOk x.kind
  value : x.value.Ok
def VmD.wt (x : VmD) : Nat := x.heap.wt + wtR ClosureD.wt x.funs + wtR FrameD.wt x.frames + wtR ByteArray.size x.out + x.value.s.size
def VmC (w : World) (lo hi : Nat) (x : VmD) (cs : List Value) : Prop :=
  x.Ok ∧ ∃ a_heap_tables c_heap_tables a_heap_cells c_heap_cells a_funs c_funs a_frames c_frames a_out c_out, cs = [.slice a_heap_tables x.heap.tables.length c_heap_tables, .slice a_heap_cells x.heap.cells.length c_heap_cells, .slice a_funs x.funs.length c_funs, .slice a_frames x.frames.length c_frames, .slice a_out x.out.length c_out, .int .i64 x.steps, .int .i64 x.kind, .int .i64 x.value.k, .int .i64 x.value.n, .string x.value.s] ∧ x.heap.tables.length ≤ maxLen ∧ RowAt 1 PairSC w lo hi x.heap.tables a_heap_tables ∧ x.heap.cells.length ≤ maxLen ∧ RowAt 3 ValC w lo hi x.heap.cells a_heap_cells ∧ x.funs.length ≤ maxLen ∧ RowAt 2 ClosureC w lo hi x.funs a_funs ∧ x.frames.length ≤ maxLen ∧ RowAt 6 FrameC w lo hi x.frames a_frames ∧ x.out.length ≤ maxLen ∧ RowAt 1 StrC w lo hi x.out a_out
theorem VmC_keeps : Keeps VmC := by
  intro w w' lo hi lo' hi' x cs hl hh hc h
  obtain ⟨ok, a_heap_tables, c_heap_tables, a_heap_cells, c_heap_cells, a_funs, c_funs, a_frames, c_frames, a_out, c_out, rfl, l_heap_tables, r_heap_tables, l_heap_cells, r_heap_cells, l_funs, r_funs, l_frames, r_frames, l_out, r_out⟩ := h
  exact ⟨ok, a_heap_tables, c_heap_tables, a_heap_cells, c_heap_cells, a_funs, c_funs, a_frames, c_frames, a_out, c_out, rfl, l_heap_tables, r_heap_tables.later PairSC_keeps hl hh hc, l_heap_cells, r_heap_cells.later ValC_keeps hl hh hc, l_funs, r_funs.later ClosureC_keeps hl hh hc, l_frames, r_frames.later FrameC_keeps hl hh hc, l_out, r_out.later StrC_keeps hl hh hc⟩
end Go.Proofs.Ytnbkgpmibgdlmaa
