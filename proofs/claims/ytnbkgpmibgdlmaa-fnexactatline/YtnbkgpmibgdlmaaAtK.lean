/- The line that a machine is at: the program, on. -/
import Derived.Test.YtnbkgpmibgdlmaaAtJ
namespace Go.Proofs.Ytnbkgpmibgdlmaa
open Go.RowKit

set_option maxRecDepth 100000 in
set_option maxHeartbeats 1600000 in
theorem at_impl (ps : List ProtoD) (a : Option Addr) (ca lo hi : Nat) (x : VmD) (cs : List Value) (w : World) (hh : hi ≤ w.heap.size) (hn : ps.length ≤ maxLen) (hS : RowAt 5 ProtoC w lo hi ps a) (hC : VmC w lo hi x cs) :
    Calls Try.prog 26 #[.slice a ps.length ca, .agg cs.toArray] w fun e w' => e = .returned (.int .i64 (atV ps x)) ∧ Below w.heap.size w w' := by
  have hC' := hC
  obtain ⟨ok, a_heap_tables, c_heap_tables, a_heap_cells, c_heap_cells, a_funs, c_funs, a_frames, c_frames, a_out, c_out, rfl, l_heap_tables, r_heap_tables, l_heap_cells, r_heap_cells, l_funs, r_funs, l_frames, r_frames, l_out, r_out⟩ := hC'
  have B1 := bel_alloc w (Obj.cells #[.slice a_heap_tables x.heap.tables.length c_heap_tables, .slice a_heap_cells x.heap.cells.length c_heap_cells, .slice a_funs x.funs.length c_funs, .slice a_frames x.frames.length c_frames, .slice a_out x.out.length c_out, .int .i64 x.steps, .int .i64 x.kind, .int .i64 x.value.k, .int .i64 x.value.n, .string x.value.s] 48)
  go_enter Try.func26, Try.ntmps26
  go_wp2_with fail
  refine (atl_impl ps a ca lo hi x _ _ (by simp; omega) hn (hS.below ProtoC_keeps B1 hh) (VmC_keeps.below hC B1 hh)).mono ?_
  rintro e w2 ⟨⟨b, rfl⟩, hb2⟩
  have B2 := boxed hb2
  have hz2 := B2.size
  go_wp2_with fail
  go_ret
  exact ⟨ret_int rfl, by repeat (first | (with_reducible exact B2) | (with_reducible exact Below.refl _ _) | (with_reducible refine below_drewN ?_) | (with_reducible refine Below.drew ?_) | (with_reducible refine Below.setCell ?_ (by first | omega | (simp <;> omega)) _) | (with_reducible refine Below.alloc ?_ (by first | omega | (simp <;> omega)) _))⟩
end Go.Proofs.Ytnbkgpmibgdlmaa
