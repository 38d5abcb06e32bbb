/- Whether a trail is at its end. -/
import Derived.Test.YtgibejgemokljaaTrP
import Derived.Test.YtgibejgemokljaaValR
namespace Go.Proofs.Ytgibejgemokljaa
open Go.RowKit

set_option maxRecDepth 100000 in
set_option maxHeartbeats 800000 in
theorem tend_spec (x : TrailD) (cs : List Value) (lo hi : Nat) (w : World) (hC : TrailC w lo hi x cs) :
    Calls Try.prog 22 #[.agg cs.toArray] w fun e w' => e = .returned (.bool (x.now.kind != 0)) ∧ Below w.heap.size w w' := by
  obtain ⟨ok, a_code, c_code, a_marks, c_marks, a_now_heap_tables, c_now_heap_tables, a_now_heap_cells, c_now_heap_cells, a_now_funs, c_now_funs, a_now_frames, c_now_frames, a_now_out, c_now_out, rfl, l_code, r_code, l_marks, r_marks, l_now_heap_tables, r_now_heap_tables, l_now_heap_cells, r_now_heap_cells, l_now_funs, r_now_funs, l_now_frames, r_now_frames, l_now_out, r_now_out⟩ := hC
  go_enter Try.func22, Try.ntmps22
  go_wp2_with fail
  go_ret
  exact ⟨rfl, bel_alloc _ _⟩
set_option maxRecDepth 100000 in
set_option maxHeartbeats 800000 in
theorem tend_impl (x : TrailD) (cs : List Value) (lo hi : Nat) (w : World) (hC : TrailC w lo hi x cs) :
    Calls Try.prog 24 #[.agg cs.toArray] w fun e w' => e = .returned (.bool (x.now.kind != 0)) ∧ Below w.heap.size w w' := by
  obtain ⟨ok, a_code, c_code, a_marks, c_marks, a_now_heap_tables, c_now_heap_tables, a_now_heap_cells, c_now_heap_cells, a_now_funs, c_now_funs, a_now_frames, c_now_frames, a_now_out, c_now_out, rfl, l_code, r_code, l_marks, r_marks, l_now_heap_tables, r_now_heap_tables, l_now_heap_cells, r_now_heap_cells, l_now_funs, r_now_funs, l_now_frames, r_now_frames, l_now_out, r_now_out⟩ := hC
  go_enter Try.func24, Try.ntmps24
  go_wp2_with fail
  go_ret
  exact ⟨rfl, bel_alloc _ _⟩
end Go.Proofs.Ytgibejgemokljaa
