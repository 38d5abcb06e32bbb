/- Whether a number lies between two: the program. -/
import Derived.Test.YtnbkgpmibgdlmaaInR
namespace Go.Proofs.Ytnbkgpmibgdlmaa
open Go.RowKit

set_option maxRecDepth 100000 in
set_option maxHeartbeats 800000 in
theorem in_impl (x a b : Int) (w : World) : Calls Try.prog 95 #[.int .i64 x, .int .i64 a, .int .i64 b] w fun e w' => e = .returned (.bool (inR x a b)) ∧ w = w' := by
  by_cases h1 : a ≤ x
  · go_enter Try.func95, Try.ntmps95
    go_wp2
    go_ret
    exact ⟨ret_bool (by simp [inR, h1]), rfl⟩
  · go_enter Try.func95, Try.ntmps95
    go_wp2
    go_ret
    exact ⟨ret_bool (by unfold inR; exact (decide_eq_false (by omega)).symm), rfl⟩
end Go.Proofs.Ytnbkgpmibgdlmaa
