/- Whether a number is within two: yes, and no. -/
import Derived.Test.YtadjhnaiphnpoaaDoorKit

import Derived.BigQuiet
import Derived.Deep.QuietTactic
namespace Go.Proofs.YtadjhnaiphnpoaaDoor
open Go.RowKit

set_option maxRecDepth 100000 in
theorem in_yes (x a b : Int) (w : World) (h : a ≤ x ∧ x ≤ b) : Calls Tryd.prog 44 #[.int .i64 x, .int .i64 a, .int .i64 b] w fun e w' => e = .returned (.bool true) ∧ w = w' := by
  obtain ⟨h1, h2⟩ := h
  go_enter Tryd.func44, Tryd.ntmps44
  go_wp2
  go_ret
  exact ⟨rfl, rfl⟩
set_option maxRecDepth 100000 in
theorem in_no (x a b : Int) (w : World) (h : x < a ∨ b < x) : Calls Tryd.prog 44 #[.int .i64 x, .int .i64 a, .int .i64 b] w fun e w' => e = .returned (.bool false) ∧ w = w' := by
  by_cases h1 : x < a
  · clear h
    go_enter Tryd.func44, Tryd.ntmps44
    go_wp2
    go_ret
    exact ⟨rfl, rfl⟩
  · have h2 : b < x := by omega
    have h1' : a ≤ x := by omega
    clear h h1
    go_enter Tryd.func44, Tryd.ntmps44
    go_wp2
    go_ret
    exact ⟨ret_bool (decide_eq_false (by omega)), rfl⟩

end Go.Proofs.YtadjhnaiphnpoaaDoor
