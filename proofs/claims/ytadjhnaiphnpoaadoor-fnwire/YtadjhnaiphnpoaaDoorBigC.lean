/- The law's test of a great argument. -/
import Derived.Test.YtadjhnaiphnpoaaDoorValU
namespace Go.Proofs.YtadjhnaiphnpoaaDoor
open Go.RowKit

theorem big_yes (a : Option Addr) (len cap : Nat) (w : World) (h : 1048576 < len) (h1 : len ≤ 9223372036854775807) : Calls Tryd.prog 26 #[.slice a len cap] w fun e w' => e = .returned (.bool true) ∧ w = w' := by
  go_enter Tryd.func26, Tryd.ntmps26
  go_wp2
  go_ret
  exact ⟨ret_bool (decide_eq_true (by omega)), rfl⟩
theorem big_no (a : Option Addr) (len cap : Nat) (w : World) (h : len ≤ 1048576) : Calls Tryd.prog 26 #[.slice a len cap] w fun e w' => e = .returned (.bool false) ∧ w = w' := by
  go_enter Tryd.func26, Tryd.ntmps26
  go_wp2
  go_ret
  exact ⟨ret_bool (decide_eq_false (by omega)), rfl⟩
end Go.Proofs.YtadjhnaiphnpoaaDoor
