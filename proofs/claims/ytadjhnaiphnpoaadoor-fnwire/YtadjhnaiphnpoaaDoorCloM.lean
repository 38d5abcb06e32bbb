/- A text is cloned. -/
import Derived.Test.YtadjhnaiphnpoaaDoorKit
import Derived.Test.YtadjhnaiphnpoaaDoorShelf
namespace Go.Proofs.YtadjhnaiphnpoaaDoor
open Go.RowKit
set_option maxRecDepth 100000 in
theorem clone_any (s : ByteArray) (w : World) (hs : s.size ≤ 2097152) : Calls Tryd.prog 46 #[.string s] w fun e w' => e = .returned (.string s) ∧ Below w.heap.size w w' := by
  go_enter Tryd.func46, Tryd.ntmps46
  go_wp2_with fail
  refine (Tryd.stringslite_Clone s _ (by omega)).mono ?_
  rintro e w1 ⟨rfl, hb⟩
  go_wp2_with fail
  go_ret
  exact ⟨rfl, hb⟩
end Go.Proofs.YtadjhnaiphnpoaaDoor
