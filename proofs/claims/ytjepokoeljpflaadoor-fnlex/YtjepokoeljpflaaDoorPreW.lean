/- Whether a text begins with another: as the library answers. -/
import Derived.Test.YtjepokoeljpflaaDoorInW
import Derived.Test.YtjepokoeljpflaaDoorGlyphP
import Derived.Laws.RangeAny
namespace Go.Proofs.YtjepokoeljpflaaDoor
open Go.RowKit

set_option maxHeartbeats 800000 in
theorem pre_any (s p : ByteArray) (w : World) :
    Calls Tryd.prog 33 #[.string s, .string p] w fun e w' => e = .returned (.bool (preB s p)) ∧ w = w' := by
  by_cases h : p.size ≤ s.size
  · have e : Hid (preB s p = ((s.extract 0 p.size).toList == p.toList)) := by show preB s p = _; simp [preB, h]
    go_enter Tryd.func33, Tryd.ntmps33
    go_wp2
    go_ret
    exact ⟨ret_bool e.out.symm, rfl⟩
  · have e : Hid (preB s p = false) := by show preB s p = _; simp [preB, h]
    go_enter Tryd.func33, Tryd.ntmps33
    go_wp2
    go_ret
    exact ⟨ret_bool e.out.symm, rfl⟩

end Go.Proofs.YtjepokoeljpflaaDoor
