/- The specification's question for a digit. -/
import Derived.Test.YtadjhnaiphnpoaaDoorRcP
import Derived.Test.YtadjhnaiphnpoaaDoorInW
namespace Go.Proofs.YtadjhnaiphnpoaaDoor
open Go.RowKit Go.Lib

set_option maxRecDepth 100000 in
theorem dg_spec (b : UInt8) (w : World) :
    Calls Tryd.prog 37 #[.int .u8 b.toNat] w fun e w' => e = .returned (.bool (isDg b)) ∧ w = w' := by
  have hb := b.toNat_lt
  by_cases h : 48 ≤ b.toNat ∧ b.toNat ≤ 57
  · have HD : Hid (isDg b = true) := by show _ = _; unfold isDg digitVal; rw [if_pos h]; rfl
    go_enter Tryd.func37, Tryd.ntmps37
    go_wp2_with fail
    refine (in_yes b.toNat 48 57 _ (by omega)).mono ?_
    rintro e w1 ⟨rfl, rfl⟩
    go_wp2_with fail
    go_ret
    exact ⟨by rw [HD.out]; rfl, rfl⟩
  · have HD : Hid (isDg b = false) := by show _ = _; unfold isDg digitVal; rw [if_neg h]; rfl
    have h' : b.toNat < 48 ∨ 57 < b.toNat := by omega
    clear h
    go_enter Tryd.func37, Tryd.ntmps37
    go_wp2_with fail
    refine (in_no b.toNat 48 57 _ (by omega)).mono ?_
    rintro e w1 ⟨rfl, rfl⟩
    go_wp2_with fail
    go_ret
    exact ⟨by rw [HD.out]; rfl, rfl⟩

theorem byte_at (s : ByteArray) (k : Nat) (h : k < s.size) : s.data.toList[k]? = some s[k] := by
  rw [Array.getElem?_toList, Array.getElem?_eq_getElem h]; rfl
end Go.Proofs.YtadjhnaiphnpoaaDoor
