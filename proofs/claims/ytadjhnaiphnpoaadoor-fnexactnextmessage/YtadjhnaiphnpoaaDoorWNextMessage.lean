/- The walk of FnExactNextMessage: it returns true. -/
import Derived.Test.YtadjhnaiphnpoaaDoorNiB
import Derived.Test.YtadjhnaiphnpoaaDoorNmS
import Derived.Test.YtadjhnaiphnpoaaDoorLibP
import Derived.Test.YtadjhnaiphnpoaaDoorRows
import Derived.LaidMore
import Derived.Stop.Joined
import Derived.MakeChecks
namespace Go.Proofs.YtadjhnaiphnpoaaDoor.fnExactNextMessage
open Go.ChangeShapes Go.WideShapes Go.ChangeAt Go.RowKit

def laidL : List (String × DataW Unit) := [("math/bits.deBruijn32tab", Rows.laid_math_bits_deBruijn32tab), ("math/bits.deBruijn64tab", Rows.laid_math_bits_deBruijn64tab), ("internal/strconv.uint64pow10", Rows.laid_internal_strconv_uint64pow10), ("unicode/utf8.acceptRanges", Rows.laid_unicode_utf8_acceptRanges), ("strconv.ErrRange", Rows.laid_strconv_ErrRange), ("strconv.ErrSyntax", Rows.laid_strconv_ErrSyntax), ("unicode/utf8.first", Rows.laid_unicode_utf8_first)]

theorem lib_of {W : World} (h : laidMetH Tryd.prog laidL W) : LibOk W := by
  rw [MakeChecks.laidMetH_plain _ _ _ (by kernel_rfl)] at h
  have h3 := h.tail.tail
  exact ⟨pow_of h3, syn_of h3.tail.tail.tail, rng_of h3.tail.tail⟩
theorem nextV_form (s : ByteArray) : ∃ b n k, nextV s = nmV b n k := by
  unfold nextV
  simp only []
  repeat' split
  all_goals exact ⟨_, _, _, rfl⟩
set_option maxRecDepth 100000 in
set_option maxHeartbeats 1600000 in
theorem walk (a0 : ByteArray) (w0 : a0.size ≤ maxLen) (w : World) (hL : laidMetH Tryd.prog laidL w) :
    Calls Tryd.prog 4 #[.string a0] w fun e w' => e = .returned (.bool true) ∧ Below w.heap.size w w' := by
  have H : Hid (LibOk w) := lib_of hL
  clear hL
  unfold maxLen at w0
  by_cases hbig : 1048576 < a0.size
  · have hb' : (1048576 : Int) < a0.size := by omega
    go_enter Tryd.func4, Tryd.ntmps4
    go_wp2_with fail
    go_ret
    exact ⟨rfl, Below.refl _ _⟩
  · have hb' : (a0.size : Int) ≤ 1048576 := by omega
    obtain ⟨bd, n, k, hV⟩ := nextV_form a0
    have HS : Hid (Calls Tryd.prog 12 #[.string a0] w fun e w' => e = .returned (nextV a0) ∧ Below w.heap.size w w') := next_spec a0 w (by omega)
    have HI : Hid (∀ u, LibOk u → Calls Tryd.prog 13 #[.string a0] u fun e w' => e = .returned (nextV a0) ∧ Below u.heap.size u w') := fun u hu => next_impl a0 u (by omega) hu
    rw [hV] at HS HI
    unfold nmV at HS HI
    clear hV
    go_enter Tryd.func4, Tryd.ntmps4
    go_wp2_with fail
    refine Calls.mono HS.out ?_
    rintro e w1 ⟨rfl, hb1⟩
    go_wp2_with fail
    refine Calls.mono (HI.out _ (H.out.below hb1)) ?_
    rintro e w2 ⟨rfl, hb2⟩
    go_wp2_with fail
    go_ret
    exact ⟨rfl, hb1.trans (hb2.mono hb1.size)⟩

end Go.Proofs.YtadjhnaiphnpoaaDoor.fnExactNextMessage
