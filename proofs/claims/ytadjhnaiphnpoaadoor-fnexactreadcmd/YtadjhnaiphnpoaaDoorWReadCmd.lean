/- The walk of FnExactReadCmd: it returns true. -/
import Derived.Test.YtadjhnaiphnpoaaDoorRcI
import Derived.Test.YtadjhnaiphnpoaaDoorRcS
import Derived.Test.YtadjhnaiphnpoaaDoorCmZ
import Derived.Test.YtadjhnaiphnpoaaDoorLibP
import Derived.Test.YtadjhnaiphnpoaaDoorRows
import Derived.LaidMore
import Derived.Stop.Joined
import Derived.MakeChecks
namespace Go.Proofs.YtadjhnaiphnpoaaDoor.fnExactReadCmd
open Go.ChangeShapes Go.WideShapes Go.ChangeAt Go.RowKit

def laidL : List (String × DataW Unit) := [("math/bits.deBruijn32tab", Rows.laid_math_bits_deBruijn32tab), ("math/bits.deBruijn64tab", Rows.laid_math_bits_deBruijn64tab), ("internal/strconv.uint64pow10", Rows.laid_internal_strconv_uint64pow10), ("strconv.ErrRange", Rows.laid_strconv_ErrRange), ("strconv.ErrSyntax", Rows.laid_strconv_ErrSyntax)]

theorem lib_of {W : World} (h : laidMetH Tryd.prog laidL W) : LibOk W := by
  rw [MakeChecks.laidMetH_plain _ _ _ (by kernel_rfl)] at h
  have h3 := h.tail.tail
  exact ⟨pow_of h3, syn_of h3.tail.tail, rng_of h3.tail⟩
set_option maxRecDepth 100000 in
set_option maxHeartbeats 1600000 in
theorem walk (a0 : ByteArray) (w0 : a0.size ≤ maxLen) (w : World) (hL : laidMetH Tryd.prog laidL w) :
    Calls Tryd.prog 7 #[.string a0] w fun e w' => e = .returned (.bool true) ∧ Below w.heap.size w w' := by
  have H : Hid (LibOk w) := lib_of hL
  clear hL
  unfold maxLen at w0
  by_cases hbig : 1048576 < a0.size
  · have hb' : (1048576 : Int) < a0.size := by omega
    go_enter Tryd.func7, Tryd.ntmps7
    go_wp2_with fail
    go_ret
    exact ⟨rfl, Below.refl _ _⟩
  · have hb' : (a0.size : Int) ≤ 1048576 := by omega
    obtain ⟨W, n, x, ok, hV⟩ := readV_form a0
    have HS : Hid (Calls Tryd.prog 23 #[.string a0] w fun e w' => e = .returned (readV a0) ∧ Below w.heap.size w w') := read_spec a0 w (by omega)
    have HI : Hid (∀ u, LibOk u → Calls Tryd.prog 24 #[.string a0] u fun e w' => e = .returned (readV a0) ∧ Below u.heap.size u w') := fun u hu => read_impl a0 u (by omega) hu
    rw [hV] at HS HI
    clear hV
    go_enter Tryd.func7, Tryd.ntmps7
    go_wp2_with fail
    refine Calls.mono HS.out ?_
    rintro e w1 ⟨rfl, hb1⟩
    have V1 := (hb1.alloc hb1.size (.cells #[.string W, .int .i64 n, .string x] 35))
    have r1 := heap_alloc_new w1 (.cells #[.string W, .int .i64 n, .string x] 35)
    have z1 := size_alloc w1 (.cells #[.string W, .int .i64 n, .string x] 35)
    go_wp2_with fail
    generalize w1.alloc (.cells #[.string W, .int .i64 n, .string x] 35) = w2 at *
    generalize w1.heap.size = b at *
    refine Calls.mono (HI.out _ (H.out.below V1)) ?_
    rintro e w3 ⟨rfl, hb3⟩
    have r3 := (hb3.block b (by omega)).trans r1
    have V3 := V1.trans (hb3.mono V1.size)
    have hlt : b < w3.heap.size := by have := hb3.size; omega
    clear r1 z1 V1 hb3 hb1
    have V4 := V3.alloc V3.size (.cells #[.string W, .int .i64 n, .string x] 35)
    have r4 := heap_alloc_new w3 (.cells #[.string W, .int .i64 n, .string x] 35)
    have r5 := (Below.heap_alloc w3 (.cells #[.string W, .int .i64 n, .string x] 35) b hlt).trans r3
    have c0 := cell_of_row _ _ 0 _ _ _ r4
    have c1 := cell_of_row _ _ 1 _ _ _ r4
    have c2 := cell_of_row _ _ 2 _ _ _ r4
    have d0 := cell_of_row _ _ 0 _ _ _ r5
    have d1 := cell_of_row _ _ 1 _ _ _ r5
    have d2 := cell_of_row _ _ 2 _ _ _ r5
    simp only [List.getElem?_toArray, List.getElem?_cons_zero, List.getElem?_cons_succ] at c0 c1 c2 d0 d1 d2
    clear r3 r4 r5 hlt V3
    go_wp2_with fail
    generalize w3.alloc (.cells #[.string W, .int .i64 n, .string x] 35) = w4 at *
    refine (eqC_same W n x _).mono ?_
    rintro e w5 ⟨rfl, hb5⟩
    cases ok
    all_goals
      go_wp2_with fail
      go_ret
      exact ⟨rfl, V4.trans (hb5.mono V4.size)⟩

end Go.Proofs.YtadjhnaiphnpoaaDoor.fnExactReadCmd
