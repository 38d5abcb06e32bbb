/- The walk of FnExactCmdText: it returns true. -/
import Derived.Test.YtadjhnaiphnpoaaDoorCmI
import Derived.Test.YtadjhnaiphnpoaaDoorCmS
import Derived.Test.YtadjhnaiphnpoaaDoorCmO
import Derived.Test.YtadjhnaiphnpoaaDoorTabP
import Derived.Test.YtadjhnaiphnpoaaDoorRows
import Derived.LaidMore
import Derived.Stop.Joined
import Derived.MakeChecks
namespace Go.Proofs.YtadjhnaiphnpoaaDoor.fnExactCmdText
open Go.ChangeShapes Go.WideShapes Go.ChangeAt Go.RowKit

def laidL : List (String × DataW Unit) := [("math/bits.deBruijn32tab", Rows.laid_math_bits_deBruijn32tab), ("math/bits.deBruijn64tab", Rows.laid_math_bits_deBruijn64tab), ("internal/strconv.uint64pow10", Rows.laid_internal_strconv_uint64pow10)]

theorem tab_of {W : World} (h : laidMetH Tryd.prog laidL W) : Lib.TabIs Tryd.prog W "internal/strconv.uint64pow10" .u64 Lib.pow10Tab := by
  rw [MakeChecks.laidMetH_plain _ _ _ (by kernel_rfl)] at h
  obtain ⟨ps, ⟨g0, t0, cs0, f0, p0, q0, hg0, ht0, hv0, hd0, ⟨g1, t1, cs1, f1, p1, q1, hg1, ht1, hv1, hd1, ⟨g2, t2, cs2, f2, p2, q2, hg2, ht2, hv2, hd2, _, _⟩, _⟩, _⟩, _, _⟩ := h
  exact tab_of_read hg2 ht2 hv2 hd2
set_option maxRecDepth 100000 in
set_option maxHeartbeats 1600000 in
theorem walk (s : ByteArray) (n : Int) (x : ByteArray) (ok : CmdOk s n x) (w : World) (hL : laidMetH Tryd.prog laidL w) :
    Calls Tryd.prog 6 #[.agg #[.string s, .int .i64 n, .string x]] w fun e w' => e = .returned (.bool true) ∧ Below w.heap.size w w' := by
  have H : Hid (Lib.TabIs Tryd.prog w "internal/strconv.uint64pow10" .u64 Lib.pow10Tab) := tab_of hL
  clear hL
  go_enter Tryd.func6, Tryd.ntmps6
  go_wp2_with fail
  refine (szC_any s n x _ ok).mono ?_
  rintro e w1 ⟨⟨r, rfl, hr⟩, hb1⟩
  by_cases hneg : r < 0
  · go_wp2_with fail
    go_ret
    exact ⟨rfl, boxed hb1⟩
  · obtain ⟨hs, hx⟩ := hr hneg
    clear hr
    have c0 := st_cell hb1 0
    have c1 := st_cell hb1 1
    have c2 := st_cell hb1 2
    simp only [List.getElem?_toArray, List.getElem?_cons_zero, List.getElem?_cons_succ] at c0 c1 c2
    go_wp2_with fail
    refine (toC_any s n x _).mono ?_
    rintro e w2 ⟨rfl, hb2⟩
    have hb12 := hb1.trans (hb2.mono hb1.size)
    go_wp2_with fail
    refine (cmd_spec s n x _ (by omega) (by omega) ok.n0 ok.n1).mono ?_
    rintro e w3 ⟨rfl, hb3⟩
    have hb13 := hb12.trans (hb3.mono hb12.size)
    clear c0 c1 c2
    have c0 := st_cell hb13 0
    have c1 := st_cell hb13 1
    have c2 := st_cell hb13 2
    simp only [List.getElem?_toArray, List.getElem?_cons_zero, List.getElem?_cons_succ] at c0 c1 c2
    go_wp2_with fail
    refine (toC_any s n x _).mono ?_
    rintro e w4 ⟨rfl, hb4⟩
    have hb14 := hb13.trans (hb4.mono hb13.size)
    go_wp2_with fail
    refine (cmd_impl s n x _ (by omega) (by omega) ok.n0 ok.n1 (var_below (boxed hb14) H.out)).mono ?_
    rintro e w5 ⟨rfl, hb5⟩
    have hb15 := hb14.trans (hb5.mono hb14.size)
    go_wp2_with fail
    go_ret
    exact ⟨rfl, boxed hb15⟩

end Go.Proofs.YtadjhnaiphnpoaaDoor.fnExactCmdText
