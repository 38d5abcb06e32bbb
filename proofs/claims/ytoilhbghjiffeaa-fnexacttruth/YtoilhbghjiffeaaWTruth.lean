/- The walk of FnExactTruth: it returns true. -/
import Derived.Test.YtoilhbghjiffeaaValB
import Derived.Test.YtoilhbghjiffeaaValO
namespace Go.Proofs.Ytoilhbghjiffeaa
open Go.RowKit

set_option maxRecDepth 100000 in
set_option maxHeartbeats 1600000 in
theorem exact_truth (k n : Int) (s : ByteArray) (w : World) (hv : ValOk k n s) :
    Calls Try.prog 3 #[.agg #[.int .i64 k, .int .i64 n, .string s]] w fun e w' => e = .returned (.bool true) ∧ Below w.heap.size w w' := by
  go_enter Try.func3, Try.ntmps3
  go_wp2_with fail
  refine (szV_any k n s _ _ hv.s1 (by decide) (by decide)).mono ?_
  rintro e w1 ⟨⟨r, rfl, hr⟩, hb1⟩
  by_cases hneg : r < 0
  · go_wp2_with fail
    go_ret
    exact ⟨rfl, boxed hb1⟩
  · have c0 := st_cell hb1 0
    have c1 := st_cell hb1 1
    have c2 := st_cell hb1 2
    simp only [List.getElem?_toArray, List.getElem?_cons_zero, List.getElem?_cons_succ] at c0 c1 c2
    go_wp2_with fail
    refine (toV_any k n s _).mono ?_
    rintro e w2 ⟨rfl, hb2⟩
    have hb12 := hb1.trans (hb2.mono hb1.size)
    go_wp2_with fail
    refine (truth_spec k n s _).mono ?_
    rintro e w3 ⟨rfl, hb3⟩
    have hb13 := hb12.trans (hb3.mono hb12.size)
    clear c0 c1 c2
    have c0 := st_cell hb13 0
    have c1 := st_cell hb13 1
    have c2 := st_cell hb13 2
    simp only [List.getElem?_toArray, List.getElem?_cons_zero, List.getElem?_cons_succ] at c0 c1 c2
    go_wp2_with fail
    refine (toV_any k n s _).mono ?_
    rintro e w4 ⟨rfl, hb4⟩
    have hb14 := hb13.trans (hb4.mono hb13.size)
    go_wp2_with fail
    refine (truth_impl k n s _).mono ?_
    rintro e w5 ⟨rfl, hb5⟩
    have hb15 := hb14.trans (hb5.mono hb14.size)
    go_wp2_with fail
    go_ret
    exact ⟨rfl, boxed hb15⟩
end Go.Proofs.Ytoilhbghjiffeaa
