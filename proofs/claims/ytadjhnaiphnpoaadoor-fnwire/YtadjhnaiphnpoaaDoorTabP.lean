/- The library's table of powers of ten, out of the card's condition. -/
import Derived.Test.YtadjhnaiphnpoaaDoorDecI
import Derived.LaidMore
import Derived.MakeChecks
namespace Go.Proofs.YtadjhnaiphnpoaaDoor
open Go.RowKit Go.Lib
theorem gPow : Tryd.prog.globalNamed "internal/strconv.uint64pow10" = some 3 := by kernel_rfl
theorem tPow : (Tryd.prog.globals[3]?).map (·.type) = some 123 := by kernel_rfl
theorem cells_u64 : Tryd.prog.cellsOf 108 = 1 := by kernel_rfl
theorem cells_pow : Tryd.prog.cellsOf 123 = 20 := by kernel_rfl
theorem pow_list : pow10Tab = [1, 10, 100, 1000, 10000, 100000, 1000000, 10000000, 100000000, 1000000000, 10000000000, 100000000000, 1000000000000, 10000000000000, 100000000000000, 1000000000000000, 10000000000000000, 100000000000000000, 1000000000000000000, 10000000000000000000] := by decide +kernel
theorem pow_data {H : Type} : (Rows.laid_internal_strconv_uint64pow10 : DataW H) = tabData .u64 pow10Tab := by
  rw [pow_list]; rfl
/-- From the reading of the one variable. -/
theorem tab_of_read {W : World} {g t : Nat} {cs : Array Value} {enc : TypeId × Value → Unit} {b : Nat} {sp : Nat → Bool} {hd : Bool} {f : Nat} {q : List MemPlace}
    (hg : Tryd.prog.globalNamed "internal/strconv.uint64pow10" = some g) (ht : (Tryd.prog.globals[g]?).map (·.type) = some t) (hv : W.var? Tryd.prog "internal/strconv.uint64pow10" = some cs)
    (hr : DataW.trod enc Tryd.prog W b sp hd f t cs.toList = some (Rows.laid_internal_strconv_uint64pow10, q)) : Lib.TabIs Tryd.prog W "internal/strconv.uint64pow10" .u64 Lib.pow10Tab := by
  obtain rfl := Option.some.inj (gPow.symm.trans hg)
  obtain rfl := Option.some.inj (tPow.symm.trans ht)
  rw [pow_data] at hr
  unfold TabIs
  rw [hv, ← cells_of_tab Tryd.underlying123 Tryd.underlying108 cells_u64 cells_pow hr]
end Go.Proofs.YtadjhnaiphnpoaaDoor
