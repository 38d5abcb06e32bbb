/- The one argument of a law on draws: a slice of bytes that came in. -/
import Derived.Test.YtadjhnaiphnpoaaDoorDrawK
import Derived.OpenShut
namespace Go.Proofs.YtadjhnaiphnpoaaDoor
open Go.RowKit Go.WideShapes
theorem cells_u8 : Tryd.prog.cellsOf 5 = 1 := by kernel_rfl
theorem is_code_of {W : World} {a : Addr} {len cap : Nat} {zs : List Int}
    (hl : len ≤ cap) (hm : cap ≤ maxLen) (hz : zs.length = cap) (hcell : ∀ j, j < zs.length → W.cell? (a.add j) = some (.int .u8 (zs.getD j 0))) (hwz : ∀ n ∈ zs, (Lit.int .u8 n).wf = true) : IsCode W W.heap.size (some a) len cap := by
  obtain ⟨b, off, spot⟩ := a
  refine ⟨by unfold maxLen at hm; omega, fun j hj => ?_⟩
  have hspot : spot = none := by simpa [Addr.add] using World.cell?_spot (hcell 0 (by omega))
  subst hspot
  have hc := hcell j (by omega)
  rw [add_plain] at hc
  have hw : (Lit.int .u8 (zs.getD j 0)).wf = true := by
    have hj' : j < zs.length := by omega
    rw [List.getD_eq_getElem?_getD, List.getElem?_eq_getElem hj']
    exact hwz _ (List.getElem_mem hj')
  have hb := bounds_u8 hw
  exact ⟨b, off, _, rfl, World.block_lt_of_cell? W _ hc, hc, hb.1, by omega⟩
end Go.Proofs.YtadjhnaiphnpoaaDoor
