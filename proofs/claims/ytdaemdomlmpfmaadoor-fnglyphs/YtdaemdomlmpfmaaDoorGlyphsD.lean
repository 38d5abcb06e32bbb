/- What the law on code points leans on, in one place. -/
import Derived.Test.YtdaemdomlmpfmaaDoorGlyphsW
import Derived.Test.YtdaemdomlmpfmaaDoorGlyphQ
import Derived.Test.YtdaemdomlmpfmaaDoorDrawG
import Derived.Test.YtdaemdomlmpfmaaDoorTabP
import Derived.WalkSmall
namespace Go.Proofs.YtdaemdomlmpfmaaDoor
open Go.RowKit
theorem var_lt {P : Program} {w : World} {n : String} {g : Nat} {k : IntKind} {zs : List Int} (hg : P.globalNamed n = some g) (h : Lib.TabIs P w n k zs) (hz : 0 < zs.length) : g < w.heap.size :=
  World.block_lt_of_cell? w ⟨g, 0, none⟩ (h.cell hg 0 hz)
end Go.Proofs.YtdaemdomlmpfmaaDoor
