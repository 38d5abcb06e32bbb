/- The walk of FnLex: it returns true. -/
import Derived.Test.YtjepokoeljpflaaDoorWLexA
import Derived.Test.YtjepokoeljpflaaDoorCodeA
import Derived.Test.YtjepokoeljpflaaDoorRows
import Derived.LaidMore
import Derived.Stop.Joined
import Derived.MakeChecks
namespace Go.Proofs.YtjepokoeljpflaaDoor.fnLex
open Go.ChangeShapes Go.WideShapes Go.ChangeAt Go.RowKit

def laidL : List (String × DataW Unit) := [("math/bits.deBruijn32tab", Rows.laid_math_bits_deBruijn32tab), ("math/bits.deBruijn64tab", Rows.laid_math_bits_deBruijn64tab), ("internal/strconv.uint64pow10", Rows.laid_internal_strconv_uint64pow10), ("strconv.ErrRange", Rows.laid_strconv_ErrRange), ("strconv.ErrSyntax", Rows.laid_strconv_ErrSyntax)]

set_option linter.unusedVariables false in
theorem walk (a0 : Option Addr) (len cap : Nat) (w : World) (hc : IsCode w w.heap.size a0 len cap) (hL : laidMetH Tryd.prog laidL w) :
    Calls Tryd.prog 3 #[.slice a0 len cap] w fun e w' => e = .returned (.bool true) ∧ Below w.heap.size w w' := fn_lex a0 len cap w hc

end Go.Proofs.YtjepokoeljpflaaDoor.fnLex
