/- Whether a number lies between two. -/
import Derived.Test.YtnbkgpmibgdlmaaDatQ
namespace Go.Proofs.Ytnbkgpmibgdlmaa
open Go.RowKit

def inR (x a b : Int) : Bool := decide (a ≤ x ∧ x ≤ b)
end Go.Proofs.Ytnbkgpmibgdlmaa
