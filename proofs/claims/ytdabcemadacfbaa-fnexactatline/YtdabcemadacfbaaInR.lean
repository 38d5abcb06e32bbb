/- Whether a number lies between two. -/
import Derived.Test.YtdabcemadacfbaaDatQ
namespace Go.Proofs.Ytdabcemadacfbaa
open Go.RowKit

def inR (x a b : Int) : Bool := decide (a ≤ x ∧ x ≤ b)
end Go.Proofs.Ytdabcemadacfbaa
