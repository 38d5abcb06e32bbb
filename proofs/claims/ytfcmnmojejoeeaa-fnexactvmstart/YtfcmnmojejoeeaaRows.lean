/-
  No cell of these rows narrows 'for every input' (looked for: loops, veiled, ifaces, maps, wideKeys, modest, calm, conditions, laid).
  DERIVED. THE GIVEN ROWS OF THIS SEAT. 4 by the template 'for every input the law returns true; each argument reads behind the call as it read before'; 0 by the template 'total and deterministic' (their statements: YtfcmnmojejoeeaaTotals.lean).
  GIVEN WITH THE SEED: the statements are not yours to turn. If you find one false, say at which input.
  Laid BY PROGRAM, IN A SANDBOX (cutbox-rows.mjs): the forced cells as the released guide's own fill.sh prints them over the translation e73e36eb424e0b0c… (all of the seat's roots in one cut). By AI agents, Wed Nov 11 2026. No macro, syntax, notation, axiom, sorry.
-/
import Derived.Test.YtfcmnmojejoeeaaChecked
import GoSem.Claim
import GoSem.ClaimJoined
import GoSem.ClaimMapViews
import Derived.JoinedTies
import Derived.KernelRfl
namespace Go.Proofs.Ytfcmnmojejoeeaa
/- THE CELL 'sum', in the pinned program and in every row, IS THE sha256 OF THE DUMP (.gsa) THAT YtfcmnmojejoeeaaProg.lean LOADS. Nothing in Lean hashes anything: it is a label: what it is worth is what the hold of that sum in a sandbox is worth. -/
noncomputable def Try.pinned : Pinned := { name := "ytfcmnmojejoeeaa", sum := "e73e36eb424e0b0cf3b039943276b85bb9edbc49368c92309bdd8143ef36a59b", checked := Try.checked }
namespace Rows
def none {H : Type} : Left H := { results := [], args := [] }

/-- 'laws.FnExactVmStart': WHATEVER THE INPUT: true; the input reads as it did. -/
def fnExactVmStartSpec : ChangeSpec := { name := "fnExactVmStart", fn := fun _ => fun
  | [d] => { results := [.lit (.bool true)], args := [d] }
  | _ => none }
def fnExactVmStartRow : OpenClaim := { program := "ytfcmnmojejoeeaa", sum := "e73e36eb424e0b0cf3b039943276b85bb9edbc49368c92309bdd8143ef36a59b", func := "loop.example/g00258/laws.FnExactVmStart", spec := "fnExactVmStart", apart := false }
def FnExactVmStartSaid : Prop := fnExactVmStartRow.holds Try.pinned (OpenSpec.ofChange fnExactVmStartSpec)

/-- ITS FALSE NEIGHBOUR: 'it returns false'. Refute it at one input. -/
def fnExactVmStartWrong : ChangeSpec := { name := "fnExactVmStart", fn := fun _ => fun
  | [d] => { results := [.lit (.bool false)], args := [d] }
  | _ => none }
def FnExactVmStartWrongFalsely : Prop := fnExactVmStartRow.holds Try.pinned (OpenSpec.ofChange fnExactVmStartWrong)

/-- 'laws.FnExactVmOutcome': WHATEVER THE INPUT: true; the input reads as it did. -/
def fnExactVmOutcomeSpec : ChangeSpec := { name := "fnExactVmOutcome", fn := fun _ => fun
  | [d] => { results := [.lit (.bool true)], args := [d] }
  | _ => none }
def fnExactVmOutcomeRow : OpenClaim := { program := "ytfcmnmojejoeeaa", sum := "e73e36eb424e0b0cf3b039943276b85bb9edbc49368c92309bdd8143ef36a59b", func := "loop.example/g00258/laws.FnExactVmOutcome", spec := "fnExactVmOutcome", apart := false }
def FnExactVmOutcomeSaid : Prop := fnExactVmOutcomeRow.holds Try.pinned (OpenSpec.ofChange fnExactVmOutcomeSpec)

/-- ITS FALSE NEIGHBOUR: 'it returns false'. Refute it at one input. -/
def fnExactVmOutcomeWrong : ChangeSpec := { name := "fnExactVmOutcome", fn := fun _ => fun
  | [d] => { results := [.lit (.bool false)], args := [d] }
  | _ => none }
def FnExactVmOutcomeWrongFalsely : Prop := fnExactVmOutcomeRow.holds Try.pinned (OpenSpec.ofChange fnExactVmOutcomeWrong)

/-- 'laws.FnExactVmLine': WHATEVER THE INPUT: true; the input reads as it did. -/
def fnExactVmLineSpec : ChangeSpec := { name := "fnExactVmLine", fn := fun _ => fun
  | [d1, d2] => { results := [.lit (.bool true)], args := [d1, d2] }
  | _ => none }
def fnExactVmLineRow : OpenClaim := { program := "ytfcmnmojejoeeaa", sum := "e73e36eb424e0b0cf3b039943276b85bb9edbc49368c92309bdd8143ef36a59b", func := "loop.example/g00258/laws.FnExactVmLine", spec := "fnExactVmLine", apart := false }
def FnExactVmLineSaid : Prop := fnExactVmLineRow.holds Try.pinned (OpenSpec.ofChange fnExactVmLineSpec)

/-- ITS FALSE NEIGHBOUR: 'it returns false'. Refute it at one input. -/
def fnExactVmLineWrong : ChangeSpec := { name := "fnExactVmLine", fn := fun _ => fun
  | [d1, d2] => { results := [.lit (.bool false)], args := [d1, d2] }
  | _ => none }
def FnExactVmLineWrongFalsely : Prop := fnExactVmLineRow.holds Try.pinned (OpenSpec.ofChange fnExactVmLineWrong)

/-- 'laws.FnExactSameVm': WHATEVER THE INPUT: true; the input reads as it did. -/
def fnExactSameVmSpec : ChangeSpec := { name := "fnExactSameVm", fn := fun _ => fun
  | [d1, d2] => { results := [.lit (.bool true)], args := [d1, d2] }
  | _ => none }
def fnExactSameVmRow : OpenClaim := { program := "ytfcmnmojejoeeaa", sum := "e73e36eb424e0b0cf3b039943276b85bb9edbc49368c92309bdd8143ef36a59b", func := "loop.example/g00258/laws.FnExactSameVm", spec := "fnExactSameVm", unfollowed := true, recurses := true, apart := false }
def FnExactSameVmSaid : Prop := fnExactSameVmRow.holds Try.pinned (OpenSpec.ofChange fnExactSameVmSpec)

/-- ITS FALSE NEIGHBOUR: 'it returns false'. Refute it at one input. -/
def fnExactSameVmWrong : ChangeSpec := { name := "fnExactSameVm", fn := fun _ => fun
  | [d1, d2] => { results := [.lit (.bool false)], args := [d1, d2] }
  | _ => none }
def FnExactSameVmWrongFalsely : Prop := fnExactSameVmRow.holds Try.pinned (OpenSpec.ofChange fnExactSameVmWrong)

/- THE SECOND FORM. 'bulk': how many values and letters a reading holds, each counted each time it is reached (what is shared counts as often as it is met; a slice's spare places count too). A statement '..UptoSaid' is the law's where the arguments, and the package variables that the reading takes, are together of bulk at most 1048576: NARROWER than '..Said'. Prove '..Said' where nothing that the law and all that it calls make is longer than what came in: it says more and counts as full. Else prove '..UptoSaid'. A law counts once. -/
mutual
def uptoBulk {H : Type} : DataW H → Nat
  | .lit (.string bytes) => bytes.length + 1
  | .lit _ => 1
  | .nil => 1
  | .ptr d => uptoBulk d + 1
  | .slice elems spare => uptoBulkAll elems + uptoBulkAll spare + 1
  | .agg parts => uptoBulkAll parts + 1
  | .iface _ d => uptoBulk d + 1
  | .map entries => uptoBulkEntries entries + 1
  | .held _ => 1
def uptoBulkAll {H : Type} : List (DataW H) → Nat
  | [] => 0
  | d :: r => uptoBulk d + uptoBulkAll r
def uptoBulkEntries {H : Type} : List (Lit × DataW H) → Nat
  | [] => 0
  | x :: r => uptoBulkEntry x + uptoBulkEntries r
def uptoBulkEntry {H : Type} : Lit × DataW H → Nat
  | (.string bytes, d) => bytes.length + uptoBulk d + 1
  | (_, d) => uptoBulk d + 1
 end
def uptoSmall : (H : Type) → List (DataW H) → Bool := fun _ ds => decide (uptoBulkAll ds ≤ 1048576)
def OpenSpec.upto (s : _root_.Go.ChangeSpec) : _root_.Go.OpenSpec := { _root_.Go.OpenSpec.ofChange s with cond := some uptoSmall }

/-- 'laws.FnExactVmStart', WHERE WHAT IT READS IS OF BULK AT MOST 1048576: true; the input reads as it did. -/
def fnExactVmStartUptoRow : OpenClaim := { program := "ytfcmnmojejoeeaa", sum := "e73e36eb424e0b0cf3b039943276b85bb9edbc49368c92309bdd8143ef36a59b", func := "loop.example/g00258/laws.FnExactVmStart", spec := "fnExactVmStart", apart := false, narrowed := true }
def FnExactVmStartUptoSaid : Prop := fnExactVmStartUptoRow.holds Try.pinned (OpenSpec.upto fnExactVmStartSpec)

/-- 'laws.FnExactVmOutcome', WHERE WHAT IT READS IS OF BULK AT MOST 1048576: true; the input reads as it did. -/
def fnExactVmOutcomeUptoRow : OpenClaim := { program := "ytfcmnmojejoeeaa", sum := "e73e36eb424e0b0cf3b039943276b85bb9edbc49368c92309bdd8143ef36a59b", func := "loop.example/g00258/laws.FnExactVmOutcome", spec := "fnExactVmOutcome", apart := false, narrowed := true }
def FnExactVmOutcomeUptoSaid : Prop := fnExactVmOutcomeUptoRow.holds Try.pinned (OpenSpec.upto fnExactVmOutcomeSpec)

/-- 'laws.FnExactVmLine', WHERE WHAT IT READS IS OF BULK AT MOST 1048576: true; the input reads as it did. -/
def fnExactVmLineUptoRow : OpenClaim := { program := "ytfcmnmojejoeeaa", sum := "e73e36eb424e0b0cf3b039943276b85bb9edbc49368c92309bdd8143ef36a59b", func := "loop.example/g00258/laws.FnExactVmLine", spec := "fnExactVmLine", apart := false, narrowed := true }
def FnExactVmLineUptoSaid : Prop := fnExactVmLineUptoRow.holds Try.pinned (OpenSpec.upto fnExactVmLineSpec)

/-- 'laws.FnExactSameVm', WHERE WHAT IT READS IS OF BULK AT MOST 1048576: true; the input reads as it did. -/
def fnExactSameVmUptoRow : OpenClaim := { program := "ytfcmnmojejoeeaa", sum := "e73e36eb424e0b0cf3b039943276b85bb9edbc49368c92309bdd8143ef36a59b", func := "loop.example/g00258/laws.FnExactSameVm", spec := "fnExactSameVm", unfollowed := true, recurses := true, apart := false, narrowed := true }
def FnExactSameVmUptoSaid : Prop := fnExactSameVmUptoRow.holds Try.pinned (OpenSpec.upto fnExactSameVmSpec)

end Rows
end Go.Proofs.Ytfcmnmojejoeeaa
