/-
  No cell of these rows narrows 'for every input' (looked for: loops, veiled, ifaces, maps, wideKeys, modest, calm, conditions, laid).
  DERIVED. THE GIVEN ROWS OF THIS SEAT. 4 by the template 'for every input the law returns true; each argument reads behind the call as it read before'; 0 by the template 'total and deterministic' (their statements: YtgibejgemokljaaTotals.lean).
  GIVEN WITH THE SEED: the statements are not yours to turn. If you find one false, say at which input.
  Laid BY PROGRAM, IN A SANDBOX (cutbox-rows.mjs): the forced cells as the released guide's own fill.sh prints them over the translation 5c579540921af64a… (all of the seat's roots in one cut). By AI agents, Wed Nov 11 2026. No macro, syntax, notation, axiom, sorry.
-/
import Derived.Test.YtgibejgemokljaaChecked
import GoSem.Claim
import GoSem.ClaimJoined
import GoSem.ClaimMapViews
import Derived.JoinedTies
import Derived.KernelRfl
namespace Go.Proofs.Ytgibejgemokljaa
/- THE CELL 'sum', in the pinned program and in every row, IS THE sha256 OF THE DUMP (.gsa) THAT YtgibejgemokljaaProg.lean LOADS. Nothing in Lean hashes anything: it is a label: what it is worth is what the hold of that sum in a sandbox is worth. -/
noncomputable def Try.pinned : Pinned := { name := "ytgibejgemokljaa", sum := "5c579540921af64a2b5e217096fb89283a8102a248fbd0a7062e1ccbec941989", checked := Try.checked }
namespace Rows
def none {H : Type} : Left H := { results := [], args := [] }

/-- 'laws.FnExactSameVm': WHATEVER THE INPUT: true; the input reads as it did. -/
def fnExactSameVmSpec : ChangeSpec := { name := "fnExactSameVm", fn := fun _ => fun
  | [d1, d2] => { results := [.lit (.bool true)], args := [d1, d2] }
  | _ => none }
def fnExactSameVmRow : OpenClaim := { program := "ytgibejgemokljaa", sum := "5c579540921af64a2b5e217096fb89283a8102a248fbd0a7062e1ccbec941989", func := "loop.example/g00258/laws.FnExactSameVm", spec := "fnExactSameVm", unfollowed := true, recurses := true, apart := false }
def FnExactSameVmSaid : Prop := fnExactSameVmRow.holds Try.pinned (OpenSpec.ofChange fnExactSameVmSpec)

/-- ITS FALSE NEIGHBOUR: 'it returns false'. Refute it at one input. -/
def fnExactSameVmWrong : ChangeSpec := { name := "fnExactSameVm", fn := fun _ => fun
  | [d1, d2] => { results := [.lit (.bool false)], args := [d1, d2] }
  | _ => none }
def FnExactSameVmWrongFalsely : Prop := fnExactSameVmRow.holds Try.pinned (OpenSpec.ofChange fnExactSameVmWrong)

/-- 'laws.FnExactTrailStart': WHATEVER THE INPUT: true; the input reads as it did. -/
def fnExactTrailStartSpec : ChangeSpec := { name := "fnExactTrailStart", fn := fun _ => fun
  | [d1, d2] => { results := [.lit (.bool true)], args := [d1, d2] }
  | _ => none }
def fnExactTrailStartRow : OpenClaim := { program := "ytgibejgemokljaa", sum := "5c579540921af64a2b5e217096fb89283a8102a248fbd0a7062e1ccbec941989", func := "loop.example/g00258/laws.FnExactTrailStart", spec := "fnExactTrailStart", apart := false }
def FnExactTrailStartSaid : Prop := fnExactTrailStartRow.holds Try.pinned (OpenSpec.ofChange fnExactTrailStartSpec)

/-- ITS FALSE NEIGHBOUR: 'it returns false'. Refute it at one input. -/
def fnExactTrailStartWrong : ChangeSpec := { name := "fnExactTrailStart", fn := fun _ => fun
  | [d1, d2] => { results := [.lit (.bool false)], args := [d1, d2] }
  | _ => none }
def FnExactTrailStartWrongFalsely : Prop := fnExactTrailStartRow.holds Try.pinned (OpenSpec.ofChange fnExactTrailStartWrong)

/-- 'laws.FnExactTrailEnd': WHATEVER THE INPUT: true; the input reads as it did. -/
def fnExactTrailEndSpec : ChangeSpec := { name := "fnExactTrailEnd", fn := fun _ => fun
  | [d] => { results := [.lit (.bool true)], args := [d] }
  | _ => none }
def fnExactTrailEndRow : OpenClaim := { program := "ytgibejgemokljaa", sum := "5c579540921af64a2b5e217096fb89283a8102a248fbd0a7062e1ccbec941989", func := "loop.example/g00258/laws.FnExactTrailEnd", spec := "fnExactTrailEnd", apart := false }
def FnExactTrailEndSaid : Prop := fnExactTrailEndRow.holds Try.pinned (OpenSpec.ofChange fnExactTrailEndSpec)

/-- ITS FALSE NEIGHBOUR: 'it returns false'. Refute it at one input. -/
def fnExactTrailEndWrong : ChangeSpec := { name := "fnExactTrailEnd", fn := fun _ => fun
  | [d] => { results := [.lit (.bool false)], args := [d] }
  | _ => none }
def FnExactTrailEndWrongFalsely : Prop := fnExactTrailEndRow.holds Try.pinned (OpenSpec.ofChange fnExactTrailEndWrong)

/-- 'laws.FnExactVmStart': WHATEVER THE INPUT: true; the input reads as it did. -/
def fnExactVmStartSpec : ChangeSpec := { name := "fnExactVmStart", fn := fun _ => fun
  | [d] => { results := [.lit (.bool true)], args := [d] }
  | _ => none }
def fnExactVmStartRow : OpenClaim := { program := "ytgibejgemokljaa", sum := "5c579540921af64a2b5e217096fb89283a8102a248fbd0a7062e1ccbec941989", func := "loop.example/g00258/laws.FnExactVmStart", spec := "fnExactVmStart", apart := false }
def FnExactVmStartSaid : Prop := fnExactVmStartRow.holds Try.pinned (OpenSpec.ofChange fnExactVmStartSpec)

/-- ITS FALSE NEIGHBOUR: 'it returns false'. Refute it at one input. -/
def fnExactVmStartWrong : ChangeSpec := { name := "fnExactVmStart", fn := fun _ => fun
  | [d] => { results := [.lit (.bool false)], args := [d] }
  | _ => none }
def FnExactVmStartWrongFalsely : Prop := fnExactVmStartRow.holds Try.pinned (OpenSpec.ofChange fnExactVmStartWrong)

/- THE SECOND FORM. 'bulk': how many values and letters a reading holds, each counted each time it is reached (what is shared counts as often as it is met; a slice's spare places count too). A statement '..UptoSaid' is the law's where the arguments, and the package variables that the reading takes, are together of bulk at most 1048576: NARROWER than '..Said'. Prove '..Said' where nothing that the law and all that it calls make is longer than what came in: it says more and counts as full. Else prove '..UptoSaid'. A law counts once. -/
mutual
def uptoBulk {H : Type} : DataW H → Nat
  | .lit (.string bytes) => bytes.length + 1
  | .lit _ => 1
  | .nil => 1
  | .ptr d => uptoBulk d + 1
  | .slice elems spare => uptoBulkAll elems + uptoBulkAll spare + 1
  | .agg parts => uptoBulkAll parts + 1
  | .iface _ d => uptoBulk d + 1
  | .map entries => uptoBulkEntries entries + 1
  | .held _ => 1
def uptoBulkAll {H : Type} : List (DataW H) → Nat
  | [] => 0
  | d :: r => uptoBulk d + uptoBulkAll r
def uptoBulkEntries {H : Type} : List (Lit × DataW H) → Nat
  | [] => 0
  | x :: r => uptoBulkEntry x + uptoBulkEntries r
def uptoBulkEntry {H : Type} : Lit × DataW H → Nat
  | (.string bytes, d) => bytes.length + uptoBulk d + 1
  | (_, d) => uptoBulk d + 1
 end
def uptoSmall : (H : Type) → List (DataW H) → Bool := fun _ ds => decide (uptoBulkAll ds ≤ 1048576)
def OpenSpec.upto (s : _root_.Go.ChangeSpec) : _root_.Go.OpenSpec := { _root_.Go.OpenSpec.ofChange s with cond := some uptoSmall }

/-- 'laws.FnExactSameVm', WHERE WHAT IT READS IS OF BULK AT MOST 1048576: true; the input reads as it did. -/
def fnExactSameVmUptoRow : OpenClaim := { program := "ytgibejgemokljaa", sum := "5c579540921af64a2b5e217096fb89283a8102a248fbd0a7062e1ccbec941989", func := "loop.example/g00258/laws.FnExactSameVm", spec := "fnExactSameVm", unfollowed := true, recurses := true, apart := false, narrowed := true }
def FnExactSameVmUptoSaid : Prop := fnExactSameVmUptoRow.holds Try.pinned (OpenSpec.upto fnExactSameVmSpec)

/-- 'laws.FnExactTrailStart', WHERE WHAT IT READS IS OF BULK AT MOST 1048576: true; the input reads as it did. -/
def fnExactTrailStartUptoRow : OpenClaim := { program := "ytgibejgemokljaa", sum := "5c579540921af64a2b5e217096fb89283a8102a248fbd0a7062e1ccbec941989", func := "loop.example/g00258/laws.FnExactTrailStart", spec := "fnExactTrailStart", apart := false, narrowed := true }
def FnExactTrailStartUptoSaid : Prop := fnExactTrailStartUptoRow.holds Try.pinned (OpenSpec.upto fnExactTrailStartSpec)

/-- 'laws.FnExactTrailEnd', WHERE WHAT IT READS IS OF BULK AT MOST 1048576: true; the input reads as it did. -/
def fnExactTrailEndUptoRow : OpenClaim := { program := "ytgibejgemokljaa", sum := "5c579540921af64a2b5e217096fb89283a8102a248fbd0a7062e1ccbec941989", func := "loop.example/g00258/laws.FnExactTrailEnd", spec := "fnExactTrailEnd", apart := false, narrowed := true }
def FnExactTrailEndUptoSaid : Prop := fnExactTrailEndUptoRow.holds Try.pinned (OpenSpec.upto fnExactTrailEndSpec)

/-- 'laws.FnExactVmStart', WHERE WHAT IT READS IS OF BULK AT MOST 1048576: true; the input reads as it did. -/
def fnExactVmStartUptoRow : OpenClaim := { program := "ytgibejgemokljaa", sum := "5c579540921af64a2b5e217096fb89283a8102a248fbd0a7062e1ccbec941989", func := "loop.example/g00258/laws.FnExactVmStart", spec := "fnExactVmStart", apart := false, narrowed := true }
def FnExactVmStartUptoSaid : Prop := fnExactVmStartUptoRow.holds Try.pinned (OpenSpec.upto fnExactVmStartSpec)

end Rows
end Go.Proofs.Ytgibejgemokljaa
