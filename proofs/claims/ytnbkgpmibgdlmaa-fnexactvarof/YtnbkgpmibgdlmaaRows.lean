/-
  No cell of these rows narrows 'for every input' (looked for: loops, veiled, ifaces, maps, wideKeys, modest, calm, conditions, laid).
  DERIVED. THE GIVEN ROWS OF THIS SEAT. 4 by the template 'for every input the law returns true; each argument reads behind the call as it read before'; 0 by the template 'total and deterministic' (their statements: YtnbkgpmibgdlmaaTotals.lean).
  GIVEN WITH THE SEED: the statements are not yours to turn. If you find one false, say at which input.
  Laid BY PROGRAM, IN A SANDBOX (cutbox-rows.mjs): the forced cells as the released guide's own fill.sh prints them over the translation 015d9d19e96fdcb4… (all of the seat's roots in one cut). By AI agents, Wed Nov 11 2026. No macro, syntax, notation, axiom, sorry.
-/
import Derived.Test.YtnbkgpmibgdlmaaChecked
import GoSem.Claim
import GoSem.ClaimJoined
import GoSem.ClaimMapViews
import Derived.JoinedTies
import Derived.KernelRfl
namespace Go.Proofs.Ytnbkgpmibgdlmaa
/- THE CELL 'sum', in the pinned program and in every row, IS THE sha256 OF THE DUMP (.gsa) THAT YtnbkgpmibgdlmaaProg.lean LOADS. Nothing in Lean hashes anything: it is a label: what it is worth is what the hold of that sum in a sandbox is worth. -/
noncomputable def Try.pinned : Pinned := { name := "ytnbkgpmibgdlmaa", sum := "015d9d19e96fdcb4503ce7908032248a8024b4e735ed613add3839a8da1f20ba", checked := Try.checked }
namespace Rows
def none {H : Type} : Left H := { results := [], args := [] }

/-- 'laws.FnExactVarOf': WHATEVER THE INPUT: true; the input reads as it did. -/
def fnExactVarOfSpec : ChangeSpec := { name := "fnExactVarOf", fn := fun _ => fun
  | [d1, d2, d3] => { results := [.lit (.bool true)], args := [d1, d2, d3] }
  | _ => none }
def fnExactVarOfRow : OpenClaim := { program := "ytnbkgpmibgdlmaa", sum := "015d9d19e96fdcb4503ce7908032248a8024b4e735ed613add3839a8da1f20ba", func := "loop.example/g00258/laws.FnExactVarOf", spec := "fnExactVarOf", unfollowed := true, recurses := true, apart := false }
def FnExactVarOfSaid : Prop := fnExactVarOfRow.holds Try.pinned (OpenSpec.ofChange fnExactVarOfSpec)

/-- ITS FALSE NEIGHBOUR: 'it returns false'. Refute it at one input. -/
def fnExactVarOfWrong : ChangeSpec := { name := "fnExactVarOf", fn := fun _ => fun
  | [d1, d2, d3] => { results := [.lit (.bool false)], args := [d1, d2, d3] }
  | _ => none }
def FnExactVarOfWrongFalsely : Prop := fnExactVarOfRow.holds Try.pinned (OpenSpec.ofChange fnExactVarOfWrong)

/-- 'laws.FnExactDeep': WHATEVER THE INPUT: true; the input reads as it did. -/
def fnExactDeepSpec : ChangeSpec := { name := "fnExactDeep", fn := fun _ => fun
  | [d1, d2, d3] => { results := [.lit (.bool true)], args := [d1, d2, d3] }
  | _ => none }
def fnExactDeepRow : OpenClaim := { program := "ytnbkgpmibgdlmaa", sum := "015d9d19e96fdcb4503ce7908032248a8024b4e735ed613add3839a8da1f20ba", func := "loop.example/g00258/laws.FnExactDeep", spec := "fnExactDeep", inPlace := ["internal/abi.NoEscape"], unfollowed := true, recurses := true, apart := false }
def FnExactDeepSaid : Prop := fnExactDeepRow.holds Try.pinned (OpenSpec.ofChange fnExactDeepSpec)

/-- ITS FALSE NEIGHBOUR: 'it returns false'. Refute it at one input. -/
def fnExactDeepWrong : ChangeSpec := { name := "fnExactDeep", fn := fun _ => fun
  | [d1, d2, d3] => { results := [.lit (.bool false)], args := [d1, d2, d3] }
  | _ => none }
def FnExactDeepWrongFalsely : Prop := fnExactDeepRow.holds Try.pinned (OpenSpec.ofChange fnExactDeepWrong)

/-- 'laws.FnExactVmLine': WHATEVER THE INPUT: true; the input reads as it did. -/
def fnExactVmLineSpec : ChangeSpec := { name := "fnExactVmLine", fn := fun _ => fun
  | [d1, d2] => { results := [.lit (.bool true)], args := [d1, d2] }
  | _ => none }
def fnExactVmLineRow : OpenClaim := { program := "ytnbkgpmibgdlmaa", sum := "015d9d19e96fdcb4503ce7908032248a8024b4e735ed613add3839a8da1f20ba", func := "loop.example/g00258/laws.FnExactVmLine", spec := "fnExactVmLine", apart := false }
def FnExactVmLineSaid : Prop := fnExactVmLineRow.holds Try.pinned (OpenSpec.ofChange fnExactVmLineSpec)

/-- ITS FALSE NEIGHBOUR: 'it returns false'. Refute it at one input. -/
def fnExactVmLineWrong : ChangeSpec := { name := "fnExactVmLine", fn := fun _ => fun
  | [d1, d2] => { results := [.lit (.bool false)], args := [d1, d2] }
  | _ => none }
def FnExactVmLineWrongFalsely : Prop := fnExactVmLineRow.holds Try.pinned (OpenSpec.ofChange fnExactVmLineWrong)

/-- 'laws.FnExactAtLine': WHATEVER THE INPUT: true; the input reads as it did. -/
def fnExactAtLineSpec : ChangeSpec := { name := "fnExactAtLine", fn := fun _ => fun
  | [d1, d2] => { results := [.lit (.bool true)], args := [d1, d2] }
  | _ => none }
def fnExactAtLineRow : OpenClaim := { program := "ytnbkgpmibgdlmaa", sum := "015d9d19e96fdcb4503ce7908032248a8024b4e735ed613add3839a8da1f20ba", func := "loop.example/g00258/laws.FnExactAtLine", spec := "fnExactAtLine", apart := false }
def FnExactAtLineSaid : Prop := fnExactAtLineRow.holds Try.pinned (OpenSpec.ofChange fnExactAtLineSpec)

/-- ITS FALSE NEIGHBOUR: 'it returns false'. Refute it at one input. -/
def fnExactAtLineWrong : ChangeSpec := { name := "fnExactAtLine", fn := fun _ => fun
  | [d1, d2] => { results := [.lit (.bool false)], args := [d1, d2] }
  | _ => none }
def FnExactAtLineWrongFalsely : Prop := fnExactAtLineRow.holds Try.pinned (OpenSpec.ofChange fnExactAtLineWrong)

/- THE SECOND FORM. 'bulk': how many values and letters a reading holds, each counted each time it is reached (what is shared counts as often as it is met; a slice's spare places count too). A statement '..UptoSaid' is the law's where the arguments, and the package variables that the reading takes, are together of bulk at most 1048576: NARROWER than '..Said'. Prove '..Said' where nothing that the law and all that it calls make is longer than what came in: it says more and counts as full. Else prove '..UptoSaid'. A law counts once. -/
mutual
def uptoBulk {H : Type} : DataW H → Nat
  | .lit (.string bytes) => bytes.length + 1
  | .lit _ => 1
  | .nil => 1
  | .ptr d => uptoBulk d + 1
  | .slice elems spare => uptoBulkAll elems + uptoBulkAll spare + 1
  | .agg parts => uptoBulkAll parts + 1
  | .iface _ d => uptoBulk d + 1
  | .map entries => uptoBulkEntries entries + 1
  | .held _ => 1
def uptoBulkAll {H : Type} : List (DataW H) → Nat
  | [] => 0
  | d :: r => uptoBulk d + uptoBulkAll r
def uptoBulkEntries {H : Type} : List (Lit × DataW H) → Nat
  | [] => 0
  | x :: r => uptoBulkEntry x + uptoBulkEntries r
def uptoBulkEntry {H : Type} : Lit × DataW H → Nat
  | (.string bytes, d) => bytes.length + uptoBulk d + 1
  | (_, d) => uptoBulk d + 1
 end
def uptoSmall : (H : Type) → List (DataW H) → Bool := fun _ ds => decide (uptoBulkAll ds ≤ 1048576)
def OpenSpec.upto (s : _root_.Go.ChangeSpec) : _root_.Go.OpenSpec := { _root_.Go.OpenSpec.ofChange s with cond := some uptoSmall }

/-- 'laws.FnExactVarOf', WHERE WHAT IT READS IS OF BULK AT MOST 1048576: true; the input reads as it did. -/
def fnExactVarOfUptoRow : OpenClaim := { program := "ytnbkgpmibgdlmaa", sum := "015d9d19e96fdcb4503ce7908032248a8024b4e735ed613add3839a8da1f20ba", func := "loop.example/g00258/laws.FnExactVarOf", spec := "fnExactVarOf", unfollowed := true, recurses := true, apart := false, narrowed := true }
def FnExactVarOfUptoSaid : Prop := fnExactVarOfUptoRow.holds Try.pinned (OpenSpec.upto fnExactVarOfSpec)

/-- 'laws.FnExactDeep', WHERE WHAT IT READS IS OF BULK AT MOST 1048576: true; the input reads as it did. -/
def fnExactDeepUptoRow : OpenClaim := { program := "ytnbkgpmibgdlmaa", sum := "015d9d19e96fdcb4503ce7908032248a8024b4e735ed613add3839a8da1f20ba", func := "loop.example/g00258/laws.FnExactDeep", spec := "fnExactDeep", inPlace := ["internal/abi.NoEscape"], unfollowed := true, recurses := true, apart := false, narrowed := true }
def FnExactDeepUptoSaid : Prop := fnExactDeepUptoRow.holds Try.pinned (OpenSpec.upto fnExactDeepSpec)

/-- 'laws.FnExactVmLine', WHERE WHAT IT READS IS OF BULK AT MOST 1048576: true; the input reads as it did. -/
def fnExactVmLineUptoRow : OpenClaim := { program := "ytnbkgpmibgdlmaa", sum := "015d9d19e96fdcb4503ce7908032248a8024b4e735ed613add3839a8da1f20ba", func := "loop.example/g00258/laws.FnExactVmLine", spec := "fnExactVmLine", apart := false, narrowed := true }
def FnExactVmLineUptoSaid : Prop := fnExactVmLineUptoRow.holds Try.pinned (OpenSpec.upto fnExactVmLineSpec)

/-- 'laws.FnExactAtLine', WHERE WHAT IT READS IS OF BULK AT MOST 1048576: true; the input reads as it did. -/
def fnExactAtLineUptoRow : OpenClaim := { program := "ytnbkgpmibgdlmaa", sum := "015d9d19e96fdcb4503ce7908032248a8024b4e735ed613add3839a8da1f20ba", func := "loop.example/g00258/laws.FnExactAtLine", spec := "fnExactAtLine", apart := false, narrowed := true }
def FnExactAtLineUptoSaid : Prop := fnExactAtLineUptoRow.holds Try.pinned (OpenSpec.upto fnExactAtLineSpec)

end Rows
end Go.Proofs.Ytnbkgpmibgdlmaa
