/- What is told of a name, plainly. -/
import Derived.Test.YtnbkgpmibgdlmaaLinA
import Derived.Test.YtnbkgpmibgdlmaaInI
import Derived.Test.YtnbkgpmibgdlmaaValR
import Derived.Test.YtnbkgpmibgdlmaaOwP
import Derived.BigQuiet
import Derived.Deep.QuietTactic
namespace Go.Proofs.Ytnbkgpmibgdlmaa
open Go.RowKit

/-- The number of a cell that stands at a place of a list of slots, where both are there. -/
def cellAt (nc : Nat) (sl : List Int) (k : Int) : Option Nat :=
  if 0 ≤ k ∧ k < sl.length then (match sl[k.toNat]? with | none => none | some c => if 0 ≤ c ∧ c < nc then some c.toNat else none) else none
def cellI : Option Nat → Int
  | none => -1
  | some c => c
/-- The names that can be named. -/
def inSc (pc : Int) (n : NameD) : Bool := decide (n.frm ≤ pc ∧ pc < n.upto)
def scope (ps : List ProtoD) (f : FrameD) : List NameD :=
  if 0 ≤ f.proto ∧ f.proto < ps.length then (match ps[f.proto.toNat]? with | none => [] | some p => p.names.filter (inSc f.pc)) else []
/-- What there is to see of a name. -/
def seeName (x : VmD) (f : FrameD) (n : NameD) : Option Vl :=
  match cellAt x.heap.cells.length f.slots n.slot with
  | none => none
  | some c => x.heap.cells[c]?
def varV (ps : List ProtoD) (x : VmD) (s : ByteArray) : Option Vl :=
  match x.frames.getLast? with
  | none => none
  | some f => match (scope ps f).reverse.find? (fun n => decide (n.text = s)) with
    | none => none
    | some n => seeName x f n
theorem cellAt_out {nc : Nat} {sl : List Int} {k : Int} (h : ¬ (0 ≤ k ∧ k < sl.length)) : cellAt nc sl k = none := if_neg h
theorem cellAt_in {nc : Nat} {sl : List Int} {k : Nat} (h : k < sl.length) : cellAt nc sl k = if 0 ≤ sl[k] ∧ sl[k] < nc then some sl[k].toNat else none := by
  unfold cellAt
  rw [if_pos (by omega), Int.toNat_natCast, List.getElem?_eq_getElem h]
end Go.Proofs.Ytnbkgpmibgdlmaa
