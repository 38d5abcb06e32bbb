/- The line that comes next, plainly. -/
import Derived.Test.YtnbkgpmibgdlmaaVmP
namespace Go.Proofs.Ytnbkgpmibgdlmaa
open Go.RowKit

def nextI (ps : List ProtoD) (x : VmD) : Option InstrD :=
  match x.frames.getLast? with
  | none => none
  | some f => if 0 ≤ f.proto ∧ f.proto < ps.length then (match ps[f.proto.toNat]? with | none => none | some p => if 0 ≤ f.pc ∧ f.pc < p.code.length then p.code[f.pc.toNat]? else none) else none
def lineV (ps : List ProtoD) (x : VmD) : Int := if x.kind = 0 then (match nextI ps x with | none => 0 | some c => c.line) else 0
theorem next_none {ps : List ProtoD} {x : VmD} (h : x.frames.length < 1) : nextI ps x = none := by
  have : x.frames = [] := List.eq_nil_of_length_eq_zero (by omega)
  simp [nextI, this]
theorem next_some {ps : List ProtoD} {x : VmD} {n : Nat} (hn : n < x.frames.length) (h : n + 1 = x.frames.length) : nextI ps x = if 0 ≤ (x.frames[n]).proto ∧ (x.frames[n]).proto < ps.length then (match ps[(x.frames[n]).proto.toNat]? with | none => none | some p => if 0 ≤ (x.frames[n]).pc ∧ (x.frames[n]).pc < p.code.length then p.code[(x.frames[n]).pc.toNat]? else none) else none := by
  have : x.frames.getLast? = some x.frames[n] := by
    rw [List.getLast?_eq_getElem?, ← h]
    simp only [Nat.add_sub_cancel]
    exact List.getElem?_eq_getElem hn
  simp only [nextI, this]
theorem line_kind {ps : List ProtoD} {x : VmD} (h : ¬ x.kind = 0) : lineV ps x = 0 := by simp [lineV, h]
theorem line_none {ps : List ProtoD} {x : VmD} (h : nextI ps x = none) : lineV ps x = 0 := by simp [lineV, h]
theorem line_some {ps : List ProtoD} {x : VmD} {c : InstrD} (hk : x.kind = 0) (h : nextI ps x = some c) : lineV ps x = c.line := by simp [lineV, h, hk]
end Go.Proofs.Ytnbkgpmibgdlmaa
