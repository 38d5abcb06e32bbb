/- What CodeOk tells, plainly. -/
import Derived.Test.YtgibejgemokljaaDatQ
namespace Go.Proofs.Ytgibejgemokljaa
open Go.RowKit

def inR (x a b : Int) : Bool := decide (a ≤ x ∧ x ≤ b)
/-- Whether an instruction of a proto is right, where there are n protos. -/
def instrOk (n : Nat) (p : ProtoD) (x : InstrD) : Bool :=
  if x.op = 1 ∨ x.op = 3 ∨ x.op = 5 then inR x.a 0 (p.slots - 1) else if x.op = 2 ∨ x.op = 4 then inR x.a 0 (p.ups.length - 1) else if x.op = 9 then inR x.a 1 (n - 1) else
  if x.op = 10 then inR x.a 0 8 else if x.op = 13 ∨ x.op = 14 ∨ x.op = 15 ∨ x.op = 16 then inR x.a 0 p.code.length else inR x.op 0 19
def headOk (p : ProtoD) : Bool := inR p.slots 0 200 && inR p.params 0 p.slots
def protoOk (n : Nat) (p : ProtoD) : Bool := headOk p && p.code.all (instrOk n p)
def firstOk : List ProtoD → Bool
  | [] => false
  | p :: _ => p.params == 0 && p.ups.length == 0
def codeOk (ps : List ProtoD) : Bool := firstOk ps && ps.all (protoOk ps.length)
theorem all_take {α : Type} (f : α → Bool) (xs : List α) (h : ∀ m (h : m < xs.length), f xs[m] = true) : xs.all f = true := by
  rw [List.all_eq_true]
  intro x hx
  obtain ⟨m, hm, rfl⟩ := List.getElem_of_mem hx
  exact h m hm
theorem all_not {α : Type} (f : α → Bool) (xs : List α) (m : Nat) (h : m < xs.length) (hf : f xs[m] = false) : xs.all f = false := by
  rw [List.all_eq_false]
  exact ⟨xs[m], List.getElem_mem h, by simp [hf]⟩
theorem ps_len (w : World) {lo hi : Nat} {x : ProtoD} {cs : List Value} (h : ProtoC w lo hi x cs) : cs.length = 5 := by
  obtain ⟨_, _, _, _, _, _, _, rfl, _⟩ := h
  rfl
end Go.Proofs.Ytgibejgemokljaa
