/- The line that a machine is at, plainly. -/
import Derived.Test.YtnbkgpmibgdlmaaLinA
namespace Go.Proofs.Ytnbkgpmibgdlmaa
open Go.RowKit

/-- The instruction z of the proto q is what comes next in the last frame n. -/
structure Nx (ps : List ProtoD) (x : VmD) (n q z : Nat) (f : FrameD) (p : ProtoD) (c : InstrD) : Prop where
  last : n + 1 = x.frames.length
  frame : x.frames[n]? = some f
  proto : f.proto = (q : Int)
  pAt : ps[q]? = some p
  pc : f.pc = (z : Int)
  cAt : p.code[z]? = some c
def prevI (ps : List ProtoD) (x : VmD) : Option InstrD :=
  match x.frames.getLast? with
  | none => none
  | some f => match ps[f.proto.toNat]? with
    | none => none
    | some p => if 0 < f.pc then p.code[(f.pc - 1).toNat]? else none
def atV (ps : List ProtoD) (x : VmD) : Int :=
  if x.kind = 0 then (match nextI ps x with
    | none => 0
    | some c => match prevI ps x with
      | none => c.line
      | some b => if b.line = c.line then 0 else c.line) else 0
theorem at_kind {ps : List ProtoD} {x : VmD} (h : ¬ x.kind = 0) : atV ps x = 0 := by simp [atV, h]
theorem at_none {ps : List ProtoD} {x : VmD} (h : nextI ps x = none) : atV ps x = 0 := by simp [atV, h]
theorem Nx.getLast {ps : List ProtoD} {x : VmD} {n q z : Nat} {f : FrameD} {p : ProtoD} {c : InstrD} (h : Nx ps x n q z f p c) : x.frames.getLast? = some f := by
  rw [List.getLast?_eq_getElem?, ← h.last, Nat.add_sub_cancel, h.frame]
theorem Nx.next {ps : List ProtoD} {x : VmD} {n q z : Nat} {f : FrameD} {p : ProtoD} {c : InstrD} (h : Nx ps x n q z f p c) : nextI ps x = some c := by
  have hq : q < ps.length := (List.getElem?_eq_some_iff.mp h.pAt).1
  have hz : z < p.code.length := (List.getElem?_eq_some_iff.mp h.cAt).1
  unfold nextI
  rw [h.getLast]
  simp only [h.proto, h.pc, Int.toNat_natCast, h.pAt]
  rw [if_pos (by omega), if_pos (by omega), h.cAt]
theorem next_nx {ps : List ProtoD} {x : VmD} {c : InstrD} (h : nextI ps x = some c) : ∃ n q z f p, Nx ps x n q z f p c := by
  unfold nextI at h
  split at h
  · cases h
  · rename_i f hf
    split at h
    · rename_i hp
      split at h
      · cases h
      · rename_i p hpp
        split at h
        · rename_i hc
          rw [List.getLast?_eq_getElem?] at hf
          have hl := (List.getElem?_eq_some_iff.mp hf).1
          exact ⟨x.frames.length - 1, f.proto.toNat, f.pc.toNat, f, p, by omega, hf, by omega, hpp, by omega, h⟩
        · cases h
    · cases h
theorem at_first {ps : List ProtoD} {x : VmD} {n q : Nat} {f : FrameD} {p : ProtoD} {c : InstrD} (hk : x.kind = 0) (h : Nx ps x n q 0 f p c) : atV ps x = c.line := by
  have hq : prevI ps x = none := by
    have hpc := h.pc
    unfold prevI
    rw [h.getLast]
    simp only [h.proto, Int.toNat_natCast, h.pAt]
    rw [if_neg (by omega)]
  simp [atV, hk, h.next, hq]
theorem at_next {ps : List ProtoD} {x : VmD} {n q z y : Nat} {f : FrameD} {p : ProtoD} {c b : InstrD} (hk : x.kind = 0) (h : Nx ps x n q z f p c) (hz : z = y + 1) (hb : p.code[y]? = some b) : atV ps x = if b.line = c.line then 0 else c.line := by
  have hq : prevI ps x = some b := by
    have hpc := h.pc
    unfold prevI
    rw [h.getLast]
    simp only [h.proto, Int.toNat_natCast, h.pAt]
    rw [if_pos (by omega), show (f.pc - 1).toNat = y by omega, hb]
  simp [atV, hk, h.next, hq]
end Go.Proofs.Ytnbkgpmibgdlmaa
