/- How a machine has ended, told plainly. -/
import Derived.Test.YtfcmnmojejoeeaaOwP
namespace Go.Proofs.Ytfcmnmojejoeeaa
open Go.RowKit

structure OutcomeD where
  kind : Int
  value : Vl
  out : List ByteArray
structure OutcomeD.Ok (x : OutcomeD) : Prop where
  kind : IntOk x.kind
  value : x.value.Ok
  out : x.out.length ≤ maxLen
def OutcomeD.wt (x : OutcomeD) : Nat := x.value.s.size + wtR ByteArray.size x.out
def OutcomeC (w : World) (lo hi : Nat) (x : OutcomeD) (cs : List Value) : Prop :=
  x.Ok ∧ ∃ a_out c_out, cs = [.int .i64 x.kind, .int .i64 x.value.k, .int .i64 x.value.n, .string x.value.s, .slice a_out x.out.length c_out] ∧ x.out.length ≤ maxLen ∧ RowAt 1 StrC w lo hi x.out a_out
theorem OutcomeC_keeps : Keeps OutcomeC := by
  intro w w' lo hi lo' hi' x cs hl hh hc h
  obtain ⟨ok, a_out, c_out, rfl, l_out, r_out⟩ := h
  exact ⟨ok, a_out, c_out, rfl, l_out, r_out.later StrC_keeps hl hh hc⟩
def OutcomeOwn (w : World) (S : Nat → Prop) (x : OutcomeD) (cs : List Value) : Prop :=
  x.Ok ∧ ∃ V, Parts V S ∧ ∃ a_out c_out, cs = [.int .i64 x.kind, .int .i64 x.value.k, .int .i64 x.value.n, .string x.value.s, .slice a_out x.out.length c_out] ∧ x.out.length ≤ maxLen ∧ RowD 1 StrOwn w (V 0) x.out a_out
theorem OutcomeOwn_keeps : KeepsD OutcomeOwn := by
  intro w w' S S' x l hs hc h
  obtain ⟨ok, V, pv, a_out, c_out, rfl, l_out, r_out⟩ := h
  exact ⟨ok, V, pv.wide hs, a_out, c_out, rfl, l_out, r_out.later StrOwn_keeps (fun _ h => h) (fun b hb => hc b (pv.within 0 b hb))⟩
theorem OutcomeOwn_lies : Lies OutcomeOwn OutcomeC := by
  intro w S lo hi x l hS h
  obtain ⟨ok, V, pv, a_out, c_out, rfl, l_out, r_out⟩ := h
  exact ⟨ok, a_out, c_out, rfl, l_out, r_out.lies StrOwn_lies (fun b hb => hS b (pv.within 0 b hb))⟩
end Go.Proofs.Ytfcmnmojejoeeaa
