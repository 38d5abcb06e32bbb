/- How a machine has ended, plainly. -/
import Derived.Test.YtfcmnmojejoeeaaOutP
import Derived.Test.YtfcmnmojejoeeaaOwQ
namespace Go.Proofs.Ytfcmnmojejoeeaa
open Go.RowKit

def outV (x : VmD) : OutcomeD := if x.kind = 1 then ⟨0, x.value, x.out⟩ else if x.kind = 2 then ⟨1, x.value, x.out⟩ else ⟨2, ⟨0, 0, ⟨#[]⟩⟩, x.out⟩
theorem outV_out (x : VmD) : (outV x).out = x.out := by unfold outV; split; rfl; split <;> rfl
theorem outV_wt (x : VmD) : (outV x).wt ≤ x.wt := by
  have h : (outV x).out = x.out := outV_out x
  unfold OutcomeD.wt VmD.wt
  rw [h]
  have : (outV x).value.s.size ≤ x.value.s.size := by unfold outV; split; exact Nat.le_refl _; split; exact Nat.le_refl _; exact Nat.zero_le _
  omega
theorem nil_ok : (⟨0, 0, ⟨#[]⟩⟩ : Vl).Ok := ⟨⟨by decide, by decide, by decide, by decide, by decide⟩⟩
theorem out_own {x : VmD} {w : World} {S : Nat → Prop} {a : Option Addr} {c : Nat} {k : Int} {v : Vl} (he : outV x = ⟨k, v, x.out⟩) (hk : IntOk k) (hv : v.Ok) (hl : x.out.length ≤ maxLen) (hr : RowD 1 StrOwn w S x.out a) : OutcomeOwn w S (outV x) [.int .i64 k, .int .i64 v.k, .int .i64 v.n, .string v.s, .slice a x.out.length c] := by
  rw [he]
  exact ⟨⟨hk, hv, hl⟩, _, parts1 S, a, c, rfl, hl, hr⟩
end Go.Proofs.Ytfcmnmojejoeeaa
