/- Reckoning: both functions' walks, one answer. -/
import Derived.Test.YtnjdklanpjdhlaaValN
namespace Go.Proofs.Ytnjdklanpjdhlaa
open Go.RowKit

/-- What a sign gives of two numbers, and the word of refusal. -/
def divD (x y : Int) : Int := if x.tmod y ≠ 0 ∧ ¬ (decide (x < 0) = decide (y < 0)) then wrap64 (wrap64 (x.tdiv y) - 1) else wrap64 (x.tdiv y)

set_option maxRecDepth 100000 in
set_option maxHeartbeats 800000 in
theorem quot_spec (x y : Int) (w : World) (hy : y ≠ 0) :
    Calls Try.prog 74 #[.int .i64 x, .int .i64 y] w fun e w' => e = .returned (.int .i64 (divD x y)) ∧ w = w' := by
  go_enter Try.func74, Try.ntmps74
  go_wp2
  all_goals
    go_ret
    exact ⟨ret_int (by simp_all [divD]), rfl⟩

def wArith : ByteArray := ⟨#[97, 114, 105, 116, 104]⟩
def wDivide : ByteArray := ⟨#[100, 105, 118, 105, 100, 101]⟩
/-- What a sign gives of two numbers, and the word of refusal. -/
def arR (op : ByteArray) (x y : Int) : Int × ByteArray :=
  if (op.toList == [43]) = true then (wrap64 (x + y), ⟨#[]⟩) else if (op.toList == [45]) = true then (wrap64 (x - y), ⟨#[]⟩) else if (op.toList == [42]) = true then (wrap64 (x * y), ⟨#[]⟩) else
  if (op.toList == [47, 47]) = true then (if y = 0 then (0, wDivide) else (divD x y, ⟨#[]⟩)) else
  if (op.toList == [37]) = true then (if y = 0 then (0, wDivide) else (wrap64 (x - wrap64 (y * divD x y)), ⟨#[]⟩)) else (0, wArith)

/-- The answer of Arith at two values. -/
def arV (op : ByteArray) (ka x kb y : Int) : Value :=
  if ka = 2 ∧ kb = 2 then .tuple #[.agg #[.int .i64 (if (arR op x y).2 = ⟨#[]⟩ then 2 else 0), .int .i64 (arR op x y).1, .string ⟨#[]⟩], .string (arR op x y).2] else .tuple #[.agg #[.int .i64 0, .int .i64 0, .string ⟨#[]⟩], .string wArith]
theorem arV_no {op : ByteArray} {ka x kb y : Int} (h : ¬(ka = 2 ∧ kb = 2)) : arV op ka x kb y = .tuple #[nilB, .string wArith] := if_neg h
theorem arR_ref {op : ByteArray} {x y n : Int} {u : ByteArray} (h : arR op x y = (n, u)) (hu : u ≠ ⟨#[]⟩) : n = 0 := by
  have h1 : n = (arR op x y).1 := by rw [h]
  have h2 : u = (arR op x y).2 := by rw [h]
  subst h1 h2
  revert hu
  unfold arR
  repeat' split
  all_goals simp
theorem arV_num {op : ByteArray} {ka kb x y n : Int} (h2 : ka = 2 ∧ kb = 2) (h : arR op x y = (n, ⟨#[]⟩)) : arV op ka x kb y = .tuple #[numB n, .string ⟨#[]⟩] := by simp [arV, h, numB, h2]
theorem arV_ref {op : ByteArray} {ka kb x y : Int} {t : ByteArray} (h2 : ka = 2 ∧ kb = 2) (h : arR op x y = (0, t)) (ht : t ≠ ⟨#[]⟩) : arV op ka x kb y = .tuple #[nilB, .string t] := by simp [arV, h, ht, nilB, h2]
end Go.Proofs.Ytnjdklanpjdhlaa
