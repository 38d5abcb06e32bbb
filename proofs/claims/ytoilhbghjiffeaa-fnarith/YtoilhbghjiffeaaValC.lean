/- Reckoning: both functions' walks, one answer. -/
import Derived.Test.YtoilhbghjiffeaaValB
import Derived.Test.YtoilhbghjiffeaaValO
namespace Go.Proofs.Ytoilhbghjiffeaa
open Go.RowKit

/-- What a sign gives of two numbers, and the word of refusal. -/
def divD (x y : Int) : Int := if x.tmod y ≠ 0 ∧ ¬ (decide (x < 0) = decide (y < 0)) then wrap64 (wrap64 (x.tdiv y) - 1) else wrap64 (x.tdiv y)

set_option maxRecDepth 100000 in
set_option maxHeartbeats 800000 in
theorem quot_impl (x y : Int) (w : World) (hy : y ≠ 0) :
    Calls Try.prog 50 #[.int .i64 x, .int .i64 y] w fun e w' => e = .returned (.int .i64 (divD x y)) ∧ w = w' := by
  go_enter Try.func50, Try.ntmps50
  go_wp2
  all_goals
    go_ret
    exact ⟨ret_int (by simp_all [divD]), rfl⟩
set_option maxRecDepth 100000 in
set_option maxHeartbeats 800000 in
theorem quot_spec (x y : Int) (w : World) (hy : y ≠ 0) :
    Calls Try.prog 32 #[.int .i64 x, .int .i64 y] w fun e w' => e = .returned (.int .i64 (divD x y)) ∧ w = w' := by
  go_enter Try.func32, Try.ntmps32
  go_wp2
  all_goals
    go_ret
    exact ⟨ret_int (by simp_all [divD]), rfl⟩

def numB (n : Int) : Value := .agg #[.int .i64 2, .int .i64 n, .string ⟨#[]⟩]
def nilB : Value := .agg #[.int .i64 0, .int .i64 0, .string ⟨#[]⟩]
def wArith : ByteArray := ⟨#[97, 114, 105, 116, 104]⟩
def wDivide : ByteArray := ⟨#[100, 105, 118, 105, 100, 101]⟩
/-- What a sign gives of two numbers, and the word of refusal. -/
def arR (op : ByteArray) (x y : Int) : Int × ByteArray :=
  if (op.toList == [43]) = true then (wrap64 (x + y), ⟨#[]⟩) else if (op.toList == [45]) = true then (wrap64 (x - y), ⟨#[]⟩) else if (op.toList == [42]) = true then (wrap64 (x * y), ⟨#[]⟩) else
  if (op.toList == [47, 47]) = true then (if y = 0 then (0, wDivide) else (divD x y, ⟨#[]⟩)) else
  if (op.toList == [37]) = true then (if y = 0 then (0, wDivide) else (wrap64 (x - wrap64 (y * divD x y)), ⟨#[]⟩)) else (0, wArith)

set_option maxRecDepth 100000 in
set_option maxHeartbeats 800000 in
theorem reckon_impl (op : ByteArray) (x y : Int) (w : World) :
    Calls Try.prog 33 #[.string op, .int .i64 x, .int .i64 y] w fun e w' => e = .returned (.tuple #[.int .i64 (arR op x y).1, .string (arR op x y).2]) ∧ w = w' := by
  by_cases hy : y = 0
  · subst hy
    go_enter Try.func33, Try.ntmps33
    go_wp2
    all_goals
      go_ret2
      exact ⟨ret_val (by simp_all [arR, wArith, wDivide, show wrap64 0 = 0 from IntWalk.wrap64_in 0 ⟨by decide, by decide⟩]), rfl⟩
  · go_enter Try.func33, Try.ntmps33
    go_wp2_with (go_at_call 50; refine (quot_impl _ _ _ hy).mono ?_; rintro e w' ⟨rfl, rfl⟩)
    all_goals
      go_ret2
      exact ⟨ret_val (by simp_all [arR, wArith]), rfl⟩

theorem bcell {W w1 : World} (hb : Below W.heap.size W w1) : (∀ b o, b < W.heap.size → w1.cell? ⟨b, o, none⟩ = W.cell? ⟨b, o, none⟩) ∧ (∀ b o, b < W.heap.size → w1.frozen? ⟨b, o, none⟩ = W.frozen? ⟨b, o, none⟩) :=
  ⟨fun b o h => hb.cell (p := ⟨b, o, none⟩) h, fun b o h => hb.frozen (p := ⟨b, o, none⟩) h⟩

set_option maxRecDepth 100000 in
set_option maxHeartbeats 800000 in
theorem int_spec (n : Int) (w : World) : Calls Try.prog 31 #[.int .i64 n] w fun e w' => e = .returned (numB n) ∧ Below w.heap.size w w' := by
  go_enter Try.func31, Try.ntmps31
  go_wp2
  exact bodyPost_ret (v := numB n) (by simp [numB, results, Try.results31, go_sem]) rfl ⟨rfl, by repeat (first | exact Below.refl _ _ | refine Below.setCell ?_ (by simp <;> omega) _ | refine Below.alloc ?_ (by simp <;> omega) _)⟩
set_option maxRecDepth 100000 in
set_option maxHeartbeats 800000 in
theorem int_impl (n : Int) (w : World) : Calls Try.prog 34 #[.int .i64 n] w fun e w' => e = .returned (numB n) ∧ Below w.heap.size w w' := by
  go_enter Try.func34, Try.ntmps34
  go_wp2
  exact bodyPost_ret (v := numB n) (by simp [numB, results, Try.results34, go_sem]) rfl ⟨rfl, by repeat (first | exact Below.refl _ _ | refine Below.setCell ?_ (by simp <;> omega) _ | refine Below.alloc ?_ (by simp <;> omega) _)⟩

/-- The answer of Arith at two values. -/
def arV (op : ByteArray) (ka x kb y : Int) : Value :=
  if ka = 2 ∧ kb = 2 then .tuple #[.agg #[.int .i64 (if (arR op x y).2 = ⟨#[]⟩ then 2 else 0), .int .i64 (arR op x y).1, .string ⟨#[]⟩], .string (arR op x y).2] else .tuple #[.agg #[.int .i64 0, .int .i64 0, .string ⟨#[]⟩], .string wArith]
theorem arV_no {op : ByteArray} {ka x kb y : Int} (h : ¬(ka = 2 ∧ kb = 2)) : arV op ka x kb y = .tuple #[nilB, .string wArith] := if_neg h
theorem arR_ref {op : ByteArray} {x y n : Int} {u : ByteArray} (h : arR op x y = (n, u)) (hu : u ≠ ⟨#[]⟩) : n = 0 := by
  have h1 : n = (arR op x y).1 := by rw [h]
  have h2 : u = (arR op x y).2 := by rw [h]
  subst h1 h2
  revert hu
  unfold arR
  repeat' split
  all_goals simp
theorem arV_num {op : ByteArray} {ka kb x y n : Int} (h2 : ka = 2 ∧ kb = 2) (h : arR op x y = (n, ⟨#[]⟩)) : arV op ka x kb y = .tuple #[numB n, .string ⟨#[]⟩] := by simp [arV, h, numB, h2]
theorem arV_ref {op : ByteArray} {ka kb x y : Int} {t : ByteArray} (h2 : ka = 2 ∧ kb = 2) (h : arR op x y = (0, t)) (ht : t ≠ ⟨#[]⟩) : arV op ka x kb y = .tuple #[nilB, .string t] := by simp [arV, h, ht, nilB, h2]
end Go.Proofs.Ytoilhbghjiffeaa
