/- Comparing: what the two functions' parts give. -/
import Derived.Test.YtoilhbghjiffeaaValC
namespace Go.Proofs.Ytoilhbghjiffeaa
open Go.RowKit

set_option maxRecDepth 100000 in
set_option maxHeartbeats 800000 in
theorem bool_spec (b : Bool) (w : World) : Calls Try.prog 35 #[.bool b] w fun e w' => e = .returned (.agg #[.int .i64 1, .int .i64 (if b then 1 else 0), .string ⟨#[]⟩]) ∧ Below w.heap.size w w' := by
  cases b
  · go_enter Try.func35, Try.ntmps35
    go_wp2
    exact bodyPost_ret (v := .agg #[.int .i64 1, .int .i64 0, .string ⟨#[]⟩]) (by simp [results, Try.results35, go_sem]) rfl ⟨rfl, by repeat (first | exact Below.refl _ _ | refine Below.setCell ?_ (by simp <;> omega) _ | refine Below.alloc ?_ (by simp <;> omega) _)⟩
  · go_enter Try.func35, Try.ntmps35
    go_wp2
    exact bodyPost_ret (v := .agg #[.int .i64 1, .int .i64 1, .string ⟨#[]⟩]) (by simp [results, Try.results35, go_sem]) rfl ⟨rfl, by repeat (first | exact Below.refl _ _ | refine Below.setCell ?_ (by simp <;> omega) _ | refine Below.alloc ?_ (by simp <;> omega) _)⟩
set_option maxRecDepth 100000 in
set_option maxHeartbeats 800000 in
theorem bool_impl (b : Bool) (w : World) : Calls Try.prog 36 #[.bool b] w fun e w' => e = .returned (.agg #[.int .i64 1, .int .i64 (if b then 1 else 0), .string ⟨#[]⟩]) ∧ Below w.heap.size w w' := by
  cases b
  · go_enter Try.func36, Try.ntmps36
    go_wp2
    exact bodyPost_ret (v := .agg #[.int .i64 1, .int .i64 0, .string ⟨#[]⟩]) (by simp [results, Try.results36, go_sem]) rfl ⟨rfl, by repeat (first | exact Below.refl _ _ | refine Below.setCell ?_ (by simp <;> omega) _ | refine Below.alloc ?_ (by simp <;> omega) _)⟩
  · go_enter Try.func36, Try.ntmps36
    go_wp2
    exact bodyPost_ret (v := .agg #[.int .i64 1, .int .i64 1, .string ⟨#[]⟩]) (by simp [results, Try.results36, go_sem]) rfl ⟨rfl, by repeat (first | exact Below.refl _ _ | refine Below.setCell ?_ (by simp <;> omega) _ | refine Below.alloc ?_ (by simp <;> omega) _)⟩

/-- How two numbers, and two texts, lie to each other. -/
def cmpIV (x y : Int) : Int := if x < y then -1 else if y < x then 1 else 0
def cmpSV (x y : ByteArray) : Int := if Op.bytesLess x.toList y.toList = true then -1 else if (x.toList == y.toList) = true then 0 else 1
set_option maxRecDepth 100000 in
set_option maxHeartbeats 800000 in
theorem cmpI (x y : Int) (w : World) : Calls Try.prog 51 #[.int .i64 x, .int .i64 y] w fun e w' => e = .returned (.int .i64 (cmpIV x y)) ∧ w = w' := by
  go_enter Try.func51, Try.ntmps51
  go_wp2_with (go_at_call 54; go_in)
  all_goals
    go_ret
    exact ⟨ret_int (by unfold cmpIV; (repeat' split) <;> first | rfl | omega), rfl⟩
set_option maxRecDepth 100000 in
set_option maxHeartbeats 800000 in
theorem cmpS (x y : ByteArray) (w : World) : Calls Try.prog 52 #[.string x, .string y] w fun e w' => e = .returned (.int .i64 (cmpSV x y)) ∧ w = w' := by
  go_enter Try.func52, Try.ntmps52
  go_wp2_with (go_at_call 55; go_in)
  all_goals
    go_ret
    exact ⟨ret_int (by simp_all [cmpSV]), rfl⟩

def bvV (b : Bool) : Value := .tuple #[.agg #[.int .i64 1, .int .i64 (if b then 1 else 0), .string ⟨#[]⟩], .string ⟨#[]⟩]
def refV : Value := .tuple #[.agg #[.int .i64 0, .int .i64 0, .string ⟨#[]⟩], .string ⟨#[99, 111, 109, 112, 97, 114, 101]⟩]
def cmR (op : ByteArray) (less same : Bool) : Value :=
  if (op.toList == [60]) = true then bvV less else if (op.toList == [60, 61]) = true then bvV (less || same) else if (op.toList == [62]) = true then bvV (!less && !same) else if (op.toList == [62, 61]) = true then bvV (!less) else refV
def cmE (ka x : Int) (s : ByteArray) (kb y : Int) (t : ByteArray) : Bool := decide (ka = kb) && decide (x = y) && (s.toList == t.toList)
/-- The answer of Compare at two values. -/
def cmV (op : ByteArray) (ka x : Int) (s : ByteArray) (kb y : Int) (t : ByteArray) : Value :=
  if (op.toList == [61, 61]) = true then bvV (cmE ka x s kb y t) else if (op.toList == [126, 61]) = true then bvV (!cmE ka x s kb y t) else
  if ka = 2 ∧ kb = 2 then cmR op (decide (x < y)) (x == y) else if ka = 3 ∧ kb = 3 then cmR op (Op.bytesLess s.toList t.toList) (s.toList == t.toList) else refV
end Go.Proofs.Ytoilhbghjiffeaa
