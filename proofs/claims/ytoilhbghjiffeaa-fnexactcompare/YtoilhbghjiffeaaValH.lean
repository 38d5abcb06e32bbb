/- Comparing: the program's walk. -/
import Derived.Test.YtoilhbghjiffeaaValF
namespace Go.Proofs.Ytoilhbghjiffeaa
open Go.RowKit

def ordV (ka x : Int) (s : ByteArray) (kb y : Int) (t : ByteArray) : Int × Bool :=
  if ka = 2 then (cmpIV x (if kb = 2 then y else 0), kb == 2) else if ka = 3 then (cmpSV s (if kb = 3 then t else ByteArray.empty), kb == 3) else (0, false)
set_option maxRecDepth 100000 in
set_option maxHeartbeats 800000 in
theorem order_any (ka x kb y : Int) (s t : ByteArray) (w : World) :
    Calls Try.prog 37 #[datV ka x s, datV kb y t] w fun e w' => e = .returned (.tuple #[.int .i64 (ordV ka x s kb y t).1, .bool (ordV ka x s kb y t).2]) ∧ w = w' := by
  have a1 := fun w => as_int ka x s w
  have a2 := fun w => as_int kb y t w
  have a3 := fun w => as_text ka x s w
  have a4 := fun w => as_text kb y t w
  by_cases h2 : ka = 2
  · subst h2
    obtain ⟨y', hy⟩ : ∃ y', (if kb = 2 then y else 0) = y' := ⟨_, rfl⟩
    simp only [if_true] at a1
    rw [hy] at a2
    have HY : Hid ((if kb = 2 then y else 0) = y') := hy
    clear a3 a4 hy
    go_enter Try.func37, Try.ntmps37
    go_wp2_with (go_at_call 51; refine (cmpI _ _ _).mono ?_; rintro e w1 ⟨rfl, rfl⟩)
    go_ret2
    exact ⟨ret_val (by simp [ordV, HY.out]), rfl⟩
  · have h2e : (ka == 2) = false := by simpa using h2
    by_cases h3 : ka = 3
    · subst h3
      obtain ⟨y', hy⟩ : ∃ y', (if kb = 3 then t else ByteArray.empty) = y' := ⟨_, rfl⟩
      simp only [if_true, h2, h2e, if_false] at a1 a3
      rw [hy] at a4
      have HY : Hid ((if kb = 3 then t else ByteArray.empty) = y') := hy
      clear a2 hy
      go_enter Try.func37, Try.ntmps37
      go_wp2_with (go_at_call 52; refine (cmpS _ _ _).mono ?_; rintro e w1 ⟨rfl, rfl⟩)
      go_ret2
      exact ⟨ret_val (by simp [ordV, HY.out]), rfl⟩
    · have h3e : (ka == 3) = false := by simpa using h3
      simp only [h2, h2e, h3, h3e, if_false] at a1 a3
      clear a2 a4
      go_enter Try.func37, Try.ntmps37
      go_wp2_with fail
      go_ret2
      exact ⟨ret_val (by simp [ordV, h2, h3]), rfl⟩

def holdV (op : ByteArray) (o : Int) : Bool × Bool :=
  if (op.toList == [60]) = true then (decide (o < 0), true) else if (op.toList == [60, 61]) = true then (decide (o ≤ 0), true) else if (op.toList == [62]) = true then (decide (0 < o), true) else if (op.toList == [62, 61]) = true then (decide (0 ≤ o), true) else (false, false)
set_option maxRecDepth 100000 in
set_option maxHeartbeats 800000 in
theorem holds_any (op : ByteArray) (o : Int) (w : World) :
    Calls Try.prog 38 #[.string op, .int .i64 o] w fun e w' => e = .returned (.tuple #[.bool (holdV op o).1, .bool (holdV op o).2]) ∧ w = w' := by
  go_enter Try.func38, Try.ntmps38
  go_wp2
  all_goals
    go_ret2
    exact ⟨ret_val (by simp_all [holdV]), rfl⟩
end Go.Proofs.Ytoilhbghjiffeaa
