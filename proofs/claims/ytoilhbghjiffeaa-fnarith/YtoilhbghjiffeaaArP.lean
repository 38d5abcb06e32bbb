/- A quotient, down, times the divisor and the rest: the arithmetic. -/
import Derived.Test.YtoilhbghjiffeaaValC
namespace Go.Proofs.Ytoilhbghjiffeaa
open Go.RowKit

theorem wrap_k (x : Int) : ∃ k : Int, wrap64 x = x + k * 18446744073709551616 := by
  refine ⟨-((x + 9223372036854775808) / 18446744073709551616), ?_⟩
  unfold wrap64; omega
theorem wrap_add_k (x k : Int) : wrap64 (x + k * 18446744073709551616) = wrap64 x := by unfold wrap64; omega
theorem tmod_sign (x y : Int) (hy : y ≠ 0) : (0 ≤ x → 0 ≤ x.tmod y ∧ x.tmod y < y.natAbs) ∧ (x < 0 → x.tmod y ≤ 0 ∧ -(y.natAbs : Int) < x.tmod y) := by
  constructor
  · intro h
    rw [Int.tmod_eq_emod_of_nonneg h]
    exact ⟨Int.emod_nonneg _ hy, Int.emod_lt x hy⟩
  · intro h
    have e : x.tmod y = -((-x) % y) := by
      rw [← Int.tmod_eq_emod_of_nonneg (by omega), Int.neg_tmod]; omega
    rw [e]
    have h1 := Int.emod_nonneg (-x) hy
    have h2 := Int.emod_lt (-x) hy
    omega
theorem divD_form (x y : Int) : ∃ k t : Int, divD x y = t + k * 18446744073709551616 ∧ ((t = x.tdiv y ∧ ¬ (x.tmod y ≠ 0 ∧ ¬ (decide (x < 0) = decide (y < 0)))) ∨ (t = x.tdiv y - 1 ∧ x.tmod y ≠ 0 ∧ ¬ (decide (x < 0) = decide (y < 0)))) := by
  obtain ⟨k, hk⟩ := wrap_k (x.tdiv y)
  unfold divD
  by_cases h : x.tmod y ≠ 0 ∧ ¬ (decide (x < 0) = decide (y < 0))
  · rw [if_pos h]
    obtain ⟨k2, hk2⟩ := wrap_k (wrap64 (x.tdiv y) - 1)
    exact ⟨k + k2, x.tdiv y - 1, by rw [hk2, hk]; omega, .inr ⟨rfl, h⟩⟩
  · rw [if_neg h]
    exact ⟨k, x.tdiv y, hk, .inl ⟨rfl, h⟩⟩
theorem div_facts (x y : Int) (hy : y ≠ 0) (x0 : -9223372036854775808 ≤ x) (x1 : x ≤ 9223372036854775807) (y0 : -9223372036854775808 ≤ y) (y1 : y ≤ 9223372036854775807) :
    ∃ P m : Int, wrap64 (x - wrap64 (y * divD x y)) = m ∧ wrap64 (divD x y * y) = wrap64 P ∧ x = P + m ∧ ((0 < y ∧ 0 ≤ m ∧ m < y) ∨ (y < 0 ∧ m ≤ 0 ∧ y < m)) := by
  obtain ⟨k, t, hd, ht⟩ := divD_form x y
  have hx := Int.tmod_add_mul_tdiv x y
  have hs := tmod_sign x y hy
  have e1 : wrap64 (y * divD x y) = wrap64 (y * t) := by
    rw [hd, show y * (t + k * 18446744073709551616) = y * t + (y * k) * 18446744073709551616 by rw [Int.mul_add, Int.mul_assoc]]
    exact wrap_add_k _ _
  have e2 : wrap64 (divD x y * y) = wrap64 (y * t) := by rw [Int.mul_comm]; exact e1
  rw [e1, e2]
  generalize x.tmod y = m0 at *
  rcases ht with ⟨rfl, hn⟩ | ⟨rfl, hm, hn⟩
  · refine ⟨y * x.tdiv y, m0, ?_, rfl, by omega, ?_⟩
    · generalize y * x.tdiv y = P at *
      unfold wrap64; omega
    · by_cases hm : m0 = 0
      · omega
      · have hsg : decide (x < 0) = decide (y < 0) := by
          by_cases h : decide (x < 0) = decide (y < 0)
          · exact h
          · exact absurd ⟨hm, h⟩ hn
        simp only [decide_eq_decide] at hsg
        omega
  · have e3 : y * (x.tdiv y - 1) = y * x.tdiv y - y := by rw [Int.mul_sub, Int.mul_one]
    simp only [decide_eq_decide] at hn
    rw [e3]
    refine ⟨y * x.tdiv y - y, m0 + y, ?_, rfl, by omega, ?_⟩
    · generalize y * x.tdiv y = P at *
      unfold wrap64; omega
    · omega
/-- What the law asks of the numbers. -/
theorem div_law (x y q r : Int) (hy : y ≠ 0) (x0 : -9223372036854775808 ≤ x) (x1 : x ≤ 9223372036854775807) (y0 : -9223372036854775808 ≤ y) (y1 : y ≤ 9223372036854775807)
    (hq : q = divD x y) (hr : r = wrap64 (x - wrap64 (y * divD x y))) :
    wrap64 (wrap64 (q * y) + r) = x ∧ wrap64 (x - r) = wrap64 (q * y) ∧ ((0 < y ∧ 0 ≤ r ∧ r < y) ∨ (y < 0 ∧ r ≤ 0 ∧ y < r)) := by
  obtain ⟨P, m, h1, h2, h3, h4⟩ := div_facts x y hy x0 x1 y0 y1
  rw [h1] at hr
  subst hq hr
  rw [h2]
  refine ⟨?_, ?_, h4⟩
  · unfold wrap64; omega
  · rw [show x - r = P by omega]
end Go.Proofs.Ytoilhbghjiffeaa
