/- The walk of FnArith: it returns true. -/
import Derived.Test.YtoilhbghjiffeaaValD
import Derived.Test.YtoilhbghjiffeaaValE
import Derived.Test.YtoilhbghjiffeaaDrawA
import Derived.Test.YtoilhbghjiffeaaArP
namespace Go.Proofs.Ytoilhbghjiffeaa
open Go.RowKit

theorem big_yes (a : Option Addr) (len cap : Nat) (w : World) (h : 1048576 < len) (h1 : len ≤ 9223372036854775807) : Calls Try.prog 23 #[.slice a len cap] w fun e w' => e = .returned (.bool true) ∧ w = w' := by
  go_enter Try.func23, Try.ntmps23
  go_wp2
  go_ret
  exact ⟨ret_bool (decide_eq_true (by omega)), rfl⟩
theorem big_no (a : Option Addr) (len cap : Nat) (w : World) (h : len ≤ 1048576) : Calls Try.prog 23 #[.slice a len cap] w fun e w' => e = .returned (.bool false) ∧ w = w' := by
  go_enter Try.func23, Try.ntmps23
  go_wp2
  go_ret
  exact ⟨ret_bool (decide_eq_false (by omega)), rfl⟩
theorem arV_two (op : ByteArray) (ka x kb y : Int) : ∃ kk nn u, arV op ka x kb y = .tuple #[.agg #[.int .i64 kk, .int .i64 nn, .string ⟨#[]⟩], .string u] := by
  by_cases h : ka = 2 ∧ kb = 2
  · unfold arV; rw [if_pos h]; exact ⟨_, _, _, rfl⟩
  · exact ⟨0, 0, _, arV_no h⟩
theorem arR_quo0 (x : Int) : arR ⟨#[47, 47]⟩ x 0 = (0, wDivide) := by simp [arR]
theorem arR_rem0 (x : Int) : arR ⟨#[37]⟩ x 0 = (0, wDivide) := by simp [arR]
theorem arR_quo (x y : Int) (hy : y ≠ 0) : arR ⟨#[47, 47]⟩ x y = (divD x y, ⟨#[]⟩) := by simp [arR, hy]
theorem arR_rem (x y : Int) (hy : y ≠ 0) : arR ⟨#[37]⟩ x y = (wrap64 (x - wrap64 (y * divD x y)), ⟨#[]⟩) := by simp [arR, hy]
theorem arR_mul (x y : Int) : arR ⟨#[42]⟩ x y = (wrap64 (x * y), ⟨#[]⟩) := by simp [arR]
theorem arR_add (x y : Int) : arR ⟨#[43]⟩ x y = (wrap64 (x + y), ⟨#[]⟩) := by simp [arR]
theorem arR_sub (x y : Int) : arR ⟨#[45]⟩ x y = (wrap64 (x - y), ⟨#[]⟩) := by simp [arR]

theorem word0 {op : ByteArray} {x kk nn : Int} {u : ByteArray} (h : arV op 2 x 2 0 = .tuple #[.agg #[.int .i64 kk, .int .i64 nn, .string ⟨#[]⟩], .string u]) :
    (u.toList == []) = false ∨ (op.toList == [43]) = true ∨ (op.toList == [45]) = true ∨ (op.toList == [42]) = true := by
  by_cases h1 : (op.toList == [43]) = true
  · exact .inr (.inl h1)
  by_cases h2 : (op.toList == [45]) = true
  · exact .inr (.inr (.inl h2))
  by_cases h3 : (op.toList == [42]) = true
  · exact .inr (.inr (.inr h3))
  left
  have hu : u = (arR op x 0).2 := by
    unfold arV at h
    rw [if_pos ⟨rfl, rfl⟩] at h
    simp only [Value.tuple.injEq, Array.mk.injEq, List.cons.injEq, Value.string.injEq, and_true] at h
    exact h.2.symm
  rw [hu]
  unfold arR
  rw [if_neg h1, if_neg h2, if_neg h3]
  (repeat' split) <;> first | contradiction | simp [wDivide, wArith, ByteArray.toList_eq]

set_option maxRecDepth 100000 in
set_option maxHeartbeats 6400000 in
theorem walk_arith (a : Option Addr) (len cap : Nat) (w : World) (hcode : IsCode w w.heap.size a len cap) :
    Calls Try.prog 8 #[.slice a len cap] w fun e w' => e = .returned (.bool true) ∧ Below w.heap.size w w' := by
  have hsm := hcode.small
  by_cases hbig : 1048576 < len
  · go_enter Try.func8, Try.ntmps8
    go_wp2_with (go_at_call 23; refine (big_yes a len cap w hbig hsm).mono ?_; rintro e w' ⟨rfl, rfl⟩)
    go_ret
    exact ⟨rfl, Below.refl _ _⟩
  · go_enter Try.func8, Try.ntmps8
    go_wp2_with (go_at_call 23; refine (big_no a len cap w (by omega)).mono ?_; rintro e w' ⟨rfl, rfl⟩)
    refine (drawArith_any a len cap w hcode).mono ?_
    rintro e w1 ⟨op, kx, x, sx, ky, y, sy, rfl, hop, hX, hY, B1⟩
    have hop' : op.size ≤ 9223372036854775807 := by omega
    clear hcode hbig
    by_cases hk : kx = 2 ∧ ky = 2
    · obtain ⟨rfl, rfl⟩ := hk
      obtain rfl : sx = ⟨#[]⟩ := hX.s0 (by decide)
      obtain rfl : sy = ⟨#[]⟩ := hY.s0 (by decide)
      obtain ⟨kk, nn, u, hV⟩ := arV_two op 2 x 2 y
      by_cases hy : y = 0
      · subst hy
        have HU : Hid ((u.toList == []) = false ∨ (op.toList == [43]) = true ∨ (op.toList == [45]) = true ∨ (op.toList == [42]) = true) := word0 hV
        have HV : Hid (arV op 2 x 2 0 = .tuple #[.agg #[.int .i64 kk, .int .i64 nn, .string ⟨#[]⟩], .string u]) := hV
        clear hV
        go_wp2_with fail
        refine (HV.out ▸ arith_impl op 2 x 2 0 ⟨#[]⟩ ⟨#[]⟩ _).mono ?_
        rintro e w2 ⟨rfl, hb2⟩
        obtain ⟨hc2, hf2⟩ := bcell hb2
        have hs2 := hb2.size
        simp at hs2
        have : w1.heap.size + 1 < w2.heap.size := by omega
        have : w1.heap.size < w2.heap.size := by omega
        have B2 : Below w.heap.size w w2 := Below.trans (by repeat (first | exact B1 | refine Below.setCell ?_ (by simp <;> omega) _ | refine Below.alloc ?_ (by have := B1.size; simp <;> omega) _)) (hb2.mono (by have := B1.size; simp <;> omega))
        go_wp2_with fail
        refine (HV.out ▸ arith_spec op 2 x 2 0 ⟨#[]⟩ ⟨#[]⟩ _).mono ?_
        rintro e w3 ⟨rfl, hb3⟩
        obtain ⟨hc3, hf3⟩ := bcell hb3
        have hs3 := hb3.size
        simp at hs3
        have : w1.heap.size + 1 < w3.heap.size := by omega
        have : w2.heap.size < w3.heap.size := by omega
        have : w1.heap.size < w3.heap.size := by omega
        have B3 : Below w.heap.size w w3 := Below.trans (by repeat (first | exact B2 | refine Below.setCell ?_ (by simp <;> omega) _ | refine Below.alloc ?_ (by have := B2.size; simp <;> omega) _)) (hb3.mono (by have := B2.size; simp <;> omega))
        go_wp2_with fail
        refine (arV_ref ⟨rfl, rfl⟩ (arR_quo0 x) (by decide) ▸ arith_impl ⟨#[47, 47]⟩ 2 x 2 0 ⟨#[]⟩ ⟨#[]⟩ _).mono ?_
        rintro e w4 ⟨rfl, hb4⟩
        unfold nilB wDivide
        obtain ⟨hc4, hf4⟩ := bcell hb4
        have hs4 := hb4.size
        simp at hs4
        have : w1.heap.size + 1 < w4.heap.size := by omega
        have : w2.heap.size < w4.heap.size := by omega
        have : w3.heap.size < w4.heap.size := by omega
        have : w1.heap.size < w4.heap.size := by omega
        have B4 : Below w.heap.size w w4 := Below.trans (by repeat (first | exact B3 | refine Below.setCell ?_ (by simp <;> omega) _ | refine Below.alloc ?_ (by have := B3.size; simp <;> omega) _)) (hb4.mono (by have := B3.size; simp <;> omega))
        go_wp2_with fail
        refine (arV_ref ⟨rfl, rfl⟩ (arR_rem0 x) (by decide) ▸ arith_impl ⟨#[37]⟩ 2 x 2 0 ⟨#[]⟩ ⟨#[]⟩ _).mono ?_
        rintro e w5 ⟨rfl, hb5⟩
        unfold nilB wDivide
        obtain ⟨hc5, hf5⟩ := bcell hb5
        have hs5 := hb5.size
        simp at hs5
        have : w1.heap.size + 1 < w5.heap.size := by omega
        have : w2.heap.size < w5.heap.size := by omega
        have : w3.heap.size < w5.heap.size := by omega
        have : w4.heap.size < w5.heap.size := by omega
        have : w1.heap.size < w5.heap.size := by omega
        have B5 : Below w.heap.size w w5 := Below.trans (by repeat (first | exact B4 | refine Below.setCell ?_ (by simp <;> omega) _ | refine Below.alloc ?_ (by have := B4.size; simp <;> omega) _)) (hb5.mono (by have := B4.size; simp <;> omega))
        go_wp2_with fail
        all_goals
          go_ret
          first
          | exact ⟨rfl, by repeat (first | exact B5 | refine Below.alloc ?_ B5.size _)⟩
          | exact ⟨ret_bool (by have := HU.out; simp_all), by repeat (first | exact B5 | refine Below.alloc ?_ B5.size _)⟩
      · skip
        obtain ⟨q, hq⟩ : ∃ q, q = divD x y := ⟨_, rfl⟩
        obtain ⟨r, hr⟩ : ∃ r, r = wrap64 (x - wrap64 (y * divD x y)) := ⟨_, rfl⟩
        obtain ⟨p, hp⟩ : ∃ p, p = wrap64 (q * y) := ⟨_, rfl⟩
        obtain ⟨hsum, hdif, hsg⟩ := div_law x y q r hy hX.n0 hX.n1 hY.n0 hY.n1 hq hr
        rw [← hp] at hsum hdif
        have HQ : Hid (arV ⟨#[47, 47]⟩ 2 x 2 y = .tuple #[.agg #[.int .i64 2, .int .i64 q, .string ⟨#[]⟩], .string ⟨#[]⟩]) := arV_num ⟨rfl, rfl⟩ (by rw [arR_quo x y hy, hq])
        have HR : Hid (arV ⟨#[37]⟩ 2 x 2 y = .tuple #[.agg #[.int .i64 2, .int .i64 r, .string ⟨#[]⟩], .string ⟨#[]⟩]) := arV_num ⟨rfl, rfl⟩ (by rw [arR_rem x y hy, hr])
        have HP : Hid (arV ⟨#[42]⟩ 2 q 2 y = .tuple #[.agg #[.int .i64 2, .int .i64 p, .string ⟨#[]⟩], .string ⟨#[]⟩]) := arV_num ⟨rfl, rfl⟩ (by rw [arR_mul, hp])
        have HS : Hid (arV ⟨#[43]⟩ 2 p 2 r = .tuple #[.agg #[.int .i64 2, .int .i64 x, .string ⟨#[]⟩], .string ⟨#[]⟩]) := arV_num ⟨rfl, rfl⟩ (by rw [arR_add, hsum])
        have HN : Hid (arV ⟨#[45]⟩ 2 x 2 r = .tuple #[.agg #[.int .i64 2, .int .i64 p, .string ⟨#[]⟩], .string ⟨#[]⟩]) := arV_num ⟨rfl, rfl⟩ (by rw [arR_sub, hdif])
        have HV : Hid (arV op 2 x 2 y = .tuple #[.agg #[.int .i64 kk, .int .i64 nn, .string ⟨#[]⟩], .string u]) := hV
        clear hV hq hr hp hsum hdif
        go_wp2_with fail
        refine (HV.out ▸ arith_impl op 2 x 2 y ⟨#[]⟩ ⟨#[]⟩ _).mono ?_
        rintro e w2 ⟨rfl, hb2⟩
        obtain ⟨hc2, hf2⟩ := bcell hb2
        have hs2 := hb2.size
        simp at hs2
        have : w1.heap.size + 1 < w2.heap.size := by omega
        have : w1.heap.size < w2.heap.size := by omega
        have B2 : Below w.heap.size w w2 := Below.trans (by repeat (first | exact B1 | refine Below.setCell ?_ (by simp <;> omega) _ | refine Below.alloc ?_ (by have := B1.size; simp <;> omega) _)) (hb2.mono (by have := B1.size; simp <;> omega))
        go_wp2_with fail
        refine (HV.out ▸ arith_spec op 2 x 2 y ⟨#[]⟩ ⟨#[]⟩ _).mono ?_
        rintro e w3 ⟨rfl, hb3⟩
        obtain ⟨hc3, hf3⟩ := bcell hb3
        have hs3 := hb3.size
        simp at hs3
        have : w1.heap.size + 1 < w3.heap.size := by omega
        have : w2.heap.size < w3.heap.size := by omega
        have : w1.heap.size < w3.heap.size := by omega
        have B3 : Below w.heap.size w w3 := Below.trans (by repeat (first | exact B2 | refine Below.setCell ?_ (by simp <;> omega) _ | refine Below.alloc ?_ (by have := B2.size; simp <;> omega) _)) (hb3.mono (by have := B2.size; simp <;> omega))
        go_wp2_with fail
        refine (HQ.out ▸ arith_impl ⟨#[47, 47]⟩ 2 x 2 y ⟨#[]⟩ ⟨#[]⟩ _).mono ?_
        rintro e w4 ⟨rfl, hb4⟩
        obtain ⟨hc4, hf4⟩ := bcell hb4
        have hs4 := hb4.size
        simp at hs4
        have : w1.heap.size + 1 < w4.heap.size := by omega
        have : w2.heap.size < w4.heap.size := by omega
        have : w3.heap.size < w4.heap.size := by omega
        have : w1.heap.size < w4.heap.size := by omega
        have B4 : Below w.heap.size w w4 := Below.trans (by repeat (first | exact B3 | refine Below.setCell ?_ (by simp <;> omega) _ | refine Below.alloc ?_ (by have := B3.size; simp <;> omega) _)) (hb4.mono (by have := B3.size; simp <;> omega))
        go_wp2_with fail
        refine (HR.out ▸ arith_impl ⟨#[37]⟩ 2 x 2 y ⟨#[]⟩ ⟨#[]⟩ _).mono ?_
        rintro e w5 ⟨rfl, hb5⟩
        obtain ⟨hc5, hf5⟩ := bcell hb5
        have hs5 := hb5.size
        simp at hs5
        have : w1.heap.size + 1 < w5.heap.size := by omega
        have : w2.heap.size < w5.heap.size := by omega
        have : w3.heap.size < w5.heap.size := by omega
        have : w4.heap.size < w5.heap.size := by omega
        have : w1.heap.size < w5.heap.size := by omega
        have B5 : Below w.heap.size w w5 := Below.trans (by repeat (first | exact B4 | refine Below.setCell ?_ (by simp <;> omega) _ | refine Below.alloc ?_ (by have := B4.size; simp <;> omega) _)) (hb5.mono (by have := B4.size; simp <;> omega))
        go_wp2_with fail
        refine (HP.out ▸ arith_impl ⟨#[42]⟩ 2 q 2 y ⟨#[]⟩ ⟨#[]⟩ _).mono ?_
        rintro e w6 ⟨rfl, hb6⟩
        obtain ⟨hc6, hf6⟩ := bcell hb6
        have hs6 := hb6.size
        simp at hs6
        have : w1.heap.size + 1 < w6.heap.size := by omega
        have : w2.heap.size < w6.heap.size := by omega
        have : w3.heap.size < w6.heap.size := by omega
        have : w4.heap.size < w6.heap.size := by omega
        have : w5.heap.size < w6.heap.size := by omega
        have : w1.heap.size < w6.heap.size := by omega
        have B6 : Below w.heap.size w w6 := Below.trans (by repeat (first | exact B5 | refine Below.setCell ?_ (by simp <;> omega) _ | refine Below.alloc ?_ (by have := B5.size; simp <;> omega) _)) (hb6.mono (by have := B5.size; simp <;> omega))
        go_wp2_with fail
        refine (HS.out ▸ arith_impl ⟨#[43]⟩ 2 p 2 r ⟨#[]⟩ ⟨#[]⟩ _).mono ?_
        rintro e w7 ⟨rfl, hb7⟩
        obtain ⟨hc7, hf7⟩ := bcell hb7
        have hs7 := hb7.size
        simp at hs7
        have : w1.heap.size + 1 < w7.heap.size := by omega
        have : w2.heap.size < w7.heap.size := by omega
        have : w3.heap.size < w7.heap.size := by omega
        have : w4.heap.size < w7.heap.size := by omega
        have : w5.heap.size < w7.heap.size := by omega
        have : w6.heap.size < w7.heap.size := by omega
        have : w1.heap.size < w7.heap.size := by omega
        have B7 : Below w.heap.size w w7 := Below.trans (by repeat (first | exact B6 | refine Below.setCell ?_ (by simp <;> omega) _ | refine Below.alloc ?_ (by have := B6.size; simp <;> omega) _)) (hb7.mono (by have := B6.size; simp <;> omega))
        go_wp2_with fail
        refine (HN.out ▸ arith_impl ⟨#[45]⟩ 2 x 2 r ⟨#[]⟩ ⟨#[]⟩ _).mono ?_
        rintro e w8 ⟨rfl, hb8⟩
        obtain ⟨hc8, hf8⟩ := bcell hb8
        have hs8 := hb8.size
        simp at hs8
        have : w1.heap.size + 1 < w8.heap.size := by omega
        have : w2.heap.size < w8.heap.size := by omega
        have : w3.heap.size < w8.heap.size := by omega
        have : w4.heap.size < w8.heap.size := by omega
        have : w5.heap.size < w8.heap.size := by omega
        have : w6.heap.size < w8.heap.size := by omega
        have : w7.heap.size < w8.heap.size := by omega
        have : w1.heap.size < w8.heap.size := by omega
        have B8 : Below w.heap.size w w8 := Below.trans (by repeat (first | exact B7 | refine Below.setCell ?_ (by simp <;> omega) _ | refine Below.alloc ?_ (by have := B7.size; simp <;> omega) _)) (hb8.mono (by have := B7.size; simp <;> omega))
        rcases hsg with ⟨h1, h2, h3⟩ | ⟨h1, h2, h3⟩
        all_goals
          go_wp2_with fail
          go_ret
          exact ⟨rfl, by repeat (first | exact B8 | refine Below.drew ?_ | refine Below.alloc ?_ B8.size _)⟩
    · skip
      have HV : Hid (arV op kx x ky y = .tuple #[.agg #[.int .i64 0, .int .i64 0, .string ⟨#[]⟩], .string ⟨#[97, 114, 105, 116, 104]⟩]) := arV_no hk
      go_wp2_with fail
      refine (HV.out ▸ arith_impl op kx x ky y sx sy _).mono ?_
      rintro e w2 ⟨rfl, hb2⟩
      obtain ⟨hc2, hf2⟩ := bcell hb2
      have hs2 := hb2.size
      simp at hs2
      have : w1.heap.size + 1 < w2.heap.size := by omega
      have : w1.heap.size < w2.heap.size := by omega
      have B2 : Below w.heap.size w w2 := Below.trans (by repeat (first | exact B1 | refine Below.setCell ?_ (by simp <;> omega) _ | refine Below.alloc ?_ (by have := B1.size; simp <;> omega) _)) (hb2.mono (by have := B1.size; simp <;> omega))
      go_wp2_with fail
      refine (HV.out ▸ arith_spec op kx x ky y sx sy _).mono ?_
      rintro e w3 ⟨rfl, hb3⟩
      obtain ⟨hc3, hf3⟩ := bcell hb3
      have hs3 := hb3.size
      simp at hs3
      have : w1.heap.size + 1 < w3.heap.size := by omega
      have : w2.heap.size < w3.heap.size := by omega
      have : w1.heap.size < w3.heap.size := by omega
      have B3 : Below w.heap.size w w3 := Below.trans (by repeat (first | exact B2 | refine Below.setCell ?_ (by simp <;> omega) _ | refine Below.alloc ?_ (by have := B2.size; simp <;> omega) _)) (hb3.mono (by have := B2.size; simp <;> omega))
      go_wp2_with fail
      refine (arV_no hk ▸ arith_impl ⟨#[47, 47]⟩ kx x ky y sx sy _).mono ?_
      rintro e w4 ⟨rfl, hb4⟩
      unfold nilB wArith
      obtain ⟨hc4, hf4⟩ := bcell hb4
      have hs4 := hb4.size
      simp at hs4
      have : w1.heap.size + 1 < w4.heap.size := by omega
      have : w2.heap.size < w4.heap.size := by omega
      have : w3.heap.size < w4.heap.size := by omega
      have : w1.heap.size < w4.heap.size := by omega
      have B4 : Below w.heap.size w w4 := Below.trans (by repeat (first | exact B3 | refine Below.setCell ?_ (by simp <;> omega) _ | refine Below.alloc ?_ (by have := B3.size; simp <;> omega) _)) (hb4.mono (by have := B3.size; simp <;> omega))
      go_wp2_with fail
      refine (arV_no hk ▸ arith_impl ⟨#[37]⟩ kx x ky y sx sy _).mono ?_
      rintro e w5 ⟨rfl, hb5⟩
      unfold nilB wArith
      obtain ⟨hc5, hf5⟩ := bcell hb5
      have hs5 := hb5.size
      simp at hs5
      have : w1.heap.size + 1 < w5.heap.size := by omega
      have : w2.heap.size < w5.heap.size := by omega
      have : w3.heap.size < w5.heap.size := by omega
      have : w4.heap.size < w5.heap.size := by omega
      have : w1.heap.size < w5.heap.size := by omega
      have B5 : Below w.heap.size w w5 := Below.trans (by repeat (first | exact B4 | refine Below.setCell ?_ (by simp <;> omega) _ | refine Below.alloc ?_ (by have := B4.size; simp <;> omega) _)) (hb5.mono (by have := B4.size; simp <;> omega))
      go_wp2_with fail
      all_goals
        go_ret
        exact ⟨rfl, by repeat (first | exact B5 | refine Below.alloc ?_ B5.size _)⟩
end Go.Proofs.Ytoilhbghjiffeaa
