/- CodeOk: the program. -/
import Derived.Test.YtgibejgemokljaaCodA
namespace Go.Proofs.Ytgibejgemokljaa
open Go.RowKit

set_option maxRecDepth 100000 in
set_option maxHeartbeats 800000 in
theorem in_impl (x a b : Int) (w : World) : Calls Try.prog 61 #[.int .i64 x, .int .i64 a, .int .i64 b] w fun e w' => e = .returned (.bool (inR x a b)) ∧ w = w' := by
  by_cases h1 : a ≤ x
  · go_enter Try.func61, Try.ntmps61
    go_wp2
    go_ret
    exact ⟨ret_bool (by simp [inR, h1]), rfl⟩
  · go_enter Try.func61, Try.ntmps61
    go_wp2
    go_ret
    exact ⟨ret_bool (by unfold inR; exact (decide_eq_false (by omega)).symm), rfl⟩
set_option maxRecDepth 100000 in
set_option maxHeartbeats 800000 in
theorem instr_impl (n : Nat) (p : ProtoD) (x : InstrD) (a_ups a_code a_names : Option Addr) (c_ups c_code c_names : Nat) (w : World) (hn : n ≤ 1048576) (hs : 0 ≤ p.slots ∧ p.slots ≤ 200) (hu : p.ups.length ≤ 1048576) (hc : p.code.length ≤ 1048576) :
    Calls Try.prog 103 #[.agg #[.int .i64 p.params, .int .i64 p.slots, .slice a_ups p.ups.length c_ups, .slice a_code p.code.length c_code, .slice a_names p.names.length c_names], .agg #[.int .i64 x.op, .int .i64 x.a, .int .i64 x.v.k, .int .i64 x.v.n, .string x.v.s, .string x.s, .int .i64 x.line], .int .i64 n] w fun e w' => e = .returned (.bool (instrOk n p x)) ∧ Below w.heap.size w w' := by
  obtain ⟨hs0, hs1⟩ := hs
  obtain ⟨pp, ps, pu, pc, pn⟩ := p
  obtain ⟨op, a, ⟨vk, vn, vs⟩, s, line⟩ := x
  dsimp only at hs0 hs1 hu hc ⊢
  generalize hU : pu.length = u at *
  generalize hD : pc.length = d at *
  by_cases h1 : op = 1
  · subst h1
    go_enter Try.func103, Try.ntmps103
    go_wp2_with fail
    refine (in_impl _ _ _ _).mono ?_
    rintro e w1 ⟨rfl, rfl⟩
    go_wp2_with fail
    go_ret
    exact ⟨ret_bool (by simp [instrOk]), by repeat (first | exact Below.refl _ _ | refine Below.alloc ?_ (by simp <;> omega) _)⟩
  by_cases h3 : op = 3
  · subst h3
    go_enter Try.func103, Try.ntmps103
    go_wp2_with fail
    refine (in_impl _ _ _ _).mono ?_
    rintro e w1 ⟨rfl, rfl⟩
    go_wp2_with fail
    go_ret
    exact ⟨ret_bool (by simp [instrOk]), by repeat (first | exact Below.refl _ _ | refine Below.alloc ?_ (by simp <;> omega) _)⟩
  by_cases h5 : op = 5
  · subst h5
    go_enter Try.func103, Try.ntmps103
    go_wp2_with fail
    refine (in_impl _ _ _ _).mono ?_
    rintro e w1 ⟨rfl, rfl⟩
    go_wp2_with fail
    go_ret
    exact ⟨ret_bool (by simp [instrOk]), by repeat (first | exact Below.refl _ _ | refine Below.alloc ?_ (by simp <;> omega) _)⟩
  by_cases h2 : op = 2
  · subst h2
    go_enter Try.func103, Try.ntmps103
    go_wp2_with fail
    refine (in_impl _ _ _ _).mono ?_
    rintro e w1 ⟨rfl, rfl⟩
    go_wp2_with fail
    go_ret
    exact ⟨ret_bool (by simp [instrOk, hU]), by repeat (first | exact Below.refl _ _ | refine Below.alloc ?_ (by simp <;> omega) _)⟩
  by_cases h4 : op = 4
  · subst h4
    go_enter Try.func103, Try.ntmps103
    go_wp2_with fail
    refine (in_impl _ _ _ _).mono ?_
    rintro e w1 ⟨rfl, rfl⟩
    go_wp2_with fail
    go_ret
    exact ⟨ret_bool (by simp [instrOk, hU]), by repeat (first | exact Below.refl _ _ | refine Below.alloc ?_ (by simp <;> omega) _)⟩
  by_cases h9 : op = 9
  · subst h9
    go_enter Try.func103, Try.ntmps103
    go_wp2_with fail
    refine (in_impl _ _ _ _).mono ?_
    rintro e w1 ⟨rfl, rfl⟩
    go_wp2_with fail
    go_ret
    exact ⟨ret_bool (by simp [instrOk]), by repeat (first | exact Below.refl _ _ | refine Below.alloc ?_ (by simp <;> omega) _)⟩
  by_cases h10 : op = 10
  · subst h10
    go_enter Try.func103, Try.ntmps103
    go_wp2_with fail
    refine (in_impl _ _ _ _).mono ?_
    rintro e w1 ⟨rfl, rfl⟩
    go_wp2_with fail
    go_ret
    exact ⟨ret_bool (by simp [instrOk]), by repeat (first | exact Below.refl _ _ | refine Below.alloc ?_ (by simp <;> omega) _)⟩
  by_cases h13 : op = 13
  · subst h13
    go_enter Try.func103, Try.ntmps103
    go_wp2_with fail
    refine (in_impl _ _ _ _).mono ?_
    rintro e w1 ⟨rfl, rfl⟩
    go_wp2_with fail
    go_ret
    exact ⟨ret_bool (by simp [instrOk, hD]), by repeat (first | exact Below.refl _ _ | refine Below.alloc ?_ (by simp <;> omega) _)⟩
  by_cases h14 : op = 14
  · subst h14
    go_enter Try.func103, Try.ntmps103
    go_wp2_with fail
    refine (in_impl _ _ _ _).mono ?_
    rintro e w1 ⟨rfl, rfl⟩
    go_wp2_with fail
    go_ret
    exact ⟨ret_bool (by simp [instrOk, hD]), by repeat (first | exact Below.refl _ _ | refine Below.alloc ?_ (by simp <;> omega) _)⟩
  by_cases h15 : op = 15
  · subst h15
    go_enter Try.func103, Try.ntmps103
    go_wp2_with fail
    refine (in_impl _ _ _ _).mono ?_
    rintro e w1 ⟨rfl, rfl⟩
    go_wp2_with fail
    go_ret
    exact ⟨ret_bool (by simp [instrOk, hD]), by repeat (first | exact Below.refl _ _ | refine Below.alloc ?_ (by simp <;> omega) _)⟩
  by_cases h16 : op = 16
  · subst h16
    go_enter Try.func103, Try.ntmps103
    go_wp2_with fail
    refine (in_impl _ _ _ _).mono ?_
    rintro e w1 ⟨rfl, rfl⟩
    go_wp2_with fail
    go_ret
    exact ⟨ret_bool (by simp [instrOk, hD]), by repeat (first | exact Below.refl _ _ | refine Below.alloc ?_ (by simp <;> omega) _)⟩
  · skip
    have g1 : (op == 1) = false := by simpa using h1
    have g3 : (op == 3) = false := by simpa using h3
    have g5 : (op == 5) = false := by simpa using h5
    have g2 : (op == 2) = false := by simpa using h2
    have g4 : (op == 4) = false := by simpa using h4
    have g9 : (op == 9) = false := by simpa using h9
    have g10 : (op == 10) = false := by simpa using h10
    have g13 : (op == 13) = false := by simpa using h13
    have g14 : (op == 14) = false := by simpa using h14
    have g15 : (op == 15) = false := by simpa using h15
    have g16 : (op == 16) = false := by simpa using h16
    go_enter Try.func103, Try.ntmps103
    go_wp2_with fail
    refine (in_impl _ _ _ _).mono ?_
    rintro e w1 ⟨rfl, rfl⟩
    go_wp2_with fail
    go_ret
    exact ⟨ret_bool (by simp [instrOk, h1, h3, h5, h2, h4, h9, h10, h13, h14, h15, h16]), by repeat (first | exact Below.refl _ _ | refine Below.alloc ?_ (by simp <;> omega) _)⟩
end Go.Proofs.Ytgibejgemokljaa
