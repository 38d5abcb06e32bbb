/- The instruction at a place, plainly, and the program's. -/
import Derived.Test.YtnbkgpmibgdlmaaLinA
import Derived.Test.YtnbkgpmibgdlmaaInI
import Derived.Test.YtnbkgpmibgdlmaaValR
import Derived.Test.YtnbkgpmibgdlmaaOwP
import Derived.BigQuiet
import Derived.Deep.QuietTactic
namespace Go.Proofs.Ytnbkgpmibgdlmaa
open Go.RowKit

theorem below_drewN {b k : Nat} {w w' : World} (h : Below b w w') : Below b w (w'.drewN k) := ⟨h.os, h.tape, h.output, h.size, h.block⟩
def insAt (ps : List ProtoD) (n pc : Int) : Option InstrD :=
  if 0 ≤ n ∧ n < ps.length then (match ps[n.toNat]? with | none => none | some p => if 0 ≤ pc ∧ pc < p.code.length then p.code[pc.toNat]? else none) else none
/-- What the program answers of the instruction at a place. -/
def IsP (o : Option InstrD) (e : Ending) : Prop := ∃ (c : InstrD) (b : Bool), e = .returned (.tuple #[.agg #[.int .i64 c.op, .int .i64 c.a, .int .i64 c.v.k, .int .i64 c.v.n, .string c.v.s, .string c.s, .int .i64 c.line], .bool b]) ∧ o = if b = true then some c else none
theorem is_none {o : Option InstrD} (h : o = none) : IsP o (.returned (.tuple #[.agg #[.int .i64 0, .int .i64 0, .int .i64 0, .int .i64 0, .string ⟨#[]⟩, .string ⟨#[]⟩, .int .i64 0], .bool false])) :=
  ⟨⟨0, 0, ⟨0, 0, ⟨#[]⟩⟩, ⟨#[]⟩, 0⟩, false, rfl, by simp [h]⟩
theorem is_some {o : Option InstrD} (c : InstrD) (h : o = some c) : IsP o (.returned (.tuple #[.agg #[.int .i64 c.op, .int .i64 c.a, .int .i64 c.v.k, .int .i64 c.v.n, .string c.v.s, .string c.s, .int .i64 c.line], .bool true])) :=
  ⟨c, true, rfl, by simp [h]⟩
set_option maxRecDepth 100000 in
set_option maxHeartbeats 3200000 in
theorem ins_impl (ps : List ProtoD) (a : Option Addr) (ca lo hi : Nat) (n pc : Int) (w : World) (hh : hi ≤ w.heap.size) (hn : ps.length ≤ maxLen) (hS : RowAt 5 ProtoC w lo hi ps a) :
    Calls Try.prog 87 #[.slice a ps.length ca, .int .i64 n, .int .i64 pc] w fun e w' => IsP (insAt ps n pc) e ∧ Below w.heap.size w w' := by
  unfold maxLen at hn
  have HN : insAt ps n pc = insAt ps n pc := rfl
  conv at HN => rhs; unfold insAt
  by_cases hp : 0 ≤ n ∧ n ≤ (ps.length : Int) - 1
  · obtain ⟨q, hq⟩ : ∃ q : Nat, n = q := ⟨n.toNat, by omega⟩
    have hql : q < ps.length := by omega
    rw [if_pos (by omega)] at HN
    subst hq
    rw [Int.toNat_natCast, List.getElem?_eq_getElem hql] at HN
    obtain ⟨g', o', cp, rfl, _, hg', hP, _, hc'⟩ := hS q hql
    generalize ps[q] = p at *
    dsimp only at HN
    obtain ⟨okp, p_a_ups, p_c_ups, p_a_code, p_c_code, p_a_names, p_c_names, rfl, p_l_ups, p_r_ups, p_l_code, p_r_code, p_l_names, p_r_names⟩ := hP
    have y3 := hc' 3 (by decide)
    simp only [List.getElem?_cons_zero, List.getElem?_cons_succ] at y3
    have hgw' : g' < w.heap.size := by omega
    have mq : q * 5 = 5 * q := Nat.mul_comm _ _
    have hlc : p.code.length ≤ 9223372036854775807 := by have := p_l_code; unfold maxLen at this; omega
    have wl : IntKind.i64.wrap ((ps.length : Int) - 1) = (ps.length : Int) - 1 := by rw [IntKind.wrap_i64]; omega
    have wc : IntKind.i64.wrap ((p.code.length : Int) - 1) = (p.code.length : Int) - 1 := by rw [IntKind.wrap_i64]; omega
    have u3 : ∀ A : Obj, (w.alloc A).cell? ⟨g', o' + 5 * q + 3, none⟩ = _ := fun A => ((bel_alloc w A).cell (p := ⟨g', o' + 5 * q + 3, none⟩) hgw').trans y3
    have h1 : ∀ W, Calls Try.prog 95 #[.int .i64 (q : Int), .int .i64 0, .int .i64 ((ps.length : Int) - 1)] W fun e w' => e = .returned (.bool true) ∧ w' = W := fun W => (in_impl q 0 ((ps.length : Int) - 1) W).mono fun e w' h => by rw [show inR q 0 ((ps.length : Int) - 1) = true from decide_eq_true hp] at h; exact ⟨h.1, h.2.symm⟩
    clear hc' hS y3
    by_cases hpc : 0 ≤ pc ∧ pc ≤ (p.code.length : Int) - 1
    · obtain ⟨z, hz⟩ : ∃ z : Nat, pc = z := ⟨pc.toNat, by omega⟩
      have hzl : z < p.code.length := by omega
      rw [if_pos (by omega)] at HN
      subst hz
      rw [Int.toNat_natCast, List.getElem?_eq_getElem hzl] at HN
      obtain ⟨g2, o2, ci, rfl, _, hg2, hI, _, hc2⟩ := p_r_code z hzl
      generalize p.code[z] = c at *
      obtain ⟨okc, rfl⟩ := hI
      have z0 := hc2 0 (by decide)
      have z1 := hc2 1 (by decide)
      have z2 := hc2 2 (by decide)
      have z3 := hc2 3 (by decide)
      have z4 := hc2 4 (by decide)
      have z5 := hc2 5 (by decide)
      have z6 := hc2 6 (by decide)
      simp only [List.getElem?_cons_zero, List.getElem?_cons_succ, Nat.add_zero] at z0 z1 z2 z3 z4 z5 z6
      have hgw2 : g2 < w.heap.size := by omega
      have mz : z * 7 = 7 * z := Nat.mul_comm _ _
      have v0 : ∀ A : Obj, (w.alloc A).cell? ⟨g2, o2 + 7 * z, none⟩ = _ := fun A => ((bel_alloc w A).cell (p := ⟨g2, o2 + 7 * z, none⟩) hgw2).trans z0
      have v1 : ∀ A : Obj, (w.alloc A).cell? ⟨g2, o2 + 7 * z + 1, none⟩ = _ := fun A => ((bel_alloc w A).cell (p := ⟨g2, o2 + 7 * z + 1, none⟩) hgw2).trans z1
      have v2 : ∀ A : Obj, (w.alloc A).cell? ⟨g2, o2 + 7 * z + 2, none⟩ = _ := fun A => ((bel_alloc w A).cell (p := ⟨g2, o2 + 7 * z + 2, none⟩) hgw2).trans z2
      have v3 : ∀ A : Obj, (w.alloc A).cell? ⟨g2, o2 + 7 * z + 3, none⟩ = _ := fun A => ((bel_alloc w A).cell (p := ⟨g2, o2 + 7 * z + 3, none⟩) hgw2).trans z3
      have v4 : ∀ A : Obj, (w.alloc A).cell? ⟨g2, o2 + 7 * z + 4, none⟩ = _ := fun A => ((bel_alloc w A).cell (p := ⟨g2, o2 + 7 * z + 4, none⟩) hgw2).trans z4
      have v5 : ∀ A : Obj, (w.alloc A).cell? ⟨g2, o2 + 7 * z + 5, none⟩ = _ := fun A => ((bel_alloc w A).cell (p := ⟨g2, o2 + 7 * z + 5, none⟩) hgw2).trans z5
      have v6 : ∀ A : Obj, (w.alloc A).cell? ⟨g2, o2 + 7 * z + 6, none⟩ = _ := fun A => ((bel_alloc w A).cell (p := ⟨g2, o2 + 7 * z + 6, none⟩) hgw2).trans z6
      have h2 : ∀ W, Calls Try.prog 95 #[.int .i64 (z : Int), .int .i64 0, .int .i64 ((p.code.length : Int) - 1)] W fun e w' => e = .returned (.bool true) ∧ w' = W := fun W => (in_impl z 0 ((p.code.length : Int) - 1) W).mono fun e w' h => by rw [show inR z 0 ((p.code.length : Int) - 1) = true from decide_eq_true hpc] at h; exact ⟨h.1, h.2.symm⟩
      have HV : Hid (insAt ps (q : Int) (z : Int) = some c) := HN
      clear HN hc2 p_r_code p_r_ups p_r_names
      go_enter Try.func87, Try.ntmps87
      go_wp2_with fail
      refine (h1 _).mono ?_
      rintro _ _ ⟨rfl, rfl⟩
      go_wp2_with fail
      refine (h2 _).mono ?_
      rintro _ _ ⟨rfl, rfl⟩
      go_wp2_with fail
      exact bodyPost_ret (v := .tuple #[.agg #[.int .i64 c.op, .int .i64 c.a, .int .i64 c.v.k, .int .i64 c.v.n, .string c.v.s, .string c.s, .int .i64 c.line], .bool true]) (by simp [results, Try.results87, go_sem]) rfl ⟨is_some c HV.out, by repeat (first | (with_reducible refine below_drewN ?_) | (with_reducible exact Below.refl _ _) | (with_reducible refine Below.drew ?_) | (with_reducible refine Below.setCell ?_ (by first | omega | (simp <;> omega)) _) | (with_reducible refine Below.alloc ?_ (by first | omega | (simp <;> omega)) _))⟩
    · rw [if_neg (by omega)] at HN
      have HV : Hid (insAt ps (q : Int) pc = none) := HN
      have h2 : ∀ W, Calls Try.prog 95 #[.int .i64 pc, .int .i64 0, .int .i64 ((p.code.length : Int) - 1)] W fun e w' => e = .returned (.bool false) ∧ w' = W := fun W => (in_impl pc 0 ((p.code.length : Int) - 1) W).mono fun e w' h => by rw [show inR pc 0 ((p.code.length : Int) - 1) = false from decide_eq_false hpc] at h; exact ⟨h.1, h.2.symm⟩
      clear HN p_r_code p_r_ups p_r_names
      go_enter Try.func87, Try.ntmps87
      go_wp2_with fail
      refine (h1 _).mono ?_
      rintro _ _ ⟨rfl, rfl⟩
      go_wp2_with fail
      refine (h2 _).mono ?_
      rintro _ _ ⟨rfl, rfl⟩
      go_wp2_with fail
      exact bodyPost_ret (v := .tuple #[.agg #[.int .i64 0, .int .i64 0, .int .i64 0, .int .i64 0, .string ⟨#[]⟩, .string ⟨#[]⟩, .int .i64 0], .bool false]) (by simp [results, Try.results87, go_sem]) rfl ⟨is_none HV.out, by repeat (first | (with_reducible refine below_drewN ?_) | (with_reducible exact Below.refl _ _) | (with_reducible refine Below.drew ?_) | (with_reducible refine Below.setCell ?_ (by first | omega | (simp <;> omega)) _) | (with_reducible refine Below.alloc ?_ (by first | omega | (simp <;> omega)) _))⟩
  · rw [if_neg (by omega)] at HN
    have wl : IntKind.i64.wrap ((ps.length : Int) - 1) = (ps.length : Int) - 1 := by rw [IntKind.wrap_i64]; omega
    have HV : Hid (insAt ps n pc = none) := HN
    have h1 : ∀ W, Calls Try.prog 95 #[.int .i64 n, .int .i64 0, .int .i64 ((ps.length : Int) - 1)] W fun e w' => e = .returned (.bool false) ∧ w' = W := fun W => (in_impl n 0 ((ps.length : Int) - 1) W).mono fun e w' h => by rw [show inR n 0 ((ps.length : Int) - 1) = false from decide_eq_false hp] at h; exact ⟨h.1, h.2.symm⟩
    clear HN
    go_enter Try.func87, Try.ntmps87
    go_wp2_with fail
    refine (h1 _).mono ?_
    rintro _ _ ⟨rfl, rfl⟩
    go_wp2_with fail
    exact bodyPost_ret (v := .tuple #[.agg #[.int .i64 0, .int .i64 0, .int .i64 0, .int .i64 0, .string ⟨#[]⟩, .string ⟨#[]⟩, .int .i64 0], .bool false]) (by simp [results, Try.results87, go_sem]) rfl ⟨is_none HV.out, by repeat (first | (with_reducible refine below_drewN ?_) | (with_reducible exact Below.refl _ _) | (with_reducible refine Below.drew ?_) | (with_reducible refine Below.setCell ?_ (by first | omega | (simp <;> omega)) _) | (with_reducible refine Below.alloc ?_ (by first | omega | (simp <;> omega)) _))⟩
end Go.Proofs.Ytnbkgpmibgdlmaa
