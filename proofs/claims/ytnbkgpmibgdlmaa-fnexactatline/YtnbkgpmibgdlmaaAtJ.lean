/- The line that a machine is at: the program. -/
import Derived.Test.YtnbkgpmibgdlmaaLinJ
import Derived.Test.YtnbkgpmibgdlmaaAtA
namespace Go.Proofs.Ytnbkgpmibgdlmaa
open Go.RowKit

set_option maxRecDepth 100000 in
set_option maxHeartbeats 3200000 in
theorem atl_impl (ps : List ProtoD) (a : Option Addr) (ca lo hi : Nat) (x : VmD) (cs : List Value) (w : World) (hh : hi ≤ w.heap.size) (hn : ps.length ≤ maxLen) (hS : RowAt 5 ProtoC w lo hi ps a) (hC : VmC w lo hi x cs) :
    Calls Try.prog 55 #[.agg cs.toArray, .slice a ps.length ca] w fun e w' => (∃ b, e = .returned (.tuple #[.int .i64 (atV ps x), .bool b])) ∧ Below w.heap.size w w' := by
  have hC' := hC
  obtain ⟨ok, a_heap_tables, c_heap_tables, a_heap_cells, c_heap_cells, a_funs, c_funs, a_frames, c_frames, a_out, c_out, rfl, l_heap_tables, r_heap_tables, l_heap_cells, r_heap_cells, l_funs, r_funs, l_frames, r_frames, l_out, r_out⟩ := hC'
  have B1 := bel_alloc w (Obj.cells #[.slice a_heap_tables x.heap.tables.length c_heap_tables, .slice a_heap_cells x.heap.cells.length c_heap_cells, .slice a_funs x.funs.length c_funs, .slice a_frames x.frames.length c_frames, .slice a_out x.out.length c_out, .int .i64 x.steps, .int .i64 x.kind, .int .i64 x.value.k, .int .i64 x.value.n, .string x.value.s] 48)
  unfold maxLen at hn l_frames
  go_enter Try.func55, Try.ntmps55
  go_wp2_with fail
  refine (next_impl ps a ca lo hi x _ _ (by simp; omega) hn (hS.below ProtoC_keeps B1 hh) (VmC_keeps.below hC B1 hh)).mono ?_
  rintro e w2 ⟨⟨c, b, rfl, hb⟩, hb2⟩
  have B2 := boxed hb2
  have hz2 := B2.size
  have hz3 : w.heap.size < w2.heap.size := by have := hb2.size; simp at this; omega
  have k6 := st_cell hb2 6
  simp only [List.getElem?_toArray, List.getElem?_cons_zero, List.getElem?_cons_succ] at k6
  have HB : Hid (nextI ps x = if b = true then some c else none) := hb
  clear hb
  cases b with
  | false =>
    have HV : Hid (atV ps x = 0) := at_none (by simpa using HB.out)
    go_wp2_with fail
    exact bodyPost_ret (v := .tuple #[.int .i64 0, .bool false]) (by simp [results, Try.results55, go_sem]) rfl ⟨⟨false, by rw [HV.out]⟩, by repeat (first | (with_reducible exact B2) | (with_reducible exact Below.refl _ _) | (with_reducible refine below_drewN ?_) | (with_reducible refine Below.drew ?_) | (with_reducible refine Below.setCell ?_ (by first | omega | (simp <;> omega)) _) | (with_reducible refine Below.alloc ?_ (by first | omega | (simp <;> omega)) _))⟩
  | true =>
    by_cases hk : x.kind = 0
    · obtain ⟨n, q, z, f, p, hN⟩ := next_nx (show nextI ps x = some c by simpa using HB.out)
      rw [hk] at k6
      have hN' := hN
      obtain ⟨hx, hfr, hfp, hpq, hfz, hcz⟩ := hN'
      have hlt : n < x.frames.length := by omega
      have hql : q < ps.length := (List.getElem?_eq_some_iff.mp hpq).1
      have hzl : z < p.code.length := (List.getElem?_eq_some_iff.mp hcz).1
      obtain ⟨g, o, cf, rfl, _, hg, hF, _, hc⟩ := r_frames n hlt
      rw [show x.frames[n] = f from by rw [List.getElem?_eq_getElem hlt] at hfr; injection hfr] at hF
      obtain ⟨okf, f_a_slots, f_c_slots, f_a_ups, f_c_ups, f_a_stack, f_c_stack, rfl, f_l_slots, f_r_slots, f_l_ups, f_r_ups, f_l_stack, f_r_stack⟩ := hF
      have k0 := hc 0 (by decide)
      have k1 := hc 1 (by decide)
      have k2 := hc 2 (by decide)
      have k3 := hc 3 (by decide)
      have k4 := hc 4 (by decide)
      have k5 := hc 5 (by decide)
      simp only [List.getElem?_cons_zero, List.getElem?_cons_succ, Nat.add_zero] at k0 k1 k2 k3 k4 k5
      have hgw : g < w.heap.size := by omega
      have e1 : (x.frames.length : Int) - 1 = n := by omega
      have mc : n * 6 = 6 * n := Nat.mul_comm _ _
      obtain ⟨g', o', cp, rfl, _, hg', hP, _, hc'⟩ := hS q hql
      rw [show ps[q] = p from by rw [List.getElem?_eq_getElem hql] at hpq; injection hpq] at hP
      obtain ⟨okp, p_a_ups, p_c_ups, p_a_code, p_c_code, p_a_names, p_c_names, rfl, p_l_ups, p_r_ups, p_l_code, p_r_code, p_l_names, p_r_names⟩ := hP
      have y3 := hc' 3 (by decide)
      simp only [List.getElem?_cons_zero, List.getElem?_cons_succ] at y3
      have hgw' : g' < w.heap.size := by omega
      have mq : q * 5 = 5 * q := Nat.mul_comm _ _
      rw [hfp] at k0
      have Y3 : ∀ A B : Obj, ((w2.alloc A).alloc B).cell? ⟨g', o' + 5 * q + 3, none⟩ = _ := fun A B => ((rows2 w2 A B).2.2.2.cell (p := ⟨g', o' + 5 * q + 3, none⟩) (by show g' < _; omega)).trans ((B2.cell (p := ⟨g', o' + 5 * q + 3, none⟩) hgw').trans y3)
      have K0 : ∀ A : Obj, (w2.alloc A).cell? ⟨g, o + 6 * n, none⟩ = _ := fun A => ((bel_alloc w2 A).cell (p := ⟨g, o + 6 * n, none⟩) (by show g < _; omega)).trans ((B2.cell (p := ⟨g, o + 6 * n, none⟩) hgw).trans k0)
      have K1 : ∀ A : Obj, (w2.alloc A).cell? ⟨g, o + 6 * n + 1, none⟩ = _ := fun A => ((bel_alloc w2 A).cell (p := ⟨g, o + 6 * n + 1, none⟩) (by show g < _; omega)).trans ((B2.cell (p := ⟨g, o + 6 * n + 1, none⟩) hgw).trans k1)
      have K2 : ∀ A : Obj, (w2.alloc A).cell? ⟨g, o + 6 * n + 2, none⟩ = _ := fun A => ((bel_alloc w2 A).cell (p := ⟨g, o + 6 * n + 2, none⟩) (by show g < _; omega)).trans ((B2.cell (p := ⟨g, o + 6 * n + 2, none⟩) hgw).trans k2)
      have K3 : ∀ A : Obj, (w2.alloc A).cell? ⟨g, o + 6 * n + 3, none⟩ = _ := fun A => ((bel_alloc w2 A).cell (p := ⟨g, o + 6 * n + 3, none⟩) (by show g < _; omega)).trans ((B2.cell (p := ⟨g, o + 6 * n + 3, none⟩) hgw).trans k3)
      have K4 : ∀ A : Obj, (w2.alloc A).cell? ⟨g, o + 6 * n + 4, none⟩ = _ := fun A => ((bel_alloc w2 A).cell (p := ⟨g, o + 6 * n + 4, none⟩) (by show g < _; omega)).trans ((B2.cell (p := ⟨g, o + 6 * n + 4, none⟩) hgw).trans k4)
      have K5 : ∀ A : Obj, (w2.alloc A).cell? ⟨g, o + 6 * n + 5, none⟩ = _ := fun A => ((bel_alloc w2 A).cell (p := ⟨g, o + 6 * n + 5, none⟩) (by show g < _; omega)).trans ((B2.cell (p := ⟨g, o + 6 * n + 5, none⟩) hgw).trans k5)
      have k3' := st_cell hb2 3
      simp only [List.getElem?_toArray, List.getElem?_cons_zero, List.getElem?_cons_succ] at k3'
      by_cases hz0 : z = 0
      · subst hz0
        have HV : Hid (atV ps x = c.line) := at_first hk hN
        rw [hfz] at K1
        clear hc hc' r_frames hx k0 k1 k2 k3 k4 k5 hN hfr hfp hpq hfz hcz hzl p_r_code p_r_ups p_r_names f_r_slots f_r_ups f_r_stack r_heap_tables r_heap_cells r_funs r_out hk y3 hS HB
        go_wp2_with fail
        obtain ⟨rA, rB, _, _⟩ := rows2 w2 (Obj.cells #[.int .i64 c.op, .int .i64 c.a, .int .i64 c.v.k, .int .i64 c.v.n, .string c.v.s, .string c.s, .int .i64 c.line] 113) (Obj.cells #[.int .i64 (q : Int), .int .i64 0, .slice f_a_slots f.slots.length f_c_slots, .slice f_a_ups f.ups.length f_c_ups, .slice f_a_stack f.stack.length f_c_stack, .bool f.guard] 76)
        have qa := cell_of_row _ _ 4 _ _ _ rA
        have qb := cell_of_row _ _ 1 _ _ _ rB
        simp only [List.getElem?_toArray, List.getElem?_cons_zero, List.getElem?_cons_succ] at qa qb
        clear rA rB
        try go_quiet (fail)
        go_wp2_with fail
        exact bodyPost_ret (v := .tuple #[.int .i64 c.line, .bool true]) (by simp [results, Try.results55, go_sem]) rfl ⟨⟨true, by rw [HV.out]⟩, by repeat (first | (with_reducible exact B2) | (with_reducible exact Below.refl _ _) | (with_reducible refine below_drewN ?_) | (with_reducible refine Below.drew ?_) | (with_reducible refine Below.setCell ?_ (by first | omega | (simp <;> omega)) _) | (with_reducible refine Below.alloc ?_ (by first | omega | (simp <;> omega)) _))⟩
      · obtain ⟨y, hy⟩ : ∃ y, z = y + 1 := ⟨z - 1, by omega⟩
        have hyl : y < p.code.length := by omega
        have hby := List.getElem?_eq_getElem hyl
        have HV0 := at_next hk hN hy hby
        obtain ⟨g2, o2, ci, rfl, _, hg2, hI, _, hc2⟩ := p_r_code y hyl
        generalize p.code[y] = b at *
        obtain ⟨okc, rfl⟩ := hI
        have z6 := hc2 6 (by decide)
        simp only [List.getElem?_cons_zero, List.getElem?_cons_succ] at z6
        have hgw2 : g2 < w.heap.size := by omega
        have my : y * 7 = 7 * y := Nat.mul_comm _ _
        have hpos : 0 < f.pc := by omega
        have hposd : decide (0 < f.pc) = true := decide_eq_true hpos
        have hwr : IntKind.i64.wrap (f.pc - 1) = (y : Int) := by
          have := p_l_code
          unfold maxLen at this
          rw [IntKind.wrap_i64, hfz]
          omega
        have Z6 : ∀ A B : Obj, ((w2.alloc A).alloc B).cell? ⟨g2, o2 + 7 * y + 6, none⟩ = _ := fun A B => ((rows2 w2 A B).2.2.2.cell (p := ⟨g2, o2 + 7 * y + 6, none⟩) (by show g2 < _; omega)).trans ((B2.cell (p := ⟨g2, o2 + 7 * y + 6, none⟩) hgw2).trans z6)
        clear hc hc' r_frames hx k0 k1 k2 k3 k4 k5 hN hfr hfp hpq hfz hcz hzl p_r_code p_r_ups p_r_names f_r_slots f_r_ups f_r_stack r_heap_tables r_heap_cells r_funs r_out hk hz0 hy hby hc2 z6 y3 hS HB
        by_cases hbl : b.line = c.line
        · have HV : Hid (atV ps x = 0) := HV0.trans (if_pos hbl)
          clear HV0
          rw [hbl] at Z6
          go_wp2_with fail
          obtain ⟨rA, rB, _, _⟩ := rows2 w2 (Obj.cells #[.int .i64 c.op, .int .i64 c.a, .int .i64 c.v.k, .int .i64 c.v.n, .string c.v.s, .string c.s, .int .i64 c.line] 113) (Obj.cells #[.int .i64 (q : Int), .int .i64 f.pc, .slice f_a_slots f.slots.length f_c_slots, .slice f_a_ups f.ups.length f_c_ups, .slice f_a_stack f.stack.length f_c_stack, .bool f.guard] 76)
          have qa := cell_of_row _ _ 6 _ _ _ rA
          have q0 := cell_of_row _ _ 0 _ _ _ rB
          have q1 := cell_of_row _ _ 1 _ _ _ rB
          simp only [List.getElem?_toArray, List.getElem?_cons_zero, List.getElem?_cons_succ] at qa q0 q1
          clear rA rB
          go_quiet (fail)
          go_wp2_with fail
          exact bodyPost_ret (v := .tuple #[.int .i64 0, .bool false]) (by simp [results, Try.results55, go_sem]) rfl ⟨⟨false, by rw [HV.out]⟩, by repeat (first | (with_reducible exact B2) | (with_reducible exact Below.refl _ _) | (with_reducible refine below_drewN ?_) | (with_reducible refine Below.drew ?_) | (with_reducible refine Below.setCell ?_ (by first | omega | (simp <;> omega)) _) | (with_reducible refine Below.alloc ?_ (by first | omega | (simp <;> omega)) _))⟩
        · have HV : Hid (atV ps x = c.line) := HV0.trans (if_neg hbl)
          clear HV0
          go_wp2_with fail
          obtain ⟨rA, rB, _, _⟩ := rows2 w2 (Obj.cells #[.int .i64 c.op, .int .i64 c.a, .int .i64 c.v.k, .int .i64 c.v.n, .string c.v.s, .string c.s, .int .i64 c.line] 113) (Obj.cells #[.int .i64 (q : Int), .int .i64 f.pc, .slice f_a_slots f.slots.length f_c_slots, .slice f_a_ups f.ups.length f_c_ups, .slice f_a_stack f.stack.length f_c_stack, .bool f.guard] 76)
          have qa := cell_of_row _ _ 6 _ _ _ rA
          have q0 := cell_of_row _ _ 0 _ _ _ rB
          have q1 := cell_of_row _ _ 1 _ _ _ rB
          simp only [List.getElem?_toArray, List.getElem?_cons_zero, List.getElem?_cons_succ] at qa q0 q1
          clear rA rB
          go_quiet (fail)
          go_wp2_with fail
          exact bodyPost_ret (v := .tuple #[.int .i64 c.line, .bool true]) (by simp [results, Try.results55, go_sem]) rfl ⟨⟨true, by rw [HV.out]⟩, by repeat (first | (with_reducible exact B2) | (with_reducible exact Below.refl _ _) | (with_reducible refine below_drewN ?_) | (with_reducible refine Below.drew ?_) | (with_reducible refine Below.setCell ?_ (by first | omega | (simp <;> omega)) _) | (with_reducible refine Below.alloc ?_ (by first | omega | (simp <;> omega)) _))⟩
    · have HV : Hid (atV ps x = 0) := at_kind hk
      go_wp2_with fail
      exact bodyPost_ret (v := .tuple #[.int .i64 0, .bool false]) (by simp [results, Try.results55, go_sem]) rfl ⟨⟨false, by rw [HV.out]⟩, by repeat (first | (with_reducible exact B2) | (with_reducible exact Below.refl _ _) | (with_reducible refine below_drewN ?_) | (with_reducible refine Below.drew ?_) | (with_reducible refine Below.setCell ?_ (by first | omega | (simp <;> omega)) _) | (with_reducible refine Below.alloc ?_ (by first | omega | (simp <;> omega)) _))⟩
end Go.Proofs.Ytnbkgpmibgdlmaa
