/- The line that comes next: the program. -/
import Derived.Test.YtdabcemadacfbaaLinA
import Derived.Test.YtdabcemadacfbaaInI
import Derived.Test.YtdabcemadacfbaaValR
import Derived.Test.YtdabcemadacfbaaOwP
import Derived.BigQuiet
import Derived.Deep.QuietTactic
namespace Go.Proofs.Ytdabcemadacfbaa
open Go.RowKit

theorem below_drewN {b k : Nat} {w w' : World} (h : Below b w w') : Below b w (w'.drewN k) := ⟨h.os, h.tape, h.output, h.size, h.block⟩
/-- What the program answers of the instruction that comes next. -/
def NiP (ps : List ProtoD) (x : VmD) (e : Ending) : Prop := ∃ (c : InstrD) (b : Bool), e = .returned (.tuple #[.agg #[.int .i64 c.op, .int .i64 c.a, .int .i64 c.v.k, .int .i64 c.v.n, .string c.v.s, .string c.s, .int .i64 c.line], .bool b]) ∧ nextI ps x = if b = true then some c else none
theorem ni_none {ps : List ProtoD} {x : VmD} (h : nextI ps x = none) : NiP ps x (.returned (.tuple #[.agg #[.int .i64 0, .int .i64 0, .int .i64 0, .int .i64 0, .string ⟨#[]⟩, .string ⟨#[]⟩, .int .i64 0], .bool false])) :=
  ⟨⟨0, 0, ⟨0, 0, ⟨#[]⟩⟩, ⟨#[]⟩, 0⟩, false, rfl, by simp [h]⟩
theorem ni_some {ps : List ProtoD} {x : VmD} (c : InstrD) (h : nextI ps x = some c) : NiP ps x (.returned (.tuple #[.agg #[.int .i64 c.op, .int .i64 c.a, .int .i64 c.v.k, .int .i64 c.v.n, .string c.v.s, .string c.s, .int .i64 c.line], .bool true])) :=
  ⟨c, true, rfl, by simp [h]⟩
theorem rows2 (w : World) (A B : Obj) : ((w.alloc A).alloc B).heap[w.heap.size]? = some A ∧ ((w.alloc A).alloc B).heap[w.heap.size + 1]? = some B ∧ ((w.alloc A).alloc B).heap.size = w.heap.size + 2 ∧ Below w.heap.size w ((w.alloc A).alloc B) := by
  have ha := bel_alloc w A
  have hb := bel_alloc (w.alloc A) B
  refine ⟨(hb.block _ (by simp)).trans (heap_alloc_new w A), ?_, by simp, ha.trans (hb.mono (by simp))⟩
  have := heap_alloc_new (w.alloc A) B
  rwa [size_alloc] at this
set_option maxRecDepth 100000 in
set_option maxHeartbeats 3200000 in
theorem next_impl (ps : List ProtoD) (a : Option Addr) (ca lo hi : Nat) (x : VmD) (cs : List Value) (w : World) (hh : hi ≤ w.heap.size) (hn : ps.length ≤ maxLen) (hS : RowAt 5 ProtoC w lo hi ps a) (hC : VmC w lo hi x cs) :
    Calls Try.prog 47 #[.agg cs.toArray, .slice a ps.length ca] w fun e w' => NiP ps x e ∧ Below w.heap.size w w' := by
  obtain ⟨ok, a_heap_tables, c_heap_tables, a_heap_cells, c_heap_cells, a_funs, c_funs, a_frames, c_frames, a_out, c_out, rfl, l_heap_tables, r_heap_tables, l_heap_cells, r_heap_cells, l_funs, r_funs, l_frames, r_frames, l_out, r_out⟩ := hC
  unfold maxLen at hn l_frames
  clear r_heap_tables r_heap_cells r_funs r_out
  by_cases hf : x.frames.length < 1
  · have HV : Hid (nextI ps x = none) := next_none hf
    have hf0 : (x.frames.length : Int) = 0 := by omega
    go_enter Try.func47, Try.ntmps47
    go_wp2_with fail
    exact bodyPost_ret (v := .tuple #[.agg #[.int .i64 0, .int .i64 0, .int .i64 0, .int .i64 0, .string ⟨#[]⟩, .string ⟨#[]⟩, .int .i64 0], .bool false]) (by simp [results, Try.results47, go_sem]) rfl ⟨ni_none HV.out, by repeat (first | (with_reducible refine below_drewN ?_) | (with_reducible exact Below.refl _ _) | (with_reducible refine Below.drew ?_) | (with_reducible refine Below.setCell ?_ (by first | omega | (simp <;> omega)) _) | (with_reducible refine Below.alloc ?_ (by first | omega | (simp <;> omega)) _))⟩
  · obtain ⟨n, hlt, hx⟩ : ∃ n, ∃ _ : n < x.frames.length, n + 1 = x.frames.length := ⟨x.frames.length - 1, by omega, by omega⟩
    have HN := next_some (ps := ps) hlt hx
    obtain ⟨g, o, cf, rfl, _, hg, hF, _, hc⟩ := r_frames n hlt
    generalize x.frames[n] = f at *
    obtain ⟨okf, f_a_slots, f_c_slots, f_a_ups, f_c_ups, f_a_stack, f_c_stack, rfl, f_l_slots, f_r_slots, f_l_ups, f_r_ups, f_l_stack, f_r_stack⟩ := hF
    have x0 := hc 0 (by decide)
    have x1 := hc 1 (by decide)
    have x2 := hc 2 (by decide)
    have x3 := hc 3 (by decide)
    have x4 := hc 4 (by decide)
    have x5 := hc 5 (by decide)
    simp only [List.getElem?_cons_zero, List.getElem?_cons_succ, Nat.add_zero] at x0 x1 x2 x3 x4 x5
    have hgw : g < w.heap.size := by omega
    have e1 : (x.frames.length : Int) - 1 = n := by omega
    have mc : n * 6 = 6 * n := Nat.mul_comm _ _
    have wl : IntKind.i64.wrap ((ps.length : Int) - 1) = (ps.length : Int) - 1 := by rw [IntKind.wrap_i64]; omega
    clear hc r_frames f_r_slots f_r_ups f_r_stack
    by_cases hp : 0 ≤ f.proto ∧ f.proto ≤ (ps.length : Int) - 1
    · obtain ⟨q, hq⟩ : ∃ q : Nat, f.proto = q := ⟨f.proto.toNat, by omega⟩
      have hql : q < ps.length := by omega
      rw [if_pos (by omega), hq, Int.toNat_natCast, List.getElem?_eq_getElem hql] at HN
      obtain ⟨g', o', cp, rfl, _, hg', hP, _, hc'⟩ := hS q hql
      generalize ps[q] = p at *
      dsimp only at HN
      obtain ⟨okp, p_a_ups, p_c_ups, p_a_code, p_c_code, p_a_names, p_c_names, rfl, p_l_ups, p_r_ups, p_l_code, p_r_code, p_l_names, p_r_names⟩ := hP
      have y3 := hc' 3 (by decide)
      simp only [List.getElem?_cons_zero, List.getElem?_cons_succ] at y3
      have hgw' : g' < w.heap.size := by omega
      have mq : q * 5 = 5 * q := Nat.mul_comm _ _
      have hlc : p.code.length ≤ 9223372036854775807 := by have := p_l_code; unfold maxLen at this; omega
      have wc : IntKind.i64.wrap ((p.code.length : Int) - 1) = (p.code.length : Int) - 1 := by rw [IntKind.wrap_i64]; omega
      have u3 : ∀ A B C : Obj, (((w.alloc A).alloc B).alloc C).cell? ⟨g', o' + 5 * q + 3, none⟩ = _ := fun A B C => ((rows3 w A B C).2.2.2.2.cell (p := ⟨g', o' + 5 * q + 3, none⟩) hgw').trans y3
      rw [hq] at x0 hp
      have k0 : ∀ A B : Obj, ((w.alloc A).alloc B).cell? ⟨g, o + 6 * n, none⟩ = _ := fun A B => ((rows2 w A B).2.2.2.cell (p := ⟨g, o + 6 * n, none⟩) hgw).trans x0
      have k1 : ∀ A B : Obj, ((w.alloc A).alloc B).cell? ⟨g, o + 6 * n + 1, none⟩ = _ := fun A B => ((rows2 w A B).2.2.2.cell (p := ⟨g, o + 6 * n + 1, none⟩) hgw).trans x1
      have k2 : ∀ A B : Obj, ((w.alloc A).alloc B).cell? ⟨g, o + 6 * n + 2, none⟩ = _ := fun A B => ((rows2 w A B).2.2.2.cell (p := ⟨g, o + 6 * n + 2, none⟩) hgw).trans x2
      have k3 : ∀ A B : Obj, ((w.alloc A).alloc B).cell? ⟨g, o + 6 * n + 3, none⟩ = _ := fun A B => ((rows2 w A B).2.2.2.cell (p := ⟨g, o + 6 * n + 3, none⟩) hgw).trans x3
      have k4 : ∀ A B : Obj, ((w.alloc A).alloc B).cell? ⟨g, o + 6 * n + 4, none⟩ = _ := fun A B => ((rows2 w A B).2.2.2.cell (p := ⟨g, o + 6 * n + 4, none⟩) hgw).trans x4
      have k5 : ∀ A B : Obj, ((w.alloc A).alloc B).cell? ⟨g, o + 6 * n + 5, none⟩ = _ := fun A B => ((rows2 w A B).2.2.2.cell (p := ⟨g, o + 6 * n + 5, none⟩) hgw).trans x5
      have h1 : ∀ W, Calls Try.prog 64 #[.int .i64 (q : Int), .int .i64 0, .int .i64 ((ps.length : Int) - 1)] W fun e w' => e = .returned (.bool true) ∧ w' = W := fun W => (in_impl q 0 ((ps.length : Int) - 1) W).mono fun e w' h => by rw [show inR q 0 ((ps.length : Int) - 1) = true from decide_eq_true hp] at h; exact ⟨h.1, h.2.symm⟩
      clear hc' hS hx hf x0 x1 x2 x3 x4 x5 y3
      by_cases hpc : 0 ≤ f.pc ∧ f.pc ≤ (p.code.length : Int) - 1
      · obtain ⟨z, hz⟩ : ∃ z : Nat, f.pc = z := ⟨f.pc.toNat, by omega⟩
        have hzl : z < p.code.length := by omega
        rw [if_pos (by omega), hz, Int.toNat_natCast, List.getElem?_eq_getElem hzl] at HN
        obtain ⟨g2, o2, ci, rfl, _, hg2, hI, _, hc2⟩ := p_r_code z hzl
        generalize p.code[z] = c at *
        obtain ⟨okc, rfl⟩ := hI
        have z0 := hc2 0 (by decide)
        have z1 := hc2 1 (by decide)
        have z2 := hc2 2 (by decide)
        have z3 := hc2 3 (by decide)
        have z4 := hc2 4 (by decide)
        have z5 := hc2 5 (by decide)
        have z6 := hc2 6 (by decide)
        simp only [List.getElem?_cons_zero, List.getElem?_cons_succ, Nat.add_zero] at z0 z1 z2 z3 z4 z5 z6
        have hgw2 : g2 < w.heap.size := by omega
        have mz : z * 7 = 7 * z := Nat.mul_comm _ _
        rw [hz] at k1 hpc
        have v0 : ∀ A B C : Obj, (((w.alloc A).alloc B).alloc C).cell? ⟨g2, o2 + 7 * z, none⟩ = _ := fun A B C => ((rows3 w A B C).2.2.2.2.cell (p := ⟨g2, o2 + 7 * z, none⟩) hgw2).trans z0
        have v1 : ∀ A B C : Obj, (((w.alloc A).alloc B).alloc C).cell? ⟨g2, o2 + 7 * z + 1, none⟩ = _ := fun A B C => ((rows3 w A B C).2.2.2.2.cell (p := ⟨g2, o2 + 7 * z + 1, none⟩) hgw2).trans z1
        have v2 : ∀ A B C : Obj, (((w.alloc A).alloc B).alloc C).cell? ⟨g2, o2 + 7 * z + 2, none⟩ = _ := fun A B C => ((rows3 w A B C).2.2.2.2.cell (p := ⟨g2, o2 + 7 * z + 2, none⟩) hgw2).trans z2
        have v3 : ∀ A B C : Obj, (((w.alloc A).alloc B).alloc C).cell? ⟨g2, o2 + 7 * z + 3, none⟩ = _ := fun A B C => ((rows3 w A B C).2.2.2.2.cell (p := ⟨g2, o2 + 7 * z + 3, none⟩) hgw2).trans z3
        have v4 : ∀ A B C : Obj, (((w.alloc A).alloc B).alloc C).cell? ⟨g2, o2 + 7 * z + 4, none⟩ = _ := fun A B C => ((rows3 w A B C).2.2.2.2.cell (p := ⟨g2, o2 + 7 * z + 4, none⟩) hgw2).trans z4
        have v5 : ∀ A B C : Obj, (((w.alloc A).alloc B).alloc C).cell? ⟨g2, o2 + 7 * z + 5, none⟩ = _ := fun A B C => ((rows3 w A B C).2.2.2.2.cell (p := ⟨g2, o2 + 7 * z + 5, none⟩) hgw2).trans z5
        have v6 : ∀ A B C : Obj, (((w.alloc A).alloc B).alloc C).cell? ⟨g2, o2 + 7 * z + 6, none⟩ = _ := fun A B C => ((rows3 w A B C).2.2.2.2.cell (p := ⟨g2, o2 + 7 * z + 6, none⟩) hgw2).trans z6
        have h2 : ∀ W, Calls Try.prog 64 #[.int .i64 (z : Int), .int .i64 0, .int .i64 ((p.code.length : Int) - 1)] W fun e w' => e = .returned (.bool true) ∧ w' = W := fun W => (in_impl z 0 ((p.code.length : Int) - 1) W).mono fun e w' h => by rw [show inR z 0 ((p.code.length : Int) - 1) = true from decide_eq_true hpc] at h; exact ⟨h.1, h.2.symm⟩
        have HV : Hid (nextI ps x = some c) := HN
        clear HN hc2 p_r_code p_r_ups p_r_names hz hq
        go_enter Try.func47, Try.ntmps47
        go_wp2_with fail
        go_quiet (first | (go_at_call 64; with_reducible refine Calls.quiet_of_same (h1 _)) | (go_at_call 64; with_reducible refine Calls.quiet_of_same (h2 _)))
        go_wp2_with fail
        go_region
        all_goals
          go_wp2_with fail
          exact bodyPost_ret (v := .tuple #[.agg #[.int .i64 c.op, .int .i64 c.a, .int .i64 c.v.k, .int .i64 c.v.n, .string c.v.s, .string c.s, .int .i64 c.line], .bool true]) (by simp [results, Try.results47, go_sem]) rfl ⟨ni_some c HV.out, by repeat (first | (with_reducible refine below_drewN ?_) | (with_reducible exact Below.refl _ _) | (with_reducible refine Below.drew ?_) | (with_reducible refine Below.setCell ?_ (by first | omega | (simp <;> omega)) _) | (with_reducible refine Below.alloc ?_ (by first | omega | (simp <;> omega)) _))⟩
      · rw [if_neg (by omega)] at HN
        have HV : Hid (nextI ps x = none) := HN
        have h2 : ∀ W, Calls Try.prog 64 #[.int .i64 f.pc, .int .i64 0, .int .i64 ((p.code.length : Int) - 1)] W fun e w' => e = .returned (.bool false) ∧ w' = W := fun W => (in_impl f.pc 0 ((p.code.length : Int) - 1) W).mono fun e w' h => by rw [show inR f.pc 0 ((p.code.length : Int) - 1) = false from decide_eq_false hpc] at h; exact ⟨h.1, h.2.symm⟩
        clear HN hq p_r_code p_r_ups p_r_names
        go_enter Try.func47, Try.ntmps47
        go_wp2_with fail
        go_quiet (first | (go_at_call 64; with_reducible refine Calls.quiet_of_same (h1 _)) | (go_at_call 64; with_reducible refine Calls.quiet_of_same (h2 _)))
        go_wp2_with fail
        exact bodyPost_ret (v := .tuple #[.agg #[.int .i64 0, .int .i64 0, .int .i64 0, .int .i64 0, .string ⟨#[]⟩, .string ⟨#[]⟩, .int .i64 0], .bool false]) (by simp [results, Try.results47, go_sem]) rfl ⟨ni_none HV.out, by repeat (first | (with_reducible refine below_drewN ?_) | (with_reducible exact Below.refl _ _) | (with_reducible refine Below.drew ?_) | (with_reducible refine Below.setCell ?_ (by first | omega | (simp <;> omega)) _) | (with_reducible refine Below.alloc ?_ (by first | omega | (simp <;> omega)) _))⟩
    · rw [if_neg (by omega)] at HN
      have HV : Hid (nextI ps x = none) := HN
      have k0 : ∀ A B : Obj, ((w.alloc A).alloc B).cell? ⟨g, o + 6 * n, none⟩ = _ := fun A B => ((rows2 w A B).2.2.2.cell (p := ⟨g, o + 6 * n, none⟩) hgw).trans x0
      have k1 : ∀ A B : Obj, ((w.alloc A).alloc B).cell? ⟨g, o + 6 * n + 1, none⟩ = _ := fun A B => ((rows2 w A B).2.2.2.cell (p := ⟨g, o + 6 * n + 1, none⟩) hgw).trans x1
      have k2 : ∀ A B : Obj, ((w.alloc A).alloc B).cell? ⟨g, o + 6 * n + 2, none⟩ = _ := fun A B => ((rows2 w A B).2.2.2.cell (p := ⟨g, o + 6 * n + 2, none⟩) hgw).trans x2
      have k3 : ∀ A B : Obj, ((w.alloc A).alloc B).cell? ⟨g, o + 6 * n + 3, none⟩ = _ := fun A B => ((rows2 w A B).2.2.2.cell (p := ⟨g, o + 6 * n + 3, none⟩) hgw).trans x3
      have k4 : ∀ A B : Obj, ((w.alloc A).alloc B).cell? ⟨g, o + 6 * n + 4, none⟩ = _ := fun A B => ((rows2 w A B).2.2.2.cell (p := ⟨g, o + 6 * n + 4, none⟩) hgw).trans x4
      have k5 : ∀ A B : Obj, ((w.alloc A).alloc B).cell? ⟨g, o + 6 * n + 5, none⟩ = _ := fun A B => ((rows2 w A B).2.2.2.cell (p := ⟨g, o + 6 * n + 5, none⟩) hgw).trans x5
      have h1 : ∀ W, Calls Try.prog 64 #[.int .i64 f.proto, .int .i64 0, .int .i64 ((ps.length : Int) - 1)] W fun e w' => e = .returned (.bool false) ∧ w' = W := fun W => (in_impl f.proto 0 ((ps.length : Int) - 1) W).mono fun e w' h => by rw [show inR f.proto 0 ((ps.length : Int) - 1) = false from decide_eq_false hp] at h; exact ⟨h.1, h.2.symm⟩
      clear HN hx hf x0 x1 x2 x3 x4 x5
      go_enter Try.func47, Try.ntmps47
      go_wp2_with fail
      obtain ⟨_, _, rC, _, _⟩ := rows3 w (Obj.cells #[.slice a_heap_tables x.heap.tables.length c_heap_tables, .slice a_heap_cells x.heap.cells.length c_heap_cells, .slice a_funs x.funs.length c_funs, .slice (some ⟨g, o, none⟩) x.frames.length c_frames, .slice a_out x.out.length c_out, .int .i64 x.steps, .int .i64 x.kind, .int .i64 x.value.k, .int .i64 x.value.n, .string x.value.s] 47) (Obj.cells #[.int .i64 0, .int .i64 0, .int .i64 0, .int .i64 0, .string ⟨#[]⟩, .string ⟨#[]⟩, .int .i64 0] 64) (Obj.cells #[.int .i64 f.proto, .int .i64 f.pc, .slice f_a_slots f.slots.length f_c_slots, .slice f_a_ups f.ups.length f_c_ups, .slice f_a_stack f.stack.length f_c_stack, .bool f.guard] 74)
      have q0 := cell_of_row _ _ 0 _ _ _ rC
      have q1 := cell_of_row _ _ 1 _ _ _ rC
      simp only [List.getElem?_toArray, List.getElem?_cons_zero, List.getElem?_cons_succ] at q0 q1
      clear rC
      go_quiet (first | (go_at_call 64; refine Calls.quiet_of_same (h1 _)))
      go_wp2_with fail
      exact bodyPost_ret (v := .tuple #[.agg #[.int .i64 0, .int .i64 0, .int .i64 0, .int .i64 0, .string ⟨#[]⟩, .string ⟨#[]⟩, .int .i64 0], .bool false]) (by simp [results, Try.results47, go_sem]) rfl ⟨ni_none HV.out, by repeat (first | (with_reducible refine below_drewN ?_) | (with_reducible exact Below.refl _ _) | (with_reducible refine Below.drew ?_) | (with_reducible refine Below.setCell ?_ (by first | omega | (simp <;> omega)) _) | (with_reducible refine Below.alloc ?_ (by first | omega | (simp <;> omega)) _))⟩
end Go.Proofs.Ytdabcemadacfbaa
