/- The instruction that comes next and its proto: the specification. -/
import Derived.Test.YtnbkgpmibgdlmaaAtA
import Derived.Test.YtnbkgpmibgdlmaaInW
import Derived.Test.YtnbkgpmibgdlmaaValR
import Derived.Test.YtnbkgpmibgdlmaaOwP
import Derived.Deep.RegionHeld
namespace Go.Proofs.Ytnbkgpmibgdlmaa
open Go.RowKit

theorem rows4s (w : World) (A B C D : Obj) : ((((w.alloc A).alloc B).alloc C).alloc D).heap[w.heap.size]? = some A ∧ ((((w.alloc A).alloc B).alloc C).alloc D).heap[w.heap.size + 1]? = some B ∧ ((((w.alloc A).alloc B).alloc C).alloc D).heap[w.heap.size + 1 + 1]? = some C ∧ ((((w.alloc A).alloc B).alloc C).alloc D).heap[w.heap.size + 1 + 1 + 1]? = some D ∧ ((((w.alloc A).alloc B).alloc C).alloc D).heap.size = w.heap.size + 4 ∧ Below w.heap.size w ((((w.alloc A).alloc B).alloc C).alloc D) := by
  obtain ⟨r1, r2, r3, hs, hb⟩ := rows3 w A B C
  have hd := bel_alloc (((w.alloc A).alloc B).alloc C) D
  refine ⟨(hd.block _ (by omega)).trans r1, (hd.block _ (by omega)).trans r2, (hd.block _ (by omega)).trans r3, ?_, by simp, hb.trans (hd.mono (by omega))⟩
  have := heap_alloc_new (((w.alloc A).alloc B).alloc C) D
  rw [hs] at this
  exact this
/-- What is answered of the instruction that comes next: it and its proto, where there is one; else a false. -/
def NyP (ps : List ProtoD) (x : VmD) (w : World) (lo hi : Nat) (e : Ending) : Prop :=
  (atV ps x = 0 ∧ e = .returned (.tuple #[.agg #[.int .i64 0, .int .i64 0, .int .i64 0, .int .i64 0, .string ⟨#[]⟩, .string ⟨#[]⟩, .int .i64 0], .agg #[.int .i64 0, .int .i64 0, .slice none 0 0, .slice none 0 0, .slice none 0 0], .bool false])) ∨
  (x.kind = 0 ∧ ∃ n q z f p c pcs, Nx ps x n q z f p c ∧ ProtoC w lo hi p pcs ∧ e = .returned (.tuple #[.agg #[.int .i64 c.op, .int .i64 c.a, .int .i64 c.v.k, .int .i64 c.v.n, .string c.v.s, .string c.s, .int .i64 c.line], .agg pcs.toArray, .bool true]))
set_option maxRecDepth 100000 in
set_option maxHeartbeats 3200000 in
theorem nexts_spec (ps : List ProtoD) (a : Option Addr) (ca lo hi : Nat) (x : VmD) (cs : List Value) (w : World) (hh : hi ≤ w.heap.size) (hn : ps.length ≤ maxLen) (hS : RowAt 5 ProtoC w lo hi ps a) (hC : VmC w lo hi x cs) :
    Calls Try.prog 53 #[.slice a ps.length ca, .agg cs.toArray] w fun e w' => NyP ps x w lo hi e ∧ Below w.heap.size w w' := by
  obtain ⟨ok, a_heap_tables, c_heap_tables, a_heap_cells, c_heap_cells, a_funs, c_funs, a_frames, c_frames, a_out, c_out, rfl, l_heap_tables, r_heap_tables, l_heap_cells, r_heap_cells, l_funs, r_funs, l_frames, r_frames, l_out, r_out⟩ := hC
  unfold maxLen at hn l_frames
  have B3 : Below w.heap.size w (((w.alloc (Obj.cells #[.slice a_heap_tables x.heap.tables.length c_heap_tables, .slice a_heap_cells x.heap.cells.length c_heap_cells, .slice a_funs x.funs.length c_funs, .slice a_frames x.frames.length c_frames, .slice a_out x.out.length c_out, .int .i64 x.steps, .int .i64 x.kind, .int .i64 x.value.k, .int .i64 x.value.n, .string x.value.s] 48)).alloc (Obj.cells #[.int .i64 0, .int .i64 0, .int .i64 0, .int .i64 0, .string ⟨#[]⟩, .string ⟨#[]⟩, .int .i64 0] 113)).alloc (Obj.cells #[.int .i64 0, .int .i64 0, .slice none 0 0, .slice none 0 0, .slice none 0 0] 81)) := (rows3 w _ _ _).2.2.2.2
  clear r_heap_tables r_heap_cells r_funs r_out
  by_cases hk : x.kind = 0
  · by_cases hf : x.frames.length < 1
    · have HV : Hid (atV ps x = 0) := at_none (next_none hf)
      go_enter Try.func53, Try.ntmps53
      go_wp2_with fail
      exact bodyPost_ret (v := .tuple #[.agg #[.int .i64 0, .int .i64 0, .int .i64 0, .int .i64 0, .string ⟨#[]⟩, .string ⟨#[]⟩, .int .i64 0], .agg #[.int .i64 0, .int .i64 0, .slice none 0 0, .slice none 0 0, .slice none 0 0], .bool false]) (by simp [results, Try.results53, go_sem]) rfl ⟨Or.inl ⟨HV.out, rfl⟩, by repeat (first | (with_reducible exact B3) | (with_reducible exact Below.refl _ _) | (with_reducible refine Below.drew ?_) | (with_reducible refine Below.setCell ?_ (by first | omega | (simp <;> omega)) _) | (with_reducible refine Below.alloc ?_ (by first | omega | (simp <;> omega)) _))⟩
    · obtain ⟨n, hlt, hx⟩ : ∃ n, ∃ _ : n < x.frames.length, n + 1 = x.frames.length := ⟨x.frames.length - 1, by omega, by omega⟩
      have HN := next_some (ps := ps) hlt hx
      obtain ⟨g, o, cf, rfl, _, hg, hF, _, hc⟩ := r_frames n hlt
      have HFN : Hid (x.frames[n]? = some x.frames[n]) := List.getElem?_eq_getElem hlt
      generalize x.frames[n] = f at *
      obtain ⟨okf, f_a_slots, f_c_slots, f_a_ups, f_c_ups, f_a_stack, f_c_stack, rfl, f_l_slots, f_r_slots, f_l_ups, f_r_ups, f_l_stack, f_r_stack⟩ := hF
      have x0 := hc 0 (by decide)
      have x1 := hc 1 (by decide)
      simp only [List.getElem?_cons_zero, List.getElem?_cons_succ, Nat.add_zero] at x0 x1
      have hgw : g < w.heap.size := by omega
      have e1 : (x.frames.length : Int) - 1 = n := by omega
      have mc : n * 6 = 6 * n := Nat.mul_comm _ _
      have HNx : Hid (n + 1 = x.frames.length) := hx
      have t0 : ∀ A B C : Obj, (((w.alloc A).alloc B).alloc C).cell? ⟨g, o + 6 * n, none⟩ = some (.int .i64 f.proto) := fun A B C => ((rows3 w A B C).2.2.2.2.cell (p := ⟨g, o + 6 * n, none⟩) hgw).trans x0
      clear hc r_frames hx f_r_slots f_r_ups f_r_stack
      by_cases hp : 0 ≤ f.proto ∧ f.proto ≤ (ps.length : Int) - 1
      · obtain ⟨q, hq⟩ : ∃ q : Nat, f.proto = q := ⟨f.proto.toNat, by omega⟩
        have hql : q < ps.length := by omega
        rw [if_pos (by omega), hq, Int.toNat_natCast, List.getElem?_eq_getElem hql] at HN
        obtain ⟨g', o', cp, rfl, _, hg', hP, _, hc'⟩ := hS q hql
        have HPQ : Hid (ps[q]? = some ps[q]) := List.getElem?_eq_getElem hql
        generalize ps[q] = p at *
        have HPC : Hid (ProtoC w lo hi p cp) := hP
        dsimp only at HN
        obtain ⟨okp, p_a_ups, p_c_ups, p_a_code, p_c_code, p_a_names, p_c_names, rfl, p_l_ups, p_r_ups, p_l_code, p_r_code, p_l_names, p_r_names⟩ := hP
        have y0 := hc' 0 (by decide)
        have y1 := hc' 1 (by decide)
        have y2 := hc' 2 (by decide)
        have y3 := hc' 3 (by decide)
        have y4 := hc' 4 (by decide)
        simp only [List.getElem?_cons_zero, List.getElem?_cons_succ, Nat.add_zero] at y0 y1 y2 y3 y4
        have hgw' : g' < w.heap.size := by omega
        have u0 : ∀ A B C : Obj, (((w.alloc A).alloc B).alloc C).cell? ⟨g', o' + 5 * q, none⟩ = _ := fun A B C => ((rows3 w A B C).2.2.2.2.cell (p := ⟨g', o' + 5 * q, none⟩) hgw').trans y0
        have u1 : ∀ A B C : Obj, (((w.alloc A).alloc B).alloc C).cell? ⟨g', o' + 5 * q + 1, none⟩ = _ := fun A B C => ((rows3 w A B C).2.2.2.2.cell (p := ⟨g', o' + 5 * q + 1, none⟩) hgw').trans y1
        have u2 : ∀ A B C : Obj, (((w.alloc A).alloc B).alloc C).cell? ⟨g', o' + 5 * q + 2, none⟩ = _ := fun A B C => ((rows3 w A B C).2.2.2.2.cell (p := ⟨g', o' + 5 * q + 2, none⟩) hgw').trans y2
        have u3 : ∀ A B C : Obj, (((w.alloc A).alloc B).alloc C).cell? ⟨g', o' + 5 * q + 3, none⟩ = _ := fun A B C => ((rows3 w A B C).2.2.2.2.cell (p := ⟨g', o' + 5 * q + 3, none⟩) hgw').trans y3
        have u4 : ∀ A B C : Obj, (((w.alloc A).alloc B).alloc C).cell? ⟨g', o' + 5 * q + 4, none⟩ = _ := fun A B C => ((rows3 w A B C).2.2.2.2.cell (p := ⟨g', o' + 5 * q + 4, none⟩) hgw').trans y4
        have mq : q * 5 = 5 * q := Nat.mul_comm _ _
        have hlc : p.code.length ≤ 9223372036854775807 := by have := p_l_code; unfold maxLen at this; omega
        rw [hq] at t0 hp
        have wc : IntKind.i64.wrap ((p.code.length : Int) - 1) = (p.code.length : Int) - 1 := by rw [IntKind.wrap_i64]; omega
        clear hc' hS
        by_cases hpc : 0 ≤ f.pc ∧ f.pc ≤ (p.code.length : Int) - 1
        · obtain ⟨z, hz⟩ : ∃ z : Nat, f.pc = z := ⟨f.pc.toNat, by omega⟩
          have hzl : z < p.code.length := by omega
          rw [if_pos (by omega), hz, Int.toNat_natCast, List.getElem?_eq_getElem hzl] at HN
          obtain ⟨g2, o2, ci, rfl, _, hg2, hI, _, hc2⟩ := p_r_code z hzl
          have HCZ : Hid (p.code[z]? = some p.code[z]) := List.getElem?_eq_getElem hzl
          generalize p.code[z] = c at *
          obtain ⟨okc, rfl⟩ := hI
          have z0 := hc2 0 (by decide)
          have z1 := hc2 1 (by decide)
          have z2 := hc2 2 (by decide)
          have z3 := hc2 3 (by decide)
          have z4 := hc2 4 (by decide)
          have z5 := hc2 5 (by decide)
          have z6 := hc2 6 (by decide)
          simp only [List.getElem?_cons_zero, List.getElem?_cons_succ, Nat.add_zero] at z0 z1 z2 z3 z4 z5 z6
          have hgw2 : g2 < w.heap.size := by omega
          have mz : z * 7 = 7 * z := Nat.mul_comm _ _
          have HNX : Hid (Nx ps x n q z f p c) := ⟨HNx.out, HFN.out, hq, HPQ.out, hz, HCZ.out⟩
          rw [hz] at x1 hpc
          clear HN hc2 p_r_code p_r_ups p_r_names hz hq hf
          go_enter Try.func53, Try.ntmps53
          go_wp2_with fail
          refine (in_yes q 0 ((ps.length : Int) - 1) _ (by omega)).mono ?_
          rintro e w1 ⟨rfl, rfl⟩
          go_wp2_with fail
          obtain ⟨rA, rB, rC, rD, hs1, B1⟩ := rows4s w (Obj.cells #[.slice a_heap_tables x.heap.tables.length c_heap_tables, .slice a_heap_cells x.heap.cells.length c_heap_cells, .slice a_funs x.funs.length c_funs, .slice (some ⟨g, o, none⟩) x.frames.length c_frames, .slice a_out x.out.length c_out, .int .i64 x.steps, .int .i64 0, .int .i64 x.value.k, .int .i64 x.value.n, .string x.value.s] 48) (Obj.cells #[.int .i64 0, .int .i64 0, .int .i64 0, .int .i64 0, .string ⟨#[]⟩, .string ⟨#[]⟩, .int .i64 0] 113) (Obj.cells #[.int .i64 0, .int .i64 0, .slice none 0 0, .slice none 0 0, .slice none 0 0] 81) (Obj.cells #[.int .i64 p.params, .int .i64 p.slots, .slice p_a_ups p.ups.length p_c_ups, .slice (some ⟨g2, o2, none⟩) p.code.length p_c_code, .slice p_a_names p.names.length p_c_names] 81)
          have q3 := cell_of_row _ _ 3 _ _ _ rA
          have d3 := cell_of_row _ _ 3 _ _ _ rD
          simp only [List.getElem?_toArray, List.getElem?_cons_zero, List.getElem?_cons_succ] at q3 d3
          have X1 : ∀ A B C D : Obj, ((((w.alloc A).alloc B).alloc C).alloc D).cell? ⟨g, o + 6 * n + 1, none⟩ = _ := fun A B C D => ((rows4s w A B C D).2.2.2.2.2.cell (p := ⟨g, o + 6 * n + 1, none⟩) hgw).trans x1
          clear rA rB rC rD B1
          have v0 : ∀ A B C D : Obj, ((((w.alloc A).alloc B).alloc C).alloc D).cell? ⟨g2, o2 + 7 * z, none⟩ = _ := fun A B C D => ((rows4s w A B C D).2.2.2.2.2.cell (p := ⟨g2, o2 + 7 * z, none⟩) hgw2).trans z0
          have v1 : ∀ A B C D : Obj, ((((w.alloc A).alloc B).alloc C).alloc D).cell? ⟨g2, o2 + 7 * z + 1, none⟩ = _ := fun A B C D => ((rows4s w A B C D).2.2.2.2.2.cell (p := ⟨g2, o2 + 7 * z + 1, none⟩) hgw2).trans z1
          have v2 : ∀ A B C D : Obj, ((((w.alloc A).alloc B).alloc C).alloc D).cell? ⟨g2, o2 + 7 * z + 2, none⟩ = _ := fun A B C D => ((rows4s w A B C D).2.2.2.2.2.cell (p := ⟨g2, o2 + 7 * z + 2, none⟩) hgw2).trans z2
          have v3 : ∀ A B C D : Obj, ((((w.alloc A).alloc B).alloc C).alloc D).cell? ⟨g2, o2 + 7 * z + 3, none⟩ = _ := fun A B C D => ((rows4s w A B C D).2.2.2.2.2.cell (p := ⟨g2, o2 + 7 * z + 3, none⟩) hgw2).trans z3
          have v4 : ∀ A B C D : Obj, ((((w.alloc A).alloc B).alloc C).alloc D).cell? ⟨g2, o2 + 7 * z + 4, none⟩ = _ := fun A B C D => ((rows4s w A B C D).2.2.2.2.2.cell (p := ⟨g2, o2 + 7 * z + 4, none⟩) hgw2).trans z4
          have v5 : ∀ A B C D : Obj, ((((w.alloc A).alloc B).alloc C).alloc D).cell? ⟨g2, o2 + 7 * z + 5, none⟩ = _ := fun A B C D => ((rows4s w A B C D).2.2.2.2.2.cell (p := ⟨g2, o2 + 7 * z + 5, none⟩) hgw2).trans z5
          have v6 : ∀ A B C D : Obj, ((((w.alloc A).alloc B).alloc C).alloc D).cell? ⟨g2, o2 + 7 * z + 6, none⟩ = _ := fun A B C D => ((rows4s w A B C D).2.2.2.2.2.cell (p := ⟨g2, o2 + 7 * z + 6, none⟩) hgw2).trans z6
          go_region_held (fun w' => w'.cell? ⟨w.heap.size, 3, none⟩ = some (.slice (some ⟨g, o, none⟩) x.frames.length c_frames) ∧ w'.cell? ⟨g, o + 6 * n + 1, none⟩ = some (.int .i64 (z : Int)) ∧ w'.cell? ⟨w.heap.size + 1 + 1 + 1, 3, none⟩ = some (.slice (some ⟨g2, o2, none⟩) p.code.length p_c_code)) (go_keep) (first | (go_at_call 61; refine (in_yes z 0 ((p.code.length : Int) - 1) _ (by omega)).mono ?_; rintro e w2 ⟨rfl, rfl⟩))
          go_wp2_with fail
          go_region
          all_goals
            go_wp2_with fail
            exact bodyPost_ret (v := .tuple #[.agg #[.int .i64 c.op, .int .i64 c.a, .int .i64 c.v.k, .int .i64 c.v.n, .string c.v.s, .string c.s, .int .i64 c.line], .agg #[.int .i64 p.params, .int .i64 p.slots, .slice p_a_ups p.ups.length p_c_ups, .slice (some ⟨g2, o2, none⟩) p.code.length p_c_code, .slice p_a_names p.names.length p_c_names], .bool true]) (by simp [results, Try.results53, go_sem]) rfl ⟨Or.inr ⟨hk, n, q, z, f, p, c, _, HNX.out, HPC.out, rfl⟩, by repeat (first | (with_reducible exact B3) | (with_reducible exact Below.refl _ _) | (with_reducible refine Below.drew ?_) | (with_reducible refine Below.setCell ?_ (by first | omega | (simp <;> omega)) _) | (with_reducible refine Below.alloc ?_ (by first | omega | (simp <;> omega)) _))⟩
        · rw [if_neg (by omega)] at HN
          have HV : Hid (atV ps x = 0) := at_none HN
          clear HN hq hf p_r_code p_r_ups p_r_names
          go_enter Try.func53, Try.ntmps53
          go_wp2_with fail
          refine (in_yes q 0 ((ps.length : Int) - 1) _ (by omega)).mono ?_
          rintro e w1 ⟨rfl, rfl⟩
          go_wp2_with fail
          obtain ⟨rA, rB, rC, rD, hs1, B1⟩ := rows4s w (Obj.cells #[.slice a_heap_tables x.heap.tables.length c_heap_tables, .slice a_heap_cells x.heap.cells.length c_heap_cells, .slice a_funs x.funs.length c_funs, .slice (some ⟨g, o, none⟩) x.frames.length c_frames, .slice a_out x.out.length c_out, .int .i64 x.steps, .int .i64 0, .int .i64 x.value.k, .int .i64 x.value.n, .string x.value.s] 48) (Obj.cells #[.int .i64 0, .int .i64 0, .int .i64 0, .int .i64 0, .string ⟨#[]⟩, .string ⟨#[]⟩, .int .i64 0] 113) (Obj.cells #[.int .i64 0, .int .i64 0, .slice none 0 0, .slice none 0 0, .slice none 0 0] 81) (Obj.cells #[.int .i64 p.params, .int .i64 p.slots, .slice p_a_ups p.ups.length p_c_ups, .slice p_a_code p.code.length p_c_code, .slice p_a_names p.names.length p_c_names] 81)
          have q3 := cell_of_row _ _ 3 _ _ _ rA
          have d3 := cell_of_row _ _ 3 _ _ _ rD
          simp only [List.getElem?_toArray, List.getElem?_cons_zero, List.getElem?_cons_succ] at q3 d3
          have X1 : ∀ A B C D : Obj, ((((w.alloc A).alloc B).alloc C).alloc D).cell? ⟨g, o + 6 * n + 1, none⟩ = _ := fun A B C D => ((rows4s w A B C D).2.2.2.2.2.cell (p := ⟨g, o + 6 * n + 1, none⟩) hgw).trans x1
          clear rA rB rC rD B1
          go_region_held (fun w' => w'.cell? ⟨w.heap.size, 3, none⟩ = some (.slice (some ⟨g, o, none⟩) x.frames.length c_frames) ∧ w'.cell? ⟨g, o + 6 * n + 1, none⟩ = some (.int .i64 f.pc) ∧ w'.cell? ⟨w.heap.size + 1 + 1 + 1, 3, none⟩ = some (.slice p_a_code p.code.length p_c_code)) (go_keep) (first | (go_at_call 61; refine (in_no f.pc 0 ((p.code.length : Int) - 1) _ (by omega)).mono ?_; rintro e w2 ⟨rfl, rfl⟩))
          go_wp2_with fail
          exact bodyPost_ret (v := .tuple #[.agg #[.int .i64 0, .int .i64 0, .int .i64 0, .int .i64 0, .string ⟨#[]⟩, .string ⟨#[]⟩, .int .i64 0], .agg #[.int .i64 0, .int .i64 0, .slice none 0 0, .slice none 0 0, .slice none 0 0], .bool false]) (by simp [results, Try.results53, go_sem]) rfl ⟨Or.inl ⟨HV.out, rfl⟩, by repeat (first | (with_reducible exact B3) | (with_reducible exact Below.refl _ _) | (with_reducible refine Below.drew ?_) | (with_reducible refine Below.setCell ?_ (by first | omega | (simp <;> omega)) _) | (with_reducible refine Below.alloc ?_ (by first | omega | (simp <;> omega)) _))⟩
      · rw [if_neg (by omega)] at HN
        have HV : Hid (atV ps x = 0) := at_none HN
        clear HN
        go_enter Try.func53, Try.ntmps53
        go_wp2_with fail
        refine (in_no f.proto 0 ((ps.length : Int) - 1) _ (by omega)).mono ?_
        rintro e w1 ⟨rfl, rfl⟩
        go_wp2_with fail
        exact bodyPost_ret (v := .tuple #[.agg #[.int .i64 0, .int .i64 0, .int .i64 0, .int .i64 0, .string ⟨#[]⟩, .string ⟨#[]⟩, .int .i64 0], .agg #[.int .i64 0, .int .i64 0, .slice none 0 0, .slice none 0 0, .slice none 0 0], .bool false]) (by simp [results, Try.results53, go_sem]) rfl ⟨Or.inl ⟨HV.out, rfl⟩, by repeat (first | (with_reducible exact B3) | (with_reducible exact Below.refl _ _) | (with_reducible refine Below.drew ?_) | (with_reducible refine Below.setCell ?_ (by first | omega | (simp <;> omega)) _) | (with_reducible refine Below.alloc ?_ (by first | omega | (simp <;> omega)) _))⟩
  · have HV : Hid (atV ps x = 0) := at_kind hk
    go_enter Try.func53, Try.ntmps53
    go_wp2_with fail
    exact bodyPost_ret (v := .tuple #[.agg #[.int .i64 0, .int .i64 0, .int .i64 0, .int .i64 0, .string ⟨#[]⟩, .string ⟨#[]⟩, .int .i64 0], .agg #[.int .i64 0, .int .i64 0, .slice none 0 0, .slice none 0 0, .slice none 0 0], .bool false]) (by simp [results, Try.results53, go_sem]) rfl ⟨Or.inl ⟨HV.out, rfl⟩, by repeat (first | (with_reducible exact B3) | (with_reducible exact Below.refl _ _) | (with_reducible refine Below.drew ?_) | (with_reducible refine Below.setCell ?_ (by first | omega | (simp <;> omega)) _) | (with_reducible refine Below.alloc ?_ (by first | omega | (simp <;> omega)) _))⟩
end Go.Proofs.Ytnbkgpmibgdlmaa
