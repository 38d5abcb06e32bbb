/- The line that comes next: the program. -/
import Derived.Test.YtnbkgpmibgdlmaaInsA
namespace Go.Proofs.Ytnbkgpmibgdlmaa
open Go.RowKit

/-- What the program answers of the instruction that comes next. -/
def NiP (ps : List ProtoD) (x : VmD) (e : Ending) : Prop := IsP (nextI ps x) e
theorem rows2 (w : World) (A B : Obj) : ((w.alloc A).alloc B).heap[w.heap.size]? = some A ∧ ((w.alloc A).alloc B).heap[w.heap.size + 1]? = some B ∧ ((w.alloc A).alloc B).heap.size = w.heap.size + 2 ∧ Below w.heap.size w ((w.alloc A).alloc B) := by
  have ha := bel_alloc w A
  have hb := bel_alloc (w.alloc A) B
  refine ⟨(hb.block _ (by simp)).trans (heap_alloc_new w A), ?_, by simp, ha.trans (hb.mono (by simp))⟩
  have := heap_alloc_new (w.alloc A) B
  rwa [size_alloc] at this
set_option maxRecDepth 100000 in
set_option maxHeartbeats 3200000 in
theorem next_impl (ps : List ProtoD) (a : Option Addr) (ca lo hi : Nat) (x : VmD) (cs : List Value) (w : World) (hh : hi ≤ w.heap.size) (hn : ps.length ≤ maxLen) (hS : RowAt 5 ProtoC w lo hi ps a) (hC : VmC w lo hi x cs) :
    Calls Try.prog 54 #[.agg cs.toArray, .slice a ps.length ca] w fun e w' => NiP ps x e ∧ Below w.heap.size w w' := by
  obtain ⟨ok, a_heap_tables, c_heap_tables, a_heap_cells, c_heap_cells, a_funs, c_funs, a_frames, c_frames, a_out, c_out, rfl, l_heap_tables, r_heap_tables, l_heap_cells, r_heap_cells, l_funs, r_funs, l_frames, r_frames, l_out, r_out⟩ := hC
  unfold maxLen at hn l_frames
  clear r_heap_tables r_heap_cells r_funs r_out
  by_cases hf : x.frames.length < 1
  · have HV : Hid (nextI ps x = none) := next_none hf
    have hf0 : (x.frames.length : Int) = 0 := by omega
    go_enter Try.func54, Try.ntmps54
    go_wp2_with fail
    exact bodyPost_ret (v := .tuple #[.agg #[.int .i64 0, .int .i64 0, .int .i64 0, .int .i64 0, .string ⟨#[]⟩, .string ⟨#[]⟩, .int .i64 0], .bool false]) (by simp [results, Try.results54, go_sem]) rfl ⟨is_none HV.out, by repeat (first | (with_reducible refine below_drewN ?_) | (with_reducible exact Below.refl _ _) | (with_reducible refine Below.drew ?_) | (with_reducible refine Below.setCell ?_ (by first | omega | (simp <;> omega)) _) | (with_reducible refine Below.alloc ?_ (by first | omega | (simp <;> omega)) _))⟩
  · obtain ⟨n, hlt, hx⟩ : ∃ n, ∃ _ : n < x.frames.length, n + 1 = x.frames.length := ⟨x.frames.length - 1, by omega, by omega⟩
    have HN := next_some (ps := ps) hlt hx
    change nextI ps x = insAt ps x.frames[n].proto x.frames[n].pc at HN
    obtain ⟨g, o, cf, rfl, _, hg, hF, _, hc⟩ := r_frames n hlt
    generalize x.frames[n] = f at *
    obtain ⟨okf, f_a_slots, f_c_slots, f_a_ups, f_c_ups, f_a_stack, f_c_stack, rfl, f_l_slots, f_r_slots, f_l_ups, f_r_ups, f_l_stack, f_r_stack⟩ := hF
    have x0 := hc 0 (by decide)
    have x1 := hc 1 (by decide)
    have x2 := hc 2 (by decide)
    have x3 := hc 3 (by decide)
    have x4 := hc 4 (by decide)
    have x5 := hc 5 (by decide)
    simp only [List.getElem?_cons_zero, List.getElem?_cons_succ, Nat.add_zero] at x0 x1 x2 x3 x4 x5
    have hgw : g < w.heap.size := by omega
    have e1 : (x.frames.length : Int) - 1 = n := by omega
    have mc : n * 6 = 6 * n := Nat.mul_comm _ _
    clear hc r_frames f_r_slots f_r_ups f_r_stack
    have k0 : ∀ A B : Obj, ((w.alloc A).alloc B).cell? ⟨g, o + 6 * n, none⟩ = _ := fun A B => ((rows2 w A B).2.2.2.cell (p := ⟨g, o + 6 * n, none⟩) hgw).trans x0
    have k1 : ∀ A B : Obj, ((w.alloc A).alloc B).cell? ⟨g, o + 6 * n + 1, none⟩ = _ := fun A B => ((rows2 w A B).2.2.2.cell (p := ⟨g, o + 6 * n + 1, none⟩) hgw).trans x1
    have k2 : ∀ A B : Obj, ((w.alloc A).alloc B).cell? ⟨g, o + 6 * n + 2, none⟩ = _ := fun A B => ((rows2 w A B).2.2.2.cell (p := ⟨g, o + 6 * n + 2, none⟩) hgw).trans x2
    have k3 : ∀ A B : Obj, ((w.alloc A).alloc B).cell? ⟨g, o + 6 * n + 3, none⟩ = _ := fun A B => ((rows2 w A B).2.2.2.cell (p := ⟨g, o + 6 * n + 3, none⟩) hgw).trans x3
    have k4 : ∀ A B : Obj, ((w.alloc A).alloc B).cell? ⟨g, o + 6 * n + 4, none⟩ = _ := fun A B => ((rows2 w A B).2.2.2.cell (p := ⟨g, o + 6 * n + 4, none⟩) hgw).trans x4
    have k5 : ∀ A B : Obj, ((w.alloc A).alloc B).cell? ⟨g, o + 6 * n + 5, none⟩ = _ := fun A B => ((rows2 w A B).2.2.2.cell (p := ⟨g, o + 6 * n + 5, none⟩) hgw).trans x5
    have HV : Hid (nextI ps x = insAt ps f.proto f.pc) := HN
    clear HN hx hf x0 x1 x2 x3 x4 x5
    go_enter Try.func54, Try.ntmps54
    go_wp2_with fail
    obtain ⟨_, rB, rC, hsz, hbl⟩ := rows3 w (Obj.cells #[.slice a_heap_tables x.heap.tables.length c_heap_tables, .slice a_heap_cells x.heap.cells.length c_heap_cells, .slice a_funs x.funs.length c_funs, .slice (some ⟨g, o, none⟩) x.frames.length c_frames, .slice a_out x.out.length c_out, .int .i64 x.steps, .int .i64 x.kind, .int .i64 x.value.k, .int .i64 x.value.n, .string x.value.s] 48) (Obj.cells #[.int .i64 0, .int .i64 0, .int .i64 0, .int .i64 0, .string ⟨#[]⟩, .string ⟨#[]⟩, .int .i64 0] 113) (Obj.cells #[.int .i64 f.proto, .int .i64 f.pc, .slice f_a_slots f.slots.length f_c_slots, .slice f_a_ups f.ups.length f_c_ups, .slice f_a_stack f.stack.length f_c_stack, .bool f.guard] 76)
    have q0 := cell_of_row _ _ 0 _ _ _ rC
    have q1 := cell_of_row _ _ 1 _ _ _ rC
    simp only [List.getElem?_toArray, List.getElem?_cons_zero, List.getElem?_cons_succ] at q0 q1
    clear rC k0 k1 k2 k3 k4 k5
    go_wp2_with fail
    refine (ins_impl ps a ca lo hi f.proto f.pc _ (by simp; omega) hn (hS.below ProtoC_keeps hbl hh)).mono ?_
    rintro e w2 ⟨⟨c, b, rfl, hb⟩, hb2⟩
    have hz2 := hb2.size
    simp only [size_alloc] at hz2
    have hz3 : w.heap.size < w2.heap.size := by omega
    have rB2 := (hb2.block (w.heap.size + 1) (by simp)).trans rB
    have c0 := cell_of_row _ _ 0 _ _ _ rB2
    have c1 := cell_of_row _ _ 1 _ _ _ rB2
    have c2 := cell_of_row _ _ 2 _ _ _ rB2
    have c3 := cell_of_row _ _ 3 _ _ _ rB2
    have c4 := cell_of_row _ _ 4 _ _ _ rB2
    have c5 := cell_of_row _ _ 5 _ _ _ rB2
    have c6 := cell_of_row _ _ 6 _ _ _ rB2
    have d0 := frozen_of_row _ _ 0 _ _ rB2
    have d1 := frozen_of_row _ _ 1 _ _ rB2
    have d2 := frozen_of_row _ _ 2 _ _ rB2
    have d3 := frozen_of_row _ _ 3 _ _ rB2
    have d4 := frozen_of_row _ _ 4 _ _ rB2
    have d5 := frozen_of_row _ _ 5 _ _ rB2
    have d6 := frozen_of_row _ _ 6 _ _ rB2
    simp only [List.getElem?_toArray, List.getElem?_cons_zero, List.getElem?_cons_succ] at c0 c1 c2 c3 c4 c5 c6
    have B2 : Below w.heap.size w w2 := hbl.trans (hb2.mono (by simp; omega))
    have HB : Hid (nextI ps x = if b = true then some c else none) := HV.out.trans hb
    clear hb rB rB2 q0 q1
    go_wp2_with fail
    exact bodyPost_ret (v := .tuple #[.agg #[.int .i64 c.op, .int .i64 c.a, .int .i64 c.v.k, .int .i64 c.v.n, .string c.v.s, .string c.s, .int .i64 c.line], .bool b]) (by simp [results, Try.results54, go_sem, c0, c1, c2, c3, c4, c5, c6]) rfl ⟨⟨c, b, rfl, HB.out⟩, by repeat (first | (with_reducible refine below_drewN ?_) | (with_reducible exact B2) | (with_reducible exact Below.refl _ _) | (with_reducible refine Below.drew ?_) | (with_reducible refine Below.setCell ?_ (by first | omega | (simp <;> omega)) _) | (with_reducible refine Below.alloc ?_ (by first | omega | (simp <;> omega)) _))⟩
end Go.Proofs.Ytnbkgpmibgdlmaa
