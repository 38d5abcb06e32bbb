/- A frame, counted from the last one on: the program. -/
import Derived.Test.YtnbkgpmibgdlmaaVofC
namespace Go.Proofs.Ytnbkgpmibgdlmaa
open Go.RowKit

theorem below_drewNv {b k : Nat} {w w' : World} (h : Below b w w') : Below b w (w'.drewN k) := ⟨h.os, h.tape, h.output, h.size, h.block⟩
theorem rows2v (w : World) (A B : Obj) : ((w.alloc A).alloc B).heap[w.heap.size]? = some A ∧ ((w.alloc A).alloc B).heap[w.heap.size + 1]? = some B ∧ ((w.alloc A).alloc B).heap.size = w.heap.size + 2 ∧ Below w.heap.size w ((w.alloc A).alloc B) := by
  have ha := bel_alloc w A
  have hb := bel_alloc (w.alloc A) B
  refine ⟨(hb.block _ (by simp)).trans (heap_alloc_new w A), ?_, by simp, ha.trans (hb.mono (by simp))⟩
  have := heap_alloc_new (w.alloc A) B
  rwa [size_alloc] at this
/-- What is answered of a frame. -/
def FrP (w : World) (lo hi : Nat) (x : VmD) (k : Int) (e : Ending) : Prop :=
  (¬ (0 ≤ k ∧ k < x.frames.length) ∧ e = .returned (.tuple #[.agg #[.int .i64 0, .int .i64 0, .slice none 0 0, .slice none 0 0, .slice none 0 0, .bool false], .bool false])) ∨
  (∃ (i : Nat) (h : i < x.frames.length) (fs : List Value), (i : Int) = x.frames.length - 1 - k ∧ e = .returned (.tuple #[.agg fs.toArray, .bool true]) ∧ FrameC w lo hi x.frames[i] fs)
set_option maxRecDepth 100000 in
set_option maxHeartbeats 3200000 in
theorem frameAt_impl (x : VmD) (cs : List Value) (k : Int) (lo hi : Nat) (w : World) (hh : hi ≤ w.heap.size) (hk : -9223372036854775808 ≤ k ∧ k ≤ 9223372036854775807) (hC : VmC w lo hi x cs) :
    Calls Try.prog 67 #[.agg cs.toArray, .int .i64 k] w fun e w' => FrP w lo hi x k e ∧ Below w.heap.size w w' := by
  obtain ⟨ok, a_heap_tables, c_heap_tables, a_heap_cells, c_heap_cells, a_funs, c_funs, a_frames, c_frames, a_out, c_out, rfl, l_heap_tables, r_heap_tables, l_heap_cells, r_heap_cells, l_funs, r_funs, l_frames, r_frames, l_out, r_out⟩ := hC
  clear r_heap_tables r_heap_cells r_funs r_out
  unfold maxLen at l_frames

  have wl : IntKind.i64.wrap ((x.frames.length : Int) - 1) = (x.frames.length : Int) - 1 := by rw [IntKind.wrap_i64]; omega
  obtain ⟨rA, rB, s2, B2⟩ := rows2v w (Obj.cells #[.slice a_heap_tables x.heap.tables.length c_heap_tables, .slice a_heap_cells x.heap.cells.length c_heap_cells, .slice a_funs x.funs.length c_funs, .slice a_frames x.frames.length c_frames, .slice a_out x.out.length c_out, .int .i64 x.steps, .int .i64 x.kind, .int .i64 x.value.k, .int .i64 x.value.n, .string x.value.s] 48) (Obj.cells #[.int .i64 0, .int .i64 0, .slice none 0 0, .slice none 0 0, .slice none 0 0, .bool false] 76)
  by_cases hp : 0 ≤ k ∧ k ≤ (x.frames.length : Int) - 1
  · obtain ⟨i, hi1, hi2⟩ : ∃ i : Nat, (i : Int) = x.frames.length - 1 - k ∧ i < x.frames.length := ⟨(x.frames.length - 1 - k).toNat, by omega, by omega⟩
    have hik : (x.frames.length : Int) - 1 - k = i := by omega
    have wi : IntKind.i64.wrap (i : Int) = i := by rw [IntKind.wrap_i64]; omega
    have HF := r_frames i hi2
    obtain ⟨g, o, fs, e, _, hg, hF, _, hc⟩ := HF
    subst e
    have hF0 := hF
    obtain ⟨okf, f_a_slots, f_c_slots, f_a_ups, f_c_ups, f_a_stack, f_c_stack, rfl, f_l_slots, f_r_slots, f_l_ups, f_r_ups, f_l_stack, f_r_stack⟩ := hF
    have HX : Hid (FrP w lo hi x k (.returned (.tuple #[.agg #[.int .i64 (x.frames[i]).proto, .int .i64 (x.frames[i]).pc, .slice f_a_slots (x.frames[i]).slots.length f_c_slots, .slice f_a_ups (x.frames[i]).ups.length f_c_ups, .slice f_a_stack (x.frames[i]).stack.length f_c_stack, .bool (x.frames[i]).guard], .bool true]))) := .inr ⟨i, hi2, _, hi1, rfl, hF0⟩
    clear hF0
    have hgw : g < w.heap.size := by omega
    have mi : i * 6 = 6 * i := Nat.mul_comm _ _
    have h1 : ∀ W, Calls Try.prog 95 #[.int .i64 k, .int .i64 0, .int .i64 ((x.frames.length : Int) - 1)] W fun e w' => e = .returned (.bool true) ∧ w' = W := fun W => (in_impl k 0 ((x.frames.length : Int) - 1) W).mono fun e w' h => by rw [show inR k 0 ((x.frames.length : Int) - 1) = true from decide_eq_true hp] at h; exact ⟨h.1, h.2.symm⟩
    have key := fun A B j (hj : j < 6) => ((rows2v w A B).2.2.2.cell (p := ⟨g, o + 6 * i + j, none⟩) (by show g < _; omega)).trans (hc j hj)
    generalize x.frames[i] = f at *
    have k0 := fun A B => key A B 0 (by decide)
    have k1 := fun A B => key A B 1 (by decide)
    have k2 := fun A B => key A B 2 (by decide)
    have k3 := fun A B => key A B 3 (by decide)
    have k4 := fun A B => key A B 4 (by decide)
    have k5 := fun A B => key A B 5 (by decide)
    simp only [List.getElem?_cons_zero, List.getElem?_cons_succ, Nat.add_zero] at k0 k1 k2 k3 k4 k5
    clear key hc r_frames rA rB s2 hi1
    have hii : (i : Int) < (x.frames.length : Int) := by omega
    have hi0 : (0 : Int) ≤ (i : Int) := by omega
    go_enter Try.func67, Try.ntmps67
    go_wp2_with fail
    refine (h1 _).mono ?_
    rintro _ _ ⟨rfl, rfl⟩
    go_wp2_with fail
    exact bodyPost_ret (v := .tuple #[.agg #[.int .i64 f.proto, .int .i64 f.pc, .slice f_a_slots f.slots.length f_c_slots, .slice f_a_ups f.ups.length f_c_ups, .slice f_a_stack f.stack.length f_c_stack, .bool f.guard], .bool true]) (by simp [results, Try.results67, go_sem]) rfl ⟨HX.out, by repeat (first | (with_reducible exact B2) | (with_reducible exact Below.refl _ _) | (with_reducible refine below_drewNv ?_) | (with_reducible refine Below.drew ?_) | (with_reducible refine Below.setCell ?_ (by first | omega | (simp <;> omega)) _) | (with_reducible refine Below.alloc ?_ (by first | omega | (simp <;> omega)) _))⟩
  · have h1 : ∀ W, Calls Try.prog 95 #[.int .i64 k, .int .i64 0, .int .i64 ((x.frames.length : Int) - 1)] W fun e w' => e = .returned (.bool false) ∧ w' = W := fun W => (in_impl k 0 ((x.frames.length : Int) - 1) W).mono fun e w' h => by rw [show inR k 0 ((x.frames.length : Int) - 1) = false from decide_eq_false hp] at h; exact ⟨h.1, h.2.symm⟩
    have HP : Hid (¬ (0 ≤ k ∧ k < x.frames.length)) := by show ¬ _; omega
    clear r_frames rA rB s2
    go_enter Try.func67, Try.ntmps67
    go_wp2_with fail
    refine (h1 _).mono ?_
    rintro _ _ ⟨rfl, rfl⟩
    go_wp2_with fail
    exact bodyPost_ret (v := .tuple #[.agg #[.int .i64 0, .int .i64 0, .slice none 0 0, .slice none 0 0, .slice none 0 0, .bool false], .bool false]) (by simp [results, Try.results67, go_sem]) rfl ⟨.inl ⟨HP.out, rfl⟩, by repeat (first | (with_reducible exact B2) | (with_reducible exact Below.refl _ _) | (with_reducible refine below_drewNv ?_) | (with_reducible refine Below.drew ?_) | (with_reducible refine Below.setCell ?_ (by first | omega | (simp <;> omega)) _) | (with_reducible refine Below.alloc ?_ (by first | omega | (simp <;> omega)) _))⟩
end Go.Proofs.Ytnbkgpmibgdlmaa
