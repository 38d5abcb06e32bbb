/- How a machine has ended: the specification. -/
import Derived.Test.YtfcmnmojejoeeaaOutA
import Derived.Test.YtfcmnmojejoeeaaAppA
import Derived.Test.YtfcmnmojejoeeaaValR
import Derived.Test.YtfcmnmojejoeeaaOwV
namespace Go.Proofs.Ytfcmnmojejoeeaa
open Go.RowKit

theorem In.ne2 {lo hi b c : Nat} (h : In lo hi b) (hc : hi ≤ c) : b ≠ c := by have := h.2; omega
theorem In.lt {lo hi b c : Nat} (h : In lo hi b) (hc : hi ≤ c) : b < c := Nat.lt_of_lt_of_le h.2 hc
theorem RowD.alloc {α : Type} {k : Nat} {D : World → (Nat → Prop) → α → List Value → Prop} (hK : KeepsD D) {w : World} {S : Nat → Prop} {xs : List α} {a : Option Addr} (hS : ∀ b, S b → b < w.heap.size) (o : Obj) (h : RowD k D w S xs a) : RowD k D (w.alloc o) S xs a :=
  h.below hK hS (bel_alloc w o)
theorem news_str {w : World} {lo hi : Nat} {xs : List ByteArray} {a : Option Addr} (h : RowAt 1 StrC w lo hi xs a) : ∀ (j : Nat) (u : Value), (xs.flatMap fun s => [Value.string s])[j]? = some u → ∃ ad, a = some ad ∧ w.cell? (ad.add j) = some u := by
  intro j u hu
  obtain ⟨hj, _⟩ := List.getElem?_eq_some_iff.1 hu
  rw [flat_len (fun s => [Value.string s]) 1 (fun _ => rfl)] at hj
  obtain ⟨g, o, cs, e, _, _, ⟨_, rfl⟩, _, hc⟩ := h j (by omega)
  refine ⟨_, e, ?_⟩
  have hadd : (⟨g, o, none⟩ : Addr).add j = ⟨g, o + 1 * j + 0, none⟩ := by unfold Addr.add; split <;> simp_all
  rw [hadd, hc 0 (by decide), ← hu]
  have := flat_get (fun s => [Value.string s]) 1 (fun _ => rfl) xs j (by omega) 0 (by decide)
  rw [Nat.one_mul, Nat.add_zero] at this
  exact this.symm
theorem one_str (xs : List ByteArray) : ∀ u ∈ (xs.flatMap fun s => [Value.string s]), u.oneCell' = true := by
  intro u hu
  obtain ⟨v, _, hv⟩ := List.mem_flatMap.1 hu
  simp only [List.mem_cons, List.not_mem_nil, or_false] at hv
  subst hv; rfl
set_option maxRecDepth 100000 in
set_option maxHeartbeats 1600000 in
theorem outcome_spec (x : VmD) (cs : List Value) (lo hi : Nat) (w : World) (hh : hi ≤ w.heap.size) (hw : x.wt ≤ 1048576) (hC : VmC w lo hi x cs) :
    Calls Try.prog 17 #[.agg cs.toArray] w fun e w' => (∃ cs', e = .returned (.agg cs'.toArray) ∧ OutcomeOwn w' (In w.heap.size w'.heap.size) (outV x) cs') ∧ Below w.heap.size w w' := by
  obtain ⟨ok, a_heap_tables, c_heap_tables, a_heap_cells, c_heap_cells, a_funs, c_funs, a_frames, c_frames, a_out, c_out, rfl, l_heap_tables, r_heap_tables, l_heap_cells, r_heap_cells, l_funs, r_funs, l_frames, r_frames, l_out, r_out⟩ := hC
  have hout := len_wtR ByteArray.size x.out
  have hlo : x.out.length ≤ 1048576 := by unfold VmD.wt at hw; omega
  obtain ⟨i0, hi0, hz0, hz1, hz2⟩ := info_parts infO_String
  obtain ⟨rA, rB, rC, hs0, B0⟩ := rows3 w (Obj.cells #[.slice a_heap_tables x.heap.tables.length c_heap_tables, .slice a_heap_cells x.heap.cells.length c_heap_cells, .slice a_funs x.funs.length c_funs, .slice a_frames x.frames.length c_frames, .slice a_out x.out.length c_out, .int .i64 x.steps, .int .i64 x.kind, .int .i64 x.value.k, .int .i64 x.value.n, .string x.value.s] 34) (Obj.cells #[.int .i64 0, .int .i64 0, .int .i64 0, .string ⟨#[]⟩, .slice none 0 0] 54) (Obj.cells #[] 9)
  have own0 := own_lit0 ((w.alloc (Obj.cells #[.slice a_heap_tables x.heap.tables.length c_heap_tables, .slice a_heap_cells x.heap.cells.length c_heap_cells, .slice a_funs x.funs.length c_funs, .slice a_frames x.frames.length c_frames, .slice a_out x.out.length c_out, .int .i64 x.steps, .int .i64 x.kind, .int .i64 x.value.k, .int .i64 x.value.n, .string x.value.s] 34)).alloc (Obj.cells #[.int .i64 0, .int .i64 0, .int .i64 0, .string ⟨#[]⟩, .slice none 0 0] 54)) (w.heap.size + 2) 9 1 (by simp)
  rw [show ((w.alloc (Obj.cells #[.slice a_heap_tables x.heap.tables.length c_heap_tables, .slice a_heap_cells x.heap.cells.length c_heap_cells, .slice a_funs x.funs.length c_funs, .slice a_frames x.frames.length c_frames, .slice a_out x.out.length c_out, .int .i64 x.steps, .int .i64 x.kind, .int .i64 x.value.k, .int .i64 x.value.n, .string x.value.s] 34)).alloc (Obj.cells #[.int .i64 0, .int .i64 0, .int .i64 0, .string ⟨#[]⟩, .slice none 0 0] 54)).heap.size = w.heap.size + 1 + 1 by simp] at own0
  have HSO : Hid (∀ i (h : i < x.out.length), (x.out[i]).size ≤ maxLen) := fun i h => by
    obtain ⟨_, _, _, _, _, _, ⟨h1, _⟩, _⟩ := r_out i h
    exact h1
  have NEWS : Hid (∀ (j : Nat) (u : Value), (x.out.flatMap fun s => [Value.string s])[j]? = some u → ∃ ad, a_out = some ad ∧ (((w.alloc (Obj.cells #[.slice a_heap_tables x.heap.tables.length c_heap_tables, .slice a_heap_cells x.heap.cells.length c_heap_cells, .slice a_funs x.funs.length c_funs, .slice a_frames x.frames.length c_frames, .slice a_out x.out.length c_out, .int .i64 x.steps, .int .i64 x.kind, .int .i64 x.value.k, .int .i64 x.value.n, .string x.value.s] 34)).alloc (Obj.cells #[.int .i64 0, .int .i64 0, .int .i64 0, .string ⟨#[]⟩, .slice none 0 0] 54)).alloc (Obj.cells #[] 9)).cell? (ad.add j) = some u) := news_str (r_out.below StrC_keeps B0 hh)
  have KK : Hid (∀ w1, (((w.alloc (Obj.cells #[.slice a_heap_tables x.heap.tables.length c_heap_tables, .slice a_heap_cells x.heap.cells.length c_heap_cells, .slice a_funs x.funs.length c_funs, .slice a_frames x.frames.length c_frames, .slice a_out x.out.length c_out, .int .i64 x.steps, .int .i64 x.kind, .int .i64 x.value.k, .int .i64 x.value.n, .string x.value.s] 34)).alloc (Obj.cells #[.int .i64 0, .int .i64 0, .int .i64 0, .string ⟨#[]⟩, .slice none 0 0] 54)).alloc (Obj.cells #[] 9)).grownBy w1 (some (w.heap.size + 1 + 1)) → w1.cell? ⟨w.heap.size, 0, none⟩ = some (.slice a_heap_tables x.heap.tables.length c_heap_tables) ∧ w1.cell? ⟨w.heap.size, 1, none⟩ = some (.slice a_heap_cells x.heap.cells.length c_heap_cells) ∧ w1.cell? ⟨w.heap.size, 2, none⟩ = some (.slice a_funs x.funs.length c_funs) ∧ w1.cell? ⟨w.heap.size, 3, none⟩ = some (.slice a_frames x.frames.length c_frames) ∧ w1.cell? ⟨w.heap.size, 4, none⟩ = some (.slice a_out x.out.length c_out) ∧ w1.cell? ⟨w.heap.size, 5, none⟩ = some (.int .i64 x.steps) ∧ w1.cell? ⟨w.heap.size, 6, none⟩ = some (.int .i64 x.kind) ∧ w1.cell? ⟨w.heap.size, 7, none⟩ = some (.int .i64 x.value.k) ∧ w1.cell? ⟨w.heap.size, 8, none⟩ = some (.int .i64 x.value.n) ∧ w1.cell? ⟨w.heap.size, 9, none⟩ = some (.string x.value.s) ∧ w1.cell? ⟨w.heap.size + 1, 0, none⟩ = some (.int .i64 0) ∧ w1.cell? ⟨w.heap.size + 1, 1, none⟩ = some (.int .i64 0) ∧ w1.cell? ⟨w.heap.size + 1, 2, none⟩ = some (.int .i64 0) ∧ w1.cell? ⟨w.heap.size + 1, 3, none⟩ = some (.string ⟨#[]⟩) ∧ w1.cell? ⟨w.heap.size + 1, 4, none⟩ = some (.slice none 0 0) ∧ w1.frozen? ⟨w.heap.size + 1, 0, none⟩ = false ∧ w1.frozen? ⟨w.heap.size + 1, 1, none⟩ = false ∧ w1.frozen? ⟨w.heap.size + 1, 2, none⟩ = false ∧ w1.frozen? ⟨w.heap.size + 1, 3, none⟩ = false ∧ w1.frozen? ⟨w.heap.size + 1, 4, none⟩ = false ∧ Below w.heap.size w w1 ∧ w.heap.size + 1 + 1 < w1.heap.size ∧ w.heap.size + 1 < w1.heap.size ∧ w.heap.size < w1.heap.size) := fun w1 gr => by
    have hg := gr.size
    rw [hs0] at hg
    have qA := (gr.block w.heap.size (by rw [hs0]; omega) (fun e => by have := Option.some.inj e; omega)).trans rA
    have qB := (gr.block (w.heap.size + 1) (by rw [hs0]; omega) (fun e => by have := Option.some.inj e; omega)).trans rB
    exact ⟨cell_of_row _ _ 0 _ _ _ qA, cell_of_row _ _ 1 _ _ _ qA, cell_of_row _ _ 2 _ _ _ qA, cell_of_row _ _ 3 _ _ _ qA, cell_of_row _ _ 4 _ _ _ qA, cell_of_row _ _ 5 _ _ _ qA, cell_of_row _ _ 6 _ _ _ qA, cell_of_row _ _ 7 _ _ _ qA, cell_of_row _ _ 8 _ _ _ qA, cell_of_row _ _ 9 _ _ _ qA, cell_of_row _ _ 0 _ _ _ qB, cell_of_row _ _ 1 _ _ _ qB, cell_of_row _ _ 2 _ _ _ qB, cell_of_row _ _ 3 _ _ _ qB, cell_of_row _ _ 4 _ _ _ qB, frozen_of_row _ _ 0 _ _ qB, frozen_of_row _ _ 1 _ _ qB, frozen_of_row _ _ 2 _ _ qB, frozen_of_row _ _ 3 _ _ qB, frozen_of_row _ _ 4 _ _ qB, B0.grown gr (by rw [hs0]; omega) (fun k hk => by have := Option.some.inj hk; omega), by omega, by omega, by omega⟩
  go_enter Try.func17, Try.ntmps17
  by_cases hk1 : x.kind = 1
  · have he : outV x = ⟨0, x.value, x.out⟩ := by unfold outV; rw [if_pos hk1]
    have HK1 : Hid (x.kind = 1) := hk1
    clear hk1
    have HE : Hid (outV x = _) := he
    clear he
    go_wp2_with (at_builtin; go_must (refine wpList_append_any _ rfl _ _ 30 rfl (w.heap.size + 2) 9 i0 _ 1 16 Try.underlying30 hi0 hz0 hz1 hz2 rfl (by decide) _ _ _ rfl own0 a_out x.out.length c_out (x.out.flatMap fun s => [Value.string s]) rfl (by rw [flat_len (fun s => [Value.string s]) 1 (fun _ => rfl), Nat.mul_comm]) NEWS.out (one_str _) (by unfold maxLen; omega) (by omega) (by rw [hs0]; omega) _ rfl ?_; intro b1 c1 w1 own1 gr1 at1; simp only [Nat.zero_add, List.nil_append] at own1 at1 ⊢; obtain ⟨k0, k1, k2, k3, k4, k5, k6, k7, k8, k9, k10, k11, k12, k13, k14, k15, k16, k17, k18, k19, B1, hz1, hz2, hz3⟩ := KK.out w1 gr1; clear at1 gr1; have hk1 := HK1.out))
    have U1 : RowD 1 StrOwn w1 (In (w.heap.size + 2) w1.heap.size) x.out b1 := rowD_of_own (fun s => [Value.string s]) (fun _ => rfl) (fun i h => ⟨HSO.out i h, rfl⟩) rfl own1
    exact bodyPost_ret (v := .agg #[.int .i64 0, .int .i64 x.value.k, .int .i64 x.value.n, .string x.value.s, .slice b1 x.out.length c1]) (by simp [results, Try.results17, go_sem, *]) rfl ⟨⟨[.int .i64 0, .int .i64 x.value.k, .int .i64 x.value.n, .string x.value.s, .slice b1 x.out.length c1], rfl, out_own HE.out ⟨by decide, by decide⟩ ok.value l_out (RowD.later StrOwn_keeps (S := In (w.heap.size + 2) w1.heap.size) (fun b hb => ⟨by have := hb.1; omega, Nat.lt_of_lt_of_le hb.2 (by first | (simp; done) | (simp; omega))⟩) (fun _ _ => rfl) (by repeat (first | (with_reducible exact U1) | (with_reducible refine RowD.set StrOwn_keeps _ _ (fun b hb => by first | (refine In.ne hb ?_; first | (simp; done) | (simp; omega)) | (refine In.ne2 hb ?_; first | (simp; done) | (simp; omega))) ?_) | (with_reducible refine RowD.alloc StrOwn_keeps (fun b hb => In.lt hb (by first | (simp; done) | (simp; omega))) _ ?_))))⟩, by repeat (first | (with_reducible exact B1) | (with_reducible refine Below.setCell ?_ (by simp <;> omega) _) | (with_reducible refine Below.alloc ?_ (by first | omega | (simp <;> omega)) _))⟩
  · by_cases hk2 : x.kind = 2
    · have he : outV x = ⟨1, x.value, x.out⟩ := by unfold outV; rw [if_neg hk1, if_pos hk2]
      have HK2 : Hid (x.kind = 2) := hk2
      clear hk1 hk2
      have HE : Hid (outV x = _) := he
      clear he
      go_wp2_with (at_builtin; go_must (refine wpList_append_any _ rfl _ _ 30 rfl (w.heap.size + 2) 9 i0 _ 1 16 Try.underlying30 hi0 hz0 hz1 hz2 rfl (by decide) _ _ _ rfl own0 a_out x.out.length c_out (x.out.flatMap fun s => [Value.string s]) rfl (by rw [flat_len (fun s => [Value.string s]) 1 (fun _ => rfl), Nat.mul_comm]) NEWS.out (one_str _) (by unfold maxLen; omega) (by omega) (by rw [hs0]; omega) _ rfl ?_; intro b1 c1 w1 own1 gr1 at1; simp only [Nat.zero_add, List.nil_append] at own1 at1 ⊢; obtain ⟨k0, k1, k2, k3, k4, k5, k6, k7, k8, k9, k10, k11, k12, k13, k14, k15, k16, k17, k18, k19, B1, hz1, hz2, hz3⟩ := KK.out w1 gr1; clear at1 gr1; have hk2 := HK2.out))
      have U1 : RowD 1 StrOwn w1 (In (w.heap.size + 2) w1.heap.size) x.out b1 := rowD_of_own (fun s => [Value.string s]) (fun _ => rfl) (fun i h => ⟨HSO.out i h, rfl⟩) rfl own1
      exact bodyPost_ret (v := .agg #[.int .i64 1, .int .i64 x.value.k, .int .i64 x.value.n, .string x.value.s, .slice b1 x.out.length c1]) (by simp [results, Try.results17, go_sem, *]) rfl ⟨⟨[.int .i64 1, .int .i64 x.value.k, .int .i64 x.value.n, .string x.value.s, .slice b1 x.out.length c1], rfl, out_own HE.out ⟨by decide, by decide⟩ ok.value l_out (RowD.later StrOwn_keeps (S := In (w.heap.size + 2) w1.heap.size) (fun b hb => ⟨by have := hb.1; omega, Nat.lt_of_lt_of_le hb.2 (by first | (simp; done) | (simp; omega))⟩) (fun _ _ => rfl) (by repeat (first | (with_reducible exact U1) | (with_reducible refine RowD.set StrOwn_keeps _ _ (fun b hb => by first | (refine In.ne hb ?_; first | (simp; done) | (simp; omega)) | (refine In.ne2 hb ?_; first | (simp; done) | (simp; omega))) ?_) | (with_reducible refine RowD.alloc StrOwn_keeps (fun b hb => In.lt hb (by first | (simp; done) | (simp; omega))) _ ?_))))⟩, by repeat (first | (with_reducible exact B1) | (with_reducible refine Below.setCell ?_ (by simp <;> omega) _) | (with_reducible refine Below.alloc ?_ (by first | omega | (simp <;> omega)) _))⟩
    · have he : outV x = ⟨2, ⟨0, 0, ⟨#[]⟩⟩, x.out⟩ := by unfold outV; rw [if_neg hk1, if_neg hk2]
      have HK1 : Hid (¬ x.kind = 1) := hk1
      have HK2 : Hid (¬ x.kind = 2) := hk2
      clear hk1 hk2
      have HE : Hid (outV x = _) := he
      clear he
      go_wp2_with (at_builtin; go_must (refine wpList_append_any _ rfl _ _ 30 rfl (w.heap.size + 2) 9 i0 _ 1 16 Try.underlying30 hi0 hz0 hz1 hz2 rfl (by decide) _ _ _ rfl own0 a_out x.out.length c_out (x.out.flatMap fun s => [Value.string s]) rfl (by rw [flat_len (fun s => [Value.string s]) 1 (fun _ => rfl), Nat.mul_comm]) NEWS.out (one_str _) (by unfold maxLen; omega) (by omega) (by rw [hs0]; omega) _ rfl ?_; intro b1 c1 w1 own1 gr1 at1; simp only [Nat.zero_add, List.nil_append] at own1 at1 ⊢; obtain ⟨k0, k1, k2, k3, k4, k5, k6, k7, k8, k9, k10, k11, k12, k13, k14, k15, k16, k17, k18, k19, B1, hz1, hz2, hz3⟩ := KK.out w1 gr1; clear at1 gr1; have hk1 := HK1.out; have hk2 := HK2.out))
      have U1 : RowD 1 StrOwn w1 (In (w.heap.size + 2) w1.heap.size) x.out b1 := rowD_of_own (fun s => [Value.string s]) (fun _ => rfl) (fun i h => ⟨HSO.out i h, rfl⟩) rfl own1
      exact bodyPost_ret (v := .agg #[.int .i64 2, .int .i64 0, .int .i64 0, .string ⟨#[]⟩, .slice b1 x.out.length c1]) (by simp [results, Try.results17, go_sem, *]) rfl ⟨⟨[.int .i64 2, .int .i64 0, .int .i64 0, .string ⟨#[]⟩, .slice b1 x.out.length c1], rfl, out_own HE.out ⟨by decide, by decide⟩ nil_ok l_out (RowD.later StrOwn_keeps (S := In (w.heap.size + 2) w1.heap.size) (fun b hb => ⟨by have := hb.1; omega, Nat.lt_of_lt_of_le hb.2 (by first | (simp; done) | (simp; omega))⟩) (fun _ _ => rfl) (by repeat (first | (with_reducible exact U1) | (with_reducible refine RowD.set StrOwn_keeps _ _ (fun b hb => by first | (refine In.ne hb ?_; first | (simp; done) | (simp; omega)) | (refine In.ne2 hb ?_; first | (simp; done) | (simp; omega))) ?_) | (with_reducible refine RowD.alloc StrOwn_keeps (fun b hb => In.lt hb (by first | (simp; done) | (simp; omega))) _ ?_))))⟩, by repeat (first | (with_reducible exact B1) | (with_reducible refine Below.setCell ?_ (by simp <;> omega) _) | (with_reducible refine Below.alloc ?_ (by first | omega | (simp <;> omega)) _))⟩
end Go.Proofs.Ytfcmnmojejoeeaa
