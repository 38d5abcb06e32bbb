/- Bounds of the words of a source. -/
import Derived.Test.YtlmmomffanakiaaJmA
import Derived.Test.YtlmmomffanakiaaParU
import Derived.Test.YtlmmomffanakiaaJmE
import Derived.Test.YtlmmomffanakiaaJmC
namespace Go.Proofs.Ytlmmomffanakiaa
open Go.RowKit

theorem str_len (s : ByteArray) : ∀ (f k : Nat) (acc l : List UInt8) (k' : Nat), strAt s f k acc = some (l, k') → l.length + k < acc.length + k' := by
  intro f
  induction f with
  | zero => intro k acc l k' h; simp [strAt] at h
  | succ f ih =>
    intro k acc l k' h
    simp only [strAt] at h
    split at h
    · rename_i hk
      split at h
      · cases h
      · split at h
        · simp only [Option.some.injEq, Prod.mk.injEq] at h; obtain ⟨rfl, rfl⟩ := h; omega
        · split at h
          · split at h
            · split at h
              · have := ih _ _ _ _ h; simp only [List.length_append, List.length_cons, List.length_nil] at this; omega
              · split at h
                · have := ih _ _ _ _ h; simp only [List.length_append, List.length_cons, List.length_nil] at this; omega
                · cases h
            · cases h
          · have := ih _ _ _ _ h; simp only [List.length_append, List.length_cons, List.length_nil] at this; omega
    · cases h
theorem ext_size (s : ByteArray) (i k : Nat) : (s.extract i k).size ≤ s.size := by
  rw [ByteArray.size_extract]; omega
theorem tok_text {s : ByteArray} {i ln k : Nat} {t : Tk} (h : tokAt s i ln = some (t, k)) : t.text.size ≤ s.size := by
  unfold tokAt at h
  split at h
  · split at h
    · simp only [Option.some.injEq, Prod.mk.injEq] at h
      obtain ⟨rfl, rfl⟩ := h
      exact ext_size s _ _
    · split at h
      · simp only [Option.map_eq_some_iff, Prod.mk.injEq] at h
        obtain ⟨x, _, rfl, _⟩ := h
        show 0 ≤ _
        omega
      · split at h
        · simp only [Option.map_eq_some_iff, Prod.mk.injEq] at h
          obtain ⟨x, hx, rfl, _⟩ := h
          have h1 := str_len s _ _ _ _ _ hx
          have h2 := str_bounds s _ _ _ _ _ hx
          show x.1.length ≤ s.size
          simp only [List.length_nil] at h1
          omega
        · split at h
          · cases h
          · simp only [Option.some.injEq, Prod.mk.injEq] at h
            obtain ⟨rfl, rfl⟩ := h
            exact ext_size s _ _
  · cases h
theorem tok_num {s : ByteArray} {i ln k : Nat} {t : Tk} (h : tokAt s i ln = some (t, k)) : t.n ≤ 999999999999 := by
  unfold tokAt at h
  split at h
  · split at h
    · simp only [Option.some.injEq, Prod.mk.injEq] at h
      obtain ⟨rfl, rfl⟩ := h
      exact Nat.zero_le _
    · split at h
      · simp only [Option.map_eq_some_iff, Prod.mk.injEq] at h
        obtain ⟨x, hx, rfl, _⟩ := h
        unfold numAt at hx
        split at hx
        · cases hx
        · split at hx
          · cases hx
          · cases hx
            simp only
            omega
      · split at h
        · simp only [Option.map_eq_some_iff, Prod.mk.injEq] at h
          obtain ⟨x, hx, rfl, _⟩ := h
          exact Nat.zero_le _
        · split at h
          · cases h
          · simp only [Option.some.injEq, Prod.mk.injEq] at h
            obtain ⟨rfl, rfl⟩ := h
            exact Nat.zero_le _
  · cases h
theorem lexF_all (s : ByteArray) : ∀ (f i ln : Nat) (acc : List Tk), (∀ t ∈ acc, t.text.size ≤ s.size ∧ t.n ≤ 999999999999) → (lexF s f i ln acc).1.length ≤ acc.length + (s.size - i) ∧ ∀ t ∈ (lexF s f i ln acc).1, t.text.size ≤ s.size ∧ t.n ≤ 999999999999 := by
  intro f
  induction f with
  | zero => intro i ln acc h; exact ⟨by simp [lexF], by simpa [lexF] using h⟩
  | succ f ih =>
    intro i ln acc h
    simp only [lexF]
    split
    · cases ht : tokAt s i ln with
      | none => simp
      | some x =>
        obtain ⟨t, k⟩ := x
        have h1 := tok_bounds ht
        have h2 := skipAll_bounds s k ln h1.2.1
        obtain ⟨h3, h4⟩ := ih (skipAll s k ln).1 (skipAll s k ln).2 (acc ++ [t]) (fun u hu => by
          rcases List.mem_append.1 hu with hu | hu
          · exact h u hu
          · rw [List.mem_singleton.1 hu]; exact ⟨tok_text ht, tok_num ht⟩)
        simp only [List.length_append, List.length_cons, List.length_nil] at h3
        exact ⟨by simp only; omega, h4⟩
    · exact ⟨by simp, h⟩
theorem lexAll_all (s : ByteArray) : (lexAll s).1.length ≤ 4000 ∧ ∀ t ∈ (lexAll s).1, t.text.size ≤ 4000 ∧ t.n ≤ 999999999999 := by
  by_cases h : 4000 < s.size
  · simp [lexAll, h]
  · rw [lexAll_eq s h]
    obtain ⟨h1, h2⟩ := lexF_all s (s.size - (skipAll s 0 1).1) (skipAll s 0 1).1 (skipAll s 0 1).2 [] (fun t ht => absurd ht (by simp))
    unfold lexG
    simp only [List.length_nil] at h1
    exact ⟨by omega, fun t ht => ⟨Nat.le_trans (h2 t ht).1 (by omega), (h2 t ht).2⟩⟩
/-- A row of words in memory, as the reader takes it. -/
def ToksAt (w : World) (la : Option Addr) (L : List Tk) : Prop :=
  ∀ j (h : j < L.length), ∃ g, la = some ⟨g, 0, none⟩ ∧ g < w.heap.size ∧ ∀ m, m < 4 → w.cell? ⟨g, 4 * j + m, none⟩ = L[j].cells[m]?
theorem cells_get (L : List Tk) (j m : Nat) (hj : j < L.length) (hm : m < 4) : (tkCells L)[4 * j + m]? = L[j].cells[m]? := by
  unfold tkCells
  induction L generalizing j with
  | nil => simp at hj
  | cons t L ih =>
    have h4 : t.cells.length = 4 := rfl
    rw [List.flatMap_cons]
    cases j with
    | zero => rw [List.getElem?_append_left (by omega)]; simp
    | succ j =>
      rw [List.getElem?_append_right (by omega), show 4 * (j + 1) + m - t.cells.length = 4 * j + m by omega, ih j (by simpa using hj)]
      simp
theorem toks_of {w : World} {B : Nat} {T : TypeId} {v : Value} {L : List Tk} (h : w.ownsRow B T 4 v L.length (tkCells L)) : ∃ la cap, v = .slice la L.length cap ∧ ToksAt w la L := by
  rcases h.2 with ⟨rfl, h0⟩ | ⟨g, cap, cur, rfl, hB, hg, hc, _, hs, ht⟩
  · exact ⟨none, 0, by rw [h0], fun j hj => absurd hj (by omega)⟩
  · refine ⟨_, cap, rfl, fun j hj => ⟨g, rfl, (Array.getElem?_eq_some_iff.1 hg).1, fun m hm => ?_⟩⟩
    rw [cell_of_row w g _ _ _ (0, 0) hg, ← cells_get L j m hj hm, ← ht, List.getElem?_take, if_pos (by omega), Array.getElem?_toList]
end Go.Proofs.Ytlmmomffanakiaa
namespace Go.Proofs.Ytlmmomffanakiaa
open Go.RowKit

theorem bel_pg {a b : World} {c n : Nat} (h : a.grownBy b (some c)) (hc : n ≤ c) (hn : n ≤ a.heap.size) : Below n a b :=
  ⟨h.os, h.tape, h.output, h.size, fun k hk => h.block k (by omega) (fun e => by have := Option.some.inj e; omega)⟩
theorem bel_six (w : World) (h n : Nat) (hn : n ≤ h) (a0 a1 a2 a3 a4 a5 : Value) : Below n w ((((((w.setCell ⟨h, 0, none⟩ a0).setCell ⟨h, 1, none⟩ a1).setCell ⟨h, 2, none⟩ a2).setCell ⟨h, 3, none⟩ a3).setCell ⟨h, 4, none⟩ a4).setCell ⟨h, 5, none⟩ a5) := by
  have H := fun (W : World) (j : Nat) (v : Value) => (Below.refl n W).setCell (p := ⟨h, j, none⟩) hn v
  exact (((((H w 0 a0).trans (H _ 1 a1)).trans (H _ 2 a2)).trans (H _ 3 a3)).trans (H _ 4 a4)).trans (H _ 5 a5)
theorem free_set {w : World} {g : Nat} (h : ∃ cs T, w.heap[g]? = some (.cells cs T (0, 0))) (b j : Nat) (v : Value) : ∃ cs T, (w.setCell ⟨b, j, none⟩ v).heap[g]? = some (.cells cs T (0, 0)) := by
  obtain ⟨cs, T, h⟩ := h
  by_cases e : g = b
  · subst e
    exact ⟨_, _, heap_setCell_same _ _ _ _ _ _ h⟩
  · exact ⟨_, _, (heap_setCell_other _ _ _ _ (by show g ≠ b; omega)).trans h⟩
theorem RowFree.below {w w' : World} {v : List Value} (h : RowFree w v) (hb : Below w.heap.size w w') : RowFree w' v := fun a n ca hv g o ha => by
  obtain ⟨cs, T, hg⟩ := h a n ca hv g o ha
  exact ⟨cs, T, (hb.block g (Array.getElem?_eq_some_iff.1 hg).1).trans hg⟩
theorem RowFree.set {w : World} {v : List Value} (h : RowFree w v) (b j : Nat) (x : Value) : RowFree (w.setCell ⟨b, j, none⟩ x) v := fun a n ca hv g o ha => free_set (h a n ca hv g o ha) b j x
theorem RowFree.six {w : World} {v : List Value} (h : RowFree w v) (b : Nat) (a0 a1 a2 a3 a4 a5 : Value) : RowFree ((((((w.setCell ⟨b, 0, none⟩ a0).setCell ⟨b, 1, none⟩ a1).setCell ⟨b, 2, none⟩ a2).setCell ⟨b, 3, none⟩ a3).setCell ⟨b, 4, none⟩ a4).setCell ⟨b, 5, none⟩ a5) v :=
  (((((h.set b 0 a0).set b 1 a1).set b 2 a2).set b 3 a3).set b 4 a4).set b 5 a5
theorem RowFree.none (w : World) (x0 x1 x2 x3 x4 : Value) : RowFree w [x0, x1, x2, x3, x4, .slice none 0 0] := fun a n ca hv g o ha => by
  simp only [List.getElem?_cons_succ, List.getElem?_cons_zero, Option.some.injEq, Value.slice.injEq] at hv
  obtain ⟨rfl, _⟩ := hv
  cases ha
/-- What the reader of words answers. -/
def Answers (w : World) (e : Ending) (w' : World) : Prop :=
  ∃ t v z, e = .returned (.tuple #[.agg v.toArray, .int .i64 z]) ∧ NAt w' w.heap.size w'.heap.size t v ∧ Sm t ∧ Flat 30 t ∧ wt t ≤ 8000 ∧ Below w.heap.size w w' ∧ RowFree w' v
theorem ans_none {w w' : World} {z : Int} (h : Below w.heap.size w w') : Answers w (.returned (.tuple #[.agg #[.int .i64 0, .string ⟨#[]⟩, .int .i64 0, .slice none 0 0, .int .i64 0, .slice none 0 0], .int .i64 z])) w' :=
  ⟨.mk 0 ⟨#[]⟩ 0 [] 0 [], [.int .i64 0, .string ⟨#[]⟩, .int .i64 0, .slice none 0 0, .int .i64 0, .slice none 0 0], z, rfl, by
    simp only [NAt]
    exact ⟨Nat.zero_le _, none, 0, none, 0, rfl, Nat.zero_le _, Nat.zero_le _, fun k hk => absurd hk (Nat.not_lt_zero _), trivial⟩, by
    simp only [Sm, SmL]; exact ⟨by decide, fun x hx => absurd hx (by simp), trivial⟩, by simp [Flat], by simp [wt, wtL], h, RowFree.none _ _ _ _ _ _⟩

set_option maxRecDepth 100000 in
set_option maxHeartbeats 3200000 in
theorem parse_any (la : Option Addr) (cap : Nat) (L : List Tk) (w : World) (hl : L.length ≤ 4000) (ht : ∀ t ∈ L, t.text.size ≤ 4000 ∧ t.n ≤ 999999999999) (hT : ToksAt w la L) :
    Calls Try.prog 34 #[.slice la L.length cap] w fun e w' => Answers w e w' := by
  obtain ⟨i0, hi0, hz0, hz1, hz2⟩ := info_parts info_nd
  go_enter Try.func34, Try.ntmps34
  go_wp2_with fail
  have bA := bel_alloc w (.cells #[Value.int IntKind.i64 0, Value.string ⟨#[]⟩, Value.int IntKind.i64 0, Value.slice none 0 0, Value.int IntKind.i64 0, Value.slice none 0 0] 27)
  have rA := heap_alloc_new w (.cells #[Value.int IntKind.i64 0, Value.string ⟨#[]⟩, Value.int IntKind.i64 0, Value.slice none 0 0, Value.int IntKind.i64 0, Value.slice none 0 0] 27)
  have sA := size_alloc w (.cells #[Value.int IntKind.i64 0, Value.string ⟨#[]⟩, Value.int IntKind.i64 0, Value.slice none 0 0, Value.int IntKind.i64 0, Value.slice none 0 0] 27)
  generalize w.alloc (.cells #[Value.int IntKind.i64 0, Value.string ⟨#[]⟩, Value.int IntKind.i64 0, Value.slice none 0 0, Value.int IntKind.i64 0, Value.slice none 0 0] 27) = wA at *
  have bB := bel_alloc wA (.cells #[.slice la L.length cap, .int .i64 0, .bool false] 75)
  have rB := heap_alloc_new wA (.cells #[.slice la L.length cap, .int .i64 0, .bool false] 75)
  have sB := size_alloc wA (.cells #[.slice la L.length cap, .int .i64 0, .bool false] 75)
  generalize wA.alloc (.cells #[.slice la L.length cap, .int .i64 0, .bool false] 75) = wB at *
  rw [sA] at rB
  have hbB : Below w.heap.size w wB := bA.trans (bB.mono (by omega))
  have hP : PS wB (w.heap.size + 1) la cap L 0 false :=
    ⟨rB, fun j hj => by
      obtain ⟨g, e, hg, hc⟩ := hT j hj
      exact ⟨g, e, by omega, fun m hm => (hbB.cell (p := ⟨g, 4 * j + m, none⟩) hg).trans (hc m hm)⟩, Nat.zero_le _, hl, ht⟩
  have rA' := (bB.block w.heap.size (by omega)).trans rA
  have EN := root_ok (w.heap.size + 1) la cap L 0 wB hP
  have hsB : Hid (wB.heap.size = w.heap.size + 2) := by show _ = _; omega
  clear sA sB rB rA bA bB hT hP
  refine EN.mono ?_
  rintro e w1 ⟨t, v, j, bd, rfl, hL, hRF⟩
  have hR := (hL.by'.block w.heap.size (by have := hsB.out; omega) (fun e => by have := Option.some.inj e; omega)).trans rA'
  have b1 : Below w.heap.size w w1 := hbB.trans (bel_pg hL.by' (by omega) (by have := hsB.out; omega))
  have hs1 : w.heap.size + 2 ≤ w1.heap.size := by have := hL.by'.size; have := hsB.out; omega
  have hP := hL.ps
  have hN : NAt w1 (w.heap.size + 2) w1.heap.size t v := by
    refine hL.tree.nat (fun g hg => ⟨?_, hg.2⟩)
    have := hg.1; have := hsB.out; omega
  have hS := hL.sm
  have hC := hL.cnt
  have hlj := hP.le
  have hw8 : bd = false → wt t ≤ 8000 := fun hb => by have := hC hb; omega
  clear hL hC EN rA' hsB hbB
  obtain ⟨k1, t1, n1, m1, a1, ca1, y1, b1', cb1, kk1, rfl⟩ := nd_cells hN
  have b2 := bel_alloc w1 (.cells #[.int .i64 k1, .string t1, .int .i64 n1, .slice a1 m1 ca1, .int .i64 y1, .slice b1' kk1 cb1] 27)
  have r2 := heap_alloc_new w1 (.cells #[.int .i64 k1, .string t1, .int .i64 n1, .slice a1 m1 ca1, .int .i64 y1, .slice b1' kk1 cb1] 27)
  have s2 := size_alloc w1 (.cells #[.int .i64 k1, .string t1, .int .i64 n1, .slice a1 m1 ca1, .int .i64 y1, .slice b1' kk1 cb1] 27)
  have hP2 := hP.below b2
  have hR2 := (b2.block w.heap.size (by omega)).trans hR
  have hN2 := hN.below b2 (Nat.le_refl _)
  have hb2 := b1.trans (b2.mono (by omega))
  have p1 := hP2.c1
  have p2 := hP2.c2
  have hRF2 := hRF.below b2
  clear hR hN hP b1 b2 hRF
  cases bd
  · by_cases hj : j < L.length
    · have hj' : ((j : Int) < (L.length : Int)) := by omega
      go_wp2_with fail
      refine (line_any _ _ _ _ _ _ _ hP2).mono ?_
      rintro e w3 ⟨⟨z, rfl⟩, hb3⟩
      have hR3 := (hb3.block w.heap.size (by omega)).trans hR2
      have d0 := cell_of_row _ _ 0 _ _ _ hR3
      have fd0 := frozen_of_row _ _ 0 _ _ hR3
      have d1 := cell_of_row _ _ 1 _ _ _ hR3
      have fd1 := frozen_of_row _ _ 1 _ _ hR3
      have d2 := cell_of_row _ _ 2 _ _ _ hR3
      have fd2 := frozen_of_row _ _ 2 _ _ hR3
      have d3 := cell_of_row _ _ 3 _ _ _ hR3
      have fd3 := frozen_of_row _ _ 3 _ _ hR3
      have d4 := cell_of_row _ _ 4 _ _ _ hR3
      have fd4 := frozen_of_row _ _ 4 _ _ hR3
      have d5 := cell_of_row _ _ 5 _ _ _ hR3
      have fd5 := frozen_of_row _ _ 5 _ _ hR3
      simp only [List.getElem?_toArray, List.getElem?_cons_zero, List.getElem?_cons_succ] at d0 d1 d2 d3 d4 d5
      have hb := hb2.trans (hb3.mono (by omega))
      clear hb2 hb3 hP2 p1 p2
      go_wp2_with fail
      refine bodyPost_ret (v := .tuple #[.agg #[.int .i64 0, .string ⟨#[]⟩, .int .i64 0, .slice none 0 0, .int .i64 0, .slice none 0 0], .int .i64 z]) (by simp [results, Try.results34, go_sem, *]) rfl ?_
      exact ans_none (hb.trans (bel_six _ _ _ (Nat.le_refl _) _ _ _ _ _ _))
    · have hj' : ¬ ((j : Int) < (L.length : Int)) := by omega
      have c0 := cell_of_row _ _ 0 _ _ _ r2
      have fc0 := frozen_of_row _ _ 0 _ _ r2
      have c1 := cell_of_row _ _ 1 _ _ _ r2
      have fc1 := frozen_of_row _ _ 1 _ _ r2
      have c2 := cell_of_row _ _ 2 _ _ _ r2
      have fc2 := frozen_of_row _ _ 2 _ _ r2
      have c3 := cell_of_row _ _ 3 _ _ _ r2
      have fc3 := frozen_of_row _ _ 3 _ _ r2
      have c4 := cell_of_row _ _ 4 _ _ _ r2
      have fc4 := frozen_of_row _ _ 4 _ _ r2
      have c5 := cell_of_row _ _ 5 _ _ _ r2
      have fc5 := frozen_of_row _ _ 5 _ _ r2
      simp only [List.getElem?_toArray, List.getElem?_cons_zero, List.getElem?_cons_succ] at c0 c1 c2 c3 c4 c5
      have h8 := hw8 rfl
      have EN := dp_any 31 (by decide) t _ _ _ 31 _ rfl hN2 (by omega) (by omega)
      clear hw8
      go_wp2_with fail
      refine EN.mono ?_
      rintro e w3 ⟨rfl, hb3⟩
      have hR3 := (hb3.block w.heap.size (by omega)).trans hR2
      have r3 := (hb3.block w1.heap.size (by omega)).trans r2
      have hN3 := hN2.below hb3 (by omega)
      have hb := hb2.trans (hb3.mono (by omega))
      have hRF3 := hRF2.below hb3
      have s3 := hb3.size
      clear c0 c1 c2 c3 c4 c5 fc0 fc1 fc2 fc3 fc4 fc5 EN hb2 hb3 hP2 p1 p2 hN2
      have d0 := cell_of_row _ _ 0 _ _ _ hR3
      have fd0 := frozen_of_row _ _ 0 _ _ hR3
      have d1 := cell_of_row _ _ 1 _ _ _ hR3
      have fd1 := frozen_of_row _ _ 1 _ _ hR3
      have d2 := cell_of_row _ _ 2 _ _ _ hR3
      have fd2 := frozen_of_row _ _ 2 _ _ hR3
      have d3 := cell_of_row _ _ 3 _ _ _ hR3
      have fd3 := frozen_of_row _ _ 3 _ _ hR3
      have d4 := cell_of_row _ _ 4 _ _ _ hR3
      have fd4 := frozen_of_row _ _ 4 _ _ hR3
      have d5 := cell_of_row _ _ 5 _ _ _ hR3
      have fd5 := frozen_of_row _ _ 5 _ _ hR3
      simp only [List.getElem?_toArray, List.getElem?_cons_zero, List.getElem?_cons_succ] at d0 d1 d2 d3 d4 d5
      have c0 := cell_of_row _ _ 0 _ _ _ r3
      have fc0 := frozen_of_row _ _ 0 _ _ r3
      have c1 := cell_of_row _ _ 1 _ _ _ r3
      have fc1 := frozen_of_row _ _ 1 _ _ r3
      have c2 := cell_of_row _ _ 2 _ _ _ r3
      have fc2 := frozen_of_row _ _ 2 _ _ r3
      have c3 := cell_of_row _ _ 3 _ _ _ r3
      have fc3 := frozen_of_row _ _ 3 _ _ r3
      have c4 := cell_of_row _ _ 4 _ _ _ r3
      have fc4 := frozen_of_row _ _ 4 _ _ r3
      have c5 := cell_of_row _ _ 5 _ _ _ r3
      have fc5 := frozen_of_row _ _ 5 _ _ r3
      simp only [List.getElem?_toArray, List.getElem?_cons_zero, List.getElem?_cons_succ] at c0 c1 c2 c3 c4 c5
      have hF := flat_of 31 t
      generalize dpt 31 t = q at *
      by_cases hq : 30 < q
      · have hq' : ((30 : Int) < (q : Int)) := by omega
        go_wp2_with fail
        refine bodyPost_ret (v := .tuple #[.agg #[.int .i64 0, .string ⟨#[]⟩, .int .i64 0, .slice none 0 0, .int .i64 0, .slice none 0 0], .int .i64 1]) (by simp [results, Try.results34, go_sem, *]) rfl ?_
        exact ans_none (hb.trans (bel_six _ _ _ (Nat.le_refl _) _ _ _ _ _ _))
      · have hq' : ¬ ((30 : Int) < (q : Int)) := by omega
        have hF' := hF 30 (by omega) (by omega)
        clear hF
        go_wp2_with fail
        refine bodyPost_ret (v := .tuple #[.agg #[.int .i64 k1, .string t1, .int .i64 n1, .slice a1 m1 ca1, .int .i64 y1, .slice b1' kk1 cb1], .int .i64 0]) (by simp [results, Try.results34, go_sem, *]) rfl ?_
        refine ⟨t, [.int .i64 k1, .string t1, .int .i64 n1, .slice a1 m1 ca1, .int .i64 y1, .slice b1' kk1 cb1], 0, rfl, ?_, hS, hF', h8, hb.trans (bel_six _ _ _ (Nat.le_refl _) _ _ _ _ _ _), hRF3.six _ _ _ _ _ _ _⟩
        exact hN3.later (by omega) (by rw [six_size]; omega) (fun p h1 h2 => six_other _ _ _ _ _ _ _ _ p (by omega))
  · go_wp2_with fail
    refine (line_any _ _ _ _ _ _ _ hP2).mono ?_
    rintro e w3 ⟨⟨z, rfl⟩, hb3⟩
    have hR3 := (hb3.block w.heap.size (by omega)).trans hR2
    have d0 := cell_of_row _ _ 0 _ _ _ hR3
    have fd0 := frozen_of_row _ _ 0 _ _ hR3
    have d1 := cell_of_row _ _ 1 _ _ _ hR3
    have fd1 := frozen_of_row _ _ 1 _ _ hR3
    have d2 := cell_of_row _ _ 2 _ _ _ hR3
    have fd2 := frozen_of_row _ _ 2 _ _ hR3
    have d3 := cell_of_row _ _ 3 _ _ _ hR3
    have fd3 := frozen_of_row _ _ 3 _ _ hR3
    have d4 := cell_of_row _ _ 4 _ _ _ hR3
    have fd4 := frozen_of_row _ _ 4 _ _ hR3
    have d5 := cell_of_row _ _ 5 _ _ _ hR3
    have fd5 := frozen_of_row _ _ 5 _ _ hR3
    simp only [List.getElem?_toArray, List.getElem?_cons_zero, List.getElem?_cons_succ] at d0 d1 d2 d3 d4 d5
    have hb := hb2.trans (hb3.mono (by omega))
    clear hb2 hb3 hP2 p1 p2
    go_wp2_with fail
    refine bodyPost_ret (v := .tuple #[.agg #[.int .i64 0, .string ⟨#[]⟩, .int .i64 0, .slice none 0 0, .int .i64 0, .slice none 0 0], .int .i64 z]) (by simp [results, Try.results34, go_sem, *]) rfl ?_
    exact ans_none (hb.trans (bel_six _ _ _ (Nat.le_refl _) _ _ _ _ _ _))
end Go.Proofs.Ytlmmomffanakiaa
namespace Go.Proofs.Ytlmmomffanakiaa
open Go.RowKit

set_option maxRecDepth 100000 in
set_option maxHeartbeats 1600000 in
theorem lex_wide (s : ByteArray) (w : World) (hs : s.size ≤ 2000000000) :
    Calls Try.prog 33 #[.string s] w fun e w' => ∃ v, e = .returned (.tuple #[v, .int .i64 ((lexAll s).2 : Nat)]) ∧ w'.ownsRow w.heap.size 70 4 v (lexAll s).1.length (tkCells (lexAll s).1) ∧ Below w.heap.size w w' := by
  by_cases h : s.size ≤ 1048576
  · exact lex_spec s w h
  · have hbig : 4000 < s.size := by omega
    have HE : Hid (lexAll s = ([], 1)) := by show _ = _; simp [lexAll, hbig]
    obtain ⟨i0, hi0, hz0, hz1, hz2⟩ := info_parts Try.infoTok
    go_enter Try.func33, Try.ntmps33
    go_wp2_with fail
    go_ret2
    rw [HE.out]
    exact ⟨_, rfl, owns_none w _ 4, below_one w _⟩

set_option maxRecDepth 100000 in
set_option maxHeartbeats 1600000 in
theorem read_any (s : ByteArray) (w : World) (hs : s.size ≤ 2000000000) :
    Calls Try.prog 19 #[.string s] w fun e w' => Answers w e w' := by
  obtain ⟨i0, hi0, hz0, hz1, hz2⟩ := info_parts info_nd
  have hla := lexAll_all s
  go_enter Try.func19, Try.ntmps19
  go_wp2_with fail
  have bA := bel_alloc w (.cells #[Value.int IntKind.i64 0, Value.string ⟨#[]⟩, Value.int IntKind.i64 0, Value.slice none 0 0, Value.int IntKind.i64 0, Value.slice none 0 0] 27)
  have rA := heap_alloc_new w (.cells #[Value.int IntKind.i64 0, Value.string ⟨#[]⟩, Value.int IntKind.i64 0, Value.slice none 0 0, Value.int IntKind.i64 0, Value.slice none 0 0] 27)
  have sA := size_alloc w (.cells #[Value.int IntKind.i64 0, Value.string ⟨#[]⟩, Value.int IntKind.i64 0, Value.slice none 0 0, Value.int IntKind.i64 0, Value.slice none 0 0] 27)
  generalize w.alloc (.cells #[Value.int IntKind.i64 0, Value.string ⟨#[]⟩, Value.int IntKind.i64 0, Value.slice none 0 0, Value.int IntKind.i64 0, Value.slice none 0 0] 27) = wA at *
  refine (lex_wide s wA hs).mono ?_
  rintro e w1 ⟨v, rfl, hown, hb1⟩
  obtain ⟨la, cap, rfl, hT⟩ := toks_of hown
  have hR := (hb1.block w.heap.size (by omega)).trans rA
  have hb := bA.trans (hb1.mono (by omega))
  have s1 := hb1.size
  clear hown bA rA hb1
  obtain ⟨hl, ht⟩ := hla
  generalize (lexAll s).2 = ln at *
  generalize (lexAll s).1 = L at *
  by_cases h0 : ln = 0
  · subst h0
    have EN := parse_any la cap L w1 hl ht hT
    go_wp2_with fail
    refine EN.mono ?_
    rintro e w2 ⟨t, v, z, rfl, hN, hS, hF, hw, hb2, hRF⟩
    obtain ⟨k1, t1, n1, m1, a1, ca1, y1, b1', cb1, kk1, rfl⟩ := nd_cells hN
    have hR2 := (hb2.block w.heap.size (by omega)).trans hR
    have hb' := hb.trans (hb2.mono (by omega))
    have s2 := hb2.size
    clear EN hb hb2 hR hT
    have d0 := cell_of_row _ _ 0 _ _ _ hR2
    have fd0 := frozen_of_row _ _ 0 _ _ hR2
    have d1 := cell_of_row _ _ 1 _ _ _ hR2
    have fd1 := frozen_of_row _ _ 1 _ _ hR2
    have d2 := cell_of_row _ _ 2 _ _ _ hR2
    have fd2 := frozen_of_row _ _ 2 _ _ hR2
    have d3 := cell_of_row _ _ 3 _ _ _ hR2
    have fd3 := frozen_of_row _ _ 3 _ _ hR2
    have d4 := cell_of_row _ _ 4 _ _ _ hR2
    have fd4 := frozen_of_row _ _ 4 _ _ hR2
    have d5 := cell_of_row _ _ 5 _ _ _ hR2
    have fd5 := frozen_of_row _ _ 5 _ _ hR2
    simp only [List.getElem?_toArray, List.getElem?_cons_zero, List.getElem?_cons_succ] at d0 d1 d2 d3 d4 d5
    go_wp2_with fail
    refine bodyPost_ret (v := .tuple #[.agg #[.int .i64 k1, .string t1, .int .i64 n1, .slice a1 m1 ca1, .int .i64 y1, .slice b1' kk1 cb1], .int .i64 z]) (by simp [results, Try.results19, go_sem, *]) rfl ?_
    refine ⟨t, [.int .i64 k1, .string t1, .int .i64 n1, .slice a1 m1 ca1, .int .i64 y1, .slice b1' kk1 cb1], z, rfl, ?_, hS, hF, hw, hb'.trans (bel_six _ _ _ (Nat.le_refl _) _ _ _ _ _ _), hRF.six _ _ _ _ _ _ _⟩
    exact hN.later (by omega) (by rw [six_size]; omega) (fun p h1 h2 => six_other _ _ _ _ _ _ _ _ p (by omega))
  · have h0' : ¬ ((ln : Int) = 0) := by omega
    have d0 := cell_of_row _ _ 0 _ _ _ hR
    have fd0 := frozen_of_row _ _ 0 _ _ hR
    have d1 := cell_of_row _ _ 1 _ _ _ hR
    have fd1 := frozen_of_row _ _ 1 _ _ hR
    have d2 := cell_of_row _ _ 2 _ _ _ hR
    have fd2 := frozen_of_row _ _ 2 _ _ hR
    have d3 := cell_of_row _ _ 3 _ _ _ hR
    have fd3 := frozen_of_row _ _ 3 _ _ hR
    have d4 := cell_of_row _ _ 4 _ _ _ hR
    have fd4 := frozen_of_row _ _ 4 _ _ hR
    have d5 := cell_of_row _ _ 5 _ _ _ hR
    have fd5 := frozen_of_row _ _ 5 _ _ hR
    simp only [List.getElem?_toArray, List.getElem?_cons_zero, List.getElem?_cons_succ] at d0 d1 d2 d3 d4 d5
    go_wp2_with fail
    refine bodyPost_ret (v := .tuple #[.agg #[.int .i64 0, .string ⟨#[]⟩, .int .i64 0, .slice none 0 0, .int .i64 0, .slice none 0 0], .int .i64 ln]) (by simp [results, Try.results19, go_sem, *]) rfl ?_
    exact ans_none (hb.trans (bel_six _ _ _ (Nat.le_refl _) _ _ _ _ _ _))
end Go.Proofs.Ytlmmomffanakiaa
