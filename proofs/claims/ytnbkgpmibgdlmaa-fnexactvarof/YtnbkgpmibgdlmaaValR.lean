/- Worlds in a row: what later ones keep of earlier ones. -/
import Derived.Test.YtnbkgpmibgdlmaaValU
import Derived.Deep.RegionHeld3
import Derived.Deep.Cut
namespace Go.Proofs.Ytnbkgpmibgdlmaa
open Go.RowKit

theorem set_same {W : World} {b i : Nat} {u v : Value} (h : W.cell? ⟨b, i, none⟩ = some u) : (W.setCell ⟨b, i, none⟩ v).cell? ⟨b, i, none⟩ = some v := by
  unfold World.cell? at h ⊢
  simp only [World.setCell, Array.getElem?_modify, if_true] at h ⊢
  cases hg : W.heap[b]? with
  | none => simp [hg] at h
  | some o =>
    cases o <;> simp_all
    rw [Array.getElem?_setIfInBounds]
    have := (Array.getElem?_eq_some_iff.1 h).1
    simp [this]
theorem set_ne {W : World} {b i j : Nat} {v : Value} (h : i ≠ j) : (W.setCell ⟨b, i, none⟩ v).cell? ⟨b, j, none⟩ = W.cell? ⟨b, j, none⟩ := by
  unfold World.cell?
  simp only [World.setCell, Array.getElem?_modify, if_true]
  cases hg : W.heap[b]? with
  | none => simp
  | some o =>
    cases o <;> simp
    rw [Array.getElem?_setIfInBounds, if_neg h]
theorem set3 {W : World} {b : Nat} {u0 u1 u2 x y z : Value} (h0 : W.cell? ⟨b, 0, none⟩ = some u0) (h1 : W.cell? ⟨b, 1, none⟩ = some u1) (h2 : W.cell? ⟨b, 2, none⟩ = some u2) :
    (((W.setCell ⟨b, 0, none⟩ x).setCell ⟨b, 1, none⟩ y).setCell ⟨b, 2, none⟩ z).cell? ⟨b, 0, none⟩ = some x ∧ (((W.setCell ⟨b, 0, none⟩ x).setCell ⟨b, 1, none⟩ y).setCell ⟨b, 2, none⟩ z).cell? ⟨b, 1, none⟩ = some y ∧ (((W.setCell ⟨b, 0, none⟩ x).setCell ⟨b, 1, none⟩ y).setCell ⟨b, 2, none⟩ z).cell? ⟨b, 2, none⟩ = some z :=
  ⟨by rw [set_ne (by decide), set_ne (by decide)]; exact set_same h0, by rw [set_ne (by decide)]; exact set_same (by rw [set_ne (by decide)]; exact h1), set_same (by rw [set_ne (by decide), set_ne (by decide)]; exact h2)⟩
/-- A variable of a value's shape that nothing has been put into yet. -/
def Zc (W : World) (b : Nat) : Prop := b < W.heap.size ∧ W.cell? ⟨b, 0, none⟩ = some (.int .i64 0) ∧ W.cell? ⟨b, 1, none⟩ = some (.int .i64 0) ∧ W.cell? ⟨b, 2, none⟩ = some (.string ⟨#[]⟩)
theorem zc_first {W W' : World} {T : TypeId} (hb : Below (W.alloc (.cells #[.int .i64 0, .int .i64 0, .string ⟨#[]⟩] T)).heap.size (W.alloc (.cells #[.int .i64 0, .int .i64 0, .string ⟨#[]⟩] T)) W') : Zc W' W.heap.size := by
  have hs := hb.size
  have hl : W.heap.size < (W.alloc (.cells #[.int .i64 0, .int .i64 0, .string ⟨#[]⟩] T)).heap.size := by simp
  refine ⟨Nat.lt_of_lt_of_le hl hs, ?_, ?_, ?_⟩
  · rw [hb.cell (p := ⟨W.heap.size, 0, none⟩) hl, cell_of_row _ _ _ _ _ _ (heap_alloc_new _ _)]; rfl
  · rw [hb.cell (p := ⟨W.heap.size, 1, none⟩) hl, cell_of_row _ _ _ _ _ _ (heap_alloc_new _ _)]; rfl
  · rw [hb.cell (p := ⟨W.heap.size, 2, none⟩) hl, cell_of_row _ _ _ _ _ _ (heap_alloc_new _ _)]; rfl
theorem zc_first' {W W' : World} {T : TypeId} (hb : Below (W.alloc (.cells #[.int .i64 0, .int .i64 0, .string ⟨#[]⟩] T)).drew.heap.size (W.alloc (.cells #[.int .i64 0, .int .i64 0, .string ⟨#[]⟩] T)).drew W') : Zc W' W.heap.size :=
  zc_first (T := T) (((Below.refl _ _).drew).trans hb)
theorem zc_b {W W' : World} {b : Nat} (h : Zc W b) (hb : Below W.heap.size W W') : Zc W' b :=
  ⟨Nat.lt_of_lt_of_le h.1 hb.size, (hb.cell (p := ⟨b, 0, none⟩) h.1).trans h.2.1, (hb.cell (p := ⟨b, 1, none⟩) h.1).trans h.2.2.1, (hb.cell (p := ⟨b, 2, none⟩) h.1).trans h.2.2.2⟩
theorem zc_set {W : World} {b : Nat} {x y z : Value} (h : Zc W b) :
    b < (((W.setCell ⟨b, 0, none⟩ x).setCell ⟨b, 1, none⟩ y).setCell ⟨b, 2, none⟩ z).heap.size ∧ (((W.setCell ⟨b, 0, none⟩ x).setCell ⟨b, 1, none⟩ y).setCell ⟨b, 2, none⟩ z).cell? ⟨b, 0, none⟩ = some x ∧ (((W.setCell ⟨b, 0, none⟩ x).setCell ⟨b, 1, none⟩ y).setCell ⟨b, 2, none⟩ z).cell? ⟨b, 1, none⟩ = some y ∧ (((W.setCell ⟨b, 0, none⟩ x).setCell ⟨b, 1, none⟩ y).setCell ⟨b, 2, none⟩ z).cell? ⟨b, 2, none⟩ = some z :=
  ⟨by simpa using h.1, set3 h.2.1 h.2.2.1 h.2.2.2⟩
theorem al_set {W : World} {T : TypeId} {x y z : Value} :
    W.heap.size < (W.alloc (.cells #[x, y, z] T)).heap.size ∧ (W.alloc (.cells #[x, y, z] T)).cell? ⟨W.heap.size, 0, none⟩ = some x ∧ (W.alloc (.cells #[x, y, z] T)).cell? ⟨W.heap.size, 1, none⟩ = some y ∧ (W.alloc (.cells #[x, y, z] T)).cell? ⟨W.heap.size, 2, none⟩ = some z :=
  ⟨by simp, by rw [cell_of_row _ _ _ _ _ _ (heap_alloc_new _ _)]; rfl, by rw [cell_of_row _ _ _ _ _ _ (heap_alloc_new _ _)]; rfl, by rw [cell_of_row _ _ _ _ _ _ (heap_alloc_new _ _)]; rfl⟩
theorem bel_step {W0 W W' : World} {Q : Prop} (h : Below W0.heap.size W0 W ∧ Q) (hb : Below W.heap.size W W') : Below W0.heap.size W0 W' := h.1.trans (hb.mono h.1.size)
theorem bel_of {A : Nat} {W W' : World} {Q : Prop} (h : Below A W W' ∧ Q) : Below A W W' := h.1
theorem bel_sz {W0 W : World} (h : Below W0.heap.size W0 W) : W0.heap.size ≤ W.heap.size := h.size
theorem bel_dr {W0 W : World} (h : Below W0.heap.size W0 W) : Below W0.heap.size W0 W.drew := h.drew
theorem bel_s3 {W0 W : World} {b i j k : Nat} {x y z : Value} (h : Below W0.heap.size W0 W) (hb : W0.heap.size ≤ b) : Below W0.heap.size W0 (((W.setCell ⟨b, i, none⟩ x).setCell ⟨b, j, none⟩ y).setCell ⟨b, k, none⟩ z) := ((h.setCell hb _).setCell hb _).setCell hb _
theorem bel_al {W0 W : World} (h : Below W0.heap.size W0 W) (o : Obj) : Below W0.heap.size W0 (W.alloc o) := h.alloc h.size o
theorem rows3 (w : World) (A B C : Obj) : (((w.alloc A).alloc B).alloc C).heap[w.heap.size]? = some A ∧ (((w.alloc A).alloc B).alloc C).heap[w.heap.size + 1]? = some B ∧ (((w.alloc A).alloc B).alloc C).heap[w.heap.size + 1 + 1]? = some C ∧ (((w.alloc A).alloc B).alloc C).heap.size = w.heap.size + 3 ∧ Below w.heap.size w (((w.alloc A).alloc B).alloc C) := by
  have s1 := size_alloc w A
  have s2 := size_alloc (w.alloc A) B
  refine ⟨?_, ?_, ?_, by simp, (((Below.refl _ _).alloc (Nat.le_refl _) _).alloc (by simp) _).alloc (by simp <;> omega) _⟩
  · rw [Below.heap_alloc _ _ _ (by omega), Below.heap_alloc _ _ _ (by omega)]; exact heap_alloc_new w A
  · rw [Below.heap_alloc _ _ _ (by omega)]
    have := heap_alloc_new (w.alloc A) B
    rwa [s1] at this
  · have := heap_alloc_new ((w.alloc A).alloc B) C
    rwa [s2, s1] at this
end Go.Proofs.Ytnbkgpmibgdlmaa
