/- A text, a value is copied by the program. -/
import Derived.Test.YtnbkgpmibgdlmaaValR
import Derived.Test.YtnbkgpmibgdlmaaShelf
namespace Go.Proofs.Ytnbkgpmibgdlmaa
open Go.RowKit

theorem rows2 (w : World) (A B : Obj) : ((w.alloc A).alloc B).heap[w.heap.size]? = some A ∧ ((w.alloc A).alloc B).heap[w.heap.size + 1]? = some B ∧ ((w.alloc A).alloc B).heap.size = w.heap.size + 2 ∧ Below w.heap.size w ((w.alloc A).alloc B) := by
  have s1 := size_alloc w A
  refine ⟨?_, ?_, by simp, ((Below.refl _ _).alloc (Nat.le_refl _) _).alloc (by simp) _⟩
  · rw [Below.heap_alloc _ _ _ (by omega)]; exact heap_alloc_new w A
  · have := heap_alloc_new (w.alloc A) B
    rwa [s1] at this
theorem rowZ' {w : World} {b : Nat} {T : TypeId} (r : w.heap[b]? = some (.cells #[.int .i64 0, .int .i64 0, .string ⟨#[]⟩] T (0, 0))) :
    w.frozen? ⟨b, 0, none⟩ = false ∧ w.frozen? ⟨b, 1, none⟩ = false ∧ w.frozen? ⟨b, 2, none⟩ = false ∧ w.cell? ⟨b, 0, none⟩ = some (.int .i64 0) ∧ w.cell? ⟨b, 1, none⟩ = some (.int .i64 0) ∧ w.cell? ⟨b, 2, none⟩ = some (.string ⟨#[]⟩) :=
  ⟨frozen_of_row _ _ _ _ _ r, frozen_of_row _ _ _ _ _ r, frozen_of_row _ _ _ _ _ r, cell_of_row _ _ _ _ _ _ r, cell_of_row _ _ _ _ _ _ r, cell_of_row _ _ _ _ _ _ r⟩
set_option maxRecDepth 100000 in
theorem clone_any (s : ByteArray) (w : World) (hs : s.size ≤ 1048576) : Calls Try.prog 71 #[.string s] w fun e w' => e = .returned (.string s) ∧ Below w.heap.size w w' := by
  go_enter Try.func71, Try.ntmps71
  go_wp2_with fail
  refine (Try.stringslite_Clone s _ (by omega)).mono ?_
  rintro e w1 ⟨rfl, hb⟩
  go_wp2_with fail
  go_ret
  exact ⟨rfl, hb⟩
set_option maxRecDepth 100000 in
set_option maxHeartbeats 800000 in
theorem copied_any (k n : Int) (s : ByteArray) (w : World) (hs : s.size ≤ 1048576) :
    Calls Try.prog 37 #[.agg #[.int .i64 k, .int .i64 n, .string s]] w fun e w' => e = .returned (.agg #[.int .i64 k, .int .i64 n, .string s]) ∧ Below w.heap.size w w' := by
  obtain ⟨rA, rB, hs0, B0⟩ := rows2 w (Obj.cells #[.int .i64 k, .int .i64 n, .string s] 36) (Obj.cells #[.int .i64 0, .int .i64 0, .string ⟨#[]⟩] 36)
  go_enter Try.func37, Try.ntmps37
  go_wp2_with fail
  refine (clone_any s _ hs).mono ?_
  rintro e w1 ⟨rfl, hb1⟩
  have rA1 := (hb1.block w.heap.size (by rw [hs0]; omega)).trans rA
  have rB1 := (hb1.block (w.heap.size + 1) (by rw [hs0]; omega)).trans rB
  have hs1 := hb1.size
  rw [hs0] at hs1
  have BW : Below w.heap.size w w1 := B0.trans (hb1.mono (by rw [hs0]; omega))
  have k0 := cell_of_row _ _ 0 _ _ _ rA1
  have k1 := cell_of_row _ _ 1 _ _ _ rA1
  have k2 := cell_of_row _ _ 2 _ _ _ rA1
  simp only [List.getElem?_toArray, List.getElem?_cons_zero, List.getElem?_cons_succ] at k0 k1 k2
  have q0 := frozen_of_row _ _ 0 _ _ rA1
  have q1 := frozen_of_row _ _ 1 _ _ rA1
  have q2 := frozen_of_row _ _ 2 _ _ rA1
  obtain ⟨f0, f1, f2, c0, c1, c2⟩ := rowZ' rB1
  clear rA rB rA1 rB1 hb1 B0 hs0
  go_wp2_with fail
  exact bodyPost_ret (v := .agg #[.int .i64 k, .int .i64 n, .string s]) (by simp [results, Try.results37, go_sem, *]) rfl ⟨rfl, by repeat (first | (with_reducible exact BW) | (with_reducible refine Below.setCell ?_ (by simp <;> omega) _))⟩
end Go.Proofs.Ytnbkgpmibgdlmaa
