/- The walk of FnExactLex: it returns true. -/
import Derived.Test.YtjepokoeljpflaaDoorMarkY
namespace Go.Proofs.YtjepokoeljpflaaDoor
open Go.RowKit

theorem lexF_len (s : ByteArray) : ∀ (f i ln : Nat) (acc : List Tk), (lexF s f i ln acc).1.length ≤ acc.length + (s.size - i) := by
  intro f
  induction f with
  | zero => intro i ln acc; simp [lexF]
  | succ f ih =>
    intro i ln acc
    simp only [lexF]
    split
    · cases ht : tokAt s i ln with
      | none => simp
      | some x =>
        obtain ⟨t, k⟩ := x
        have h1 := tok_bounds ht
        have h2 := skipAll_bounds s k ln h1.2.1
        have h3 := ih (skipAll s k ln).1 (skipAll s k ln).2 (acc ++ [t])
        simp only [List.length_append, List.length_cons, List.length_nil] at h3
        simp only
        omega
    · simp
theorem lexAll_len (s : ByteArray) : (lexAll s).1.length ≤ s.size := by
  by_cases h : 4000 < s.size
  · simp [lexAll, h]
  · rw [lexAll_eq s h]
    have := lexF_len s (s.size - (skipAll s 0 1).1) (skipAll s 0 1).1 (skipAll s 0 1).2 []
    unfold lexG
    simp only [List.length_nil] at this
    omega
theorem own_shape {w : World} {B : Nat} {T : TypeId} {v : Value} {L : List Tk} (h : w.ownsRow B T 4 v L.length (tkCells L)) :
    ∃ b cap, v = .slice b L.length cap ∧ (L.length = 0 ∨ ∃ g cs, b = some ⟨g, 0, none⟩ ∧ B ≤ g ∧ g < w.heap.size ∧ w.heap[g]? = some (.cells cs T (0, 0)) ∧ 4 * L.length ≤ cs.size ∧ ∀ m, m < 4 * L.length → cs[m]? = (tkCells L)[m]?) := by
  rcases h.2 with ⟨rfl, h0⟩ | ⟨g, cap, cur, rfl, hB, hg, hc, _, hs, ht⟩
  · exact ⟨none, 0, by rw [h0], .inl h0⟩
  · refine ⟨_, cap, rfl, .inr ⟨g, cur, rfl, hB, (Array.getElem?_eq_some_iff.1 hg).1, hg, by omega, fun m hm => ?_⟩⟩
    rw [← ht, List.getElem?_take, if_pos (by omega), Array.getElem?_toList]
theorem shape_cells {w : World} {T : TypeId} {L : List Tk} {g : Nat} {cs : Array Value} (hg : w.heap[g]? = some (.cells cs T (0, 0))) (hall : ∀ m, m < 4 * L.length → cs[m]? = (tkCells L)[m]?) (i : Nat) (h : i < L.length) (j : Nat) (hj : j < 4) : w.cell? ⟨g, 4 * i + j, none⟩ = L[i].cells[j]? := by
  rw [cell_of_row w g _ _ _ (0, 0) hg, hall _ (by omega), tk_get L i j h hj]
end Go.Proofs.YtjepokoeljpflaaDoor
