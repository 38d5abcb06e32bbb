/- The lexer's cells as they are built. -/
import Derived.Test.YtjepokoeljpflaaDoorLxH
import Derived.Test.YtjepokoeljpflaaDoorLexM
namespace Go.Proofs.YtjepokoeljpflaaDoor
open Go.RowKit

theorem lexCells_size (s : ByteArray) (a b : Nat) : (lexCells s a b).size = 259 := by simp [lexCells, table_size]
theorem lexCells_one (s : ByteArray) (a b : Nat) : (lexCells s a b).all (·.oneCell') = true := by
  unfold lexCells
  rw [Array.all_append, table_one]; simp [Value.oneCell']
theorem fold_set (l : List Value) : ∀ (k : Nat) (A : Array Value) (j : Nat), (List.foldl (fun (cs : Array Value) (x : Value × Nat) => cs.setIfInBounds (3 + x.snd) x.fst) A (l.zipIdx k))[j]? = if 3 + k ≤ j ∧ j < 3 + k + l.length ∧ j < A.size then l[j - 3 - k]? else A[j]? := by
  induction l with
  | nil => intro k A j; simp; omega
  | cons v l ih =>
    intro k A j
    rw [List.zipIdx_cons, List.foldl_cons, ih]
    simp only [Array.size_setIfInBounds, List.length_cons]
    by_cases h1 : j < A.size
    · by_cases h2 : 3 + (k + 1) ≤ j ∧ j < 3 + (k + 1) + l.length
      · rw [if_pos ⟨h2.1, h2.2, h1⟩, if_pos ⟨by omega, by omega, h1⟩, show j - 3 - k = (j - 3 - (k + 1)) + 1 by omega, List.getElem?_cons_succ]
      · rw [if_neg (by omega), Array.getElem?_setIfInBounds]
        by_cases h3 : 3 + k = j
        · rw [if_pos h3, if_pos (by omega), if_pos ⟨by omega, by omega, h1⟩, show j - 3 - k = 0 by omega]; rfl
        · rw [if_neg h3, if_neg (by omega)]
    · rw [if_neg (by omega), if_neg (by omega), Array.getElem?_setIfInBounds]
      split
      · rw [if_neg (by omega), Array.getElem?_eq_none (by omega)]
      · rfl
theorem zsize : Tryd.zeroCells44.size = 259 := by kernel_rfl
theorem zone : Tryd.zeroCells44[1]? = some (.int .i64 0) := by kernel_rfl
set_option linter.unusedSimpArgs false in
theorem built_lex (s : ByteArray) (tb : Array Value) (h : tb = table clsN) :
    Array.foldl (fun (cs : Array Value) (x : Value × Nat) => cs.setIfInBounds (3 + x.snd) x.fst) ((Tryd.zeroCells44.setIfInBounds 0 (Value.string s)).setIfInBounds 2 (Value.int IntKind.i64 1)) tb.zipIdx 0 256 = lexCells s 0 1 := by
  have htb : tb.size = 256 := by rw [h]; exact table_size _
  have e : (256 : Nat) = tb.zipIdx.size := by simp [htb]
  rw [e, ← Array.foldl_toList, Array.toList_zipIdx]
  apply Array.ext_getElem?
  intro j
  rw [fold_set]
  simp only [Array.size_setIfInBounds, zsize, Array.length_toList, htb]
  unfold lexCells
  rw [← h]
  by_cases h3 : 3 ≤ j
  · by_cases hj : j < 259
    · rw [if_pos ⟨by omega, by omega, hj⟩, Array.getElem?_append_right (by simpa using h3)]
      simp
    · rw [if_neg (by omega), Array.getElem?_eq_none (by simp [zsize]; omega), Array.getElem?_eq_none (by simp [htb]; omega)]
  · rw [if_neg (by omega), Array.getElem?_append_left (by simp; omega)]
    have : j = 0 ∨ j = 1 ∨ j = 2 := by omega
    rcases this with rfl | rfl | rfl
    · simp [zsize]
    · have hz := zone
      rw [Array.getElem?_eq_getElem (by rw [zsize]; decide)] at hz
      simp
      exact Option.some.inj hz
    · simp [zsize]
end Go.Proofs.YtjepokoeljpflaaDoor
