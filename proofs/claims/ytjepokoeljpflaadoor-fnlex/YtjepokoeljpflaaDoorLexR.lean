/- All words, told plainly: bounds and single steps. No program in this text. -/
import Derived.Test.YtjepokoeljpflaaDoorLexQ
namespace Go.Proofs.YtjepokoeljpflaaDoor
open Go.Lib

theorem skip_bounds (s : ByteArray) : ∀ (f i ln : Nat), i ≤ s.size → i ≤ (skip s f i ln).1 ∧ (skip s f i ln).1 ≤ s.size ∧ ln ≤ (skip s f i ln).2 ∧ (skip s f i ln).2 + i ≤ ln + (skip s f i ln).1 := by
  intro f
  induction f with
  | zero => intro i ln h; simp only [skip]; omega
  | succ f ih =>
    intro i ln h
    simp only [skip]
    split
    · rename_i hi
      split
      · have := ih (i + 1) (ln + 1) (by omega); omega
      · split
        · have := ih (i + 1) ln (by omega); omega
        · split
          · split
            · rename_i hd
              have h1 := endp_dash hi hd.1
              have h2 := endp_le ne10 s i h
              have := ih (endp ne10 s i) ln h2
              omega
            · simp only []; omega
          · simp only []; omega
    · simp only []; omega
theorem skipAll_bounds (s : ByteArray) (i ln : Nat) (h : i ≤ s.size) : i ≤ (skipAll s i ln).1 ∧ (skipAll s i ln).1 ≤ s.size ∧ ln ≤ (skipAll s i ln).2 ∧ (skipAll s i ln).2 + i ≤ ln + (skipAll s i ln).1 := skip_bounds s _ i ln h

theorem str_bounds (s : ByteArray) : ∀ (f k : Nat) (acc l : List UInt8) (k' : Nat), strAt s f k acc = some (l, k') → k < k' ∧ k' ≤ s.size := by
  intro f
  induction f with
  | zero => intro k acc l k' h; simp [strAt] at h
  | succ f ih =>
    intro k acc l k' h
    simp only [strAt] at h
    split at h
    · rename_i hk
      split at h
      · cases h
      · split at h
        · simp only [Option.some.injEq, Prod.mk.injEq] at h; omega
        · split at h
          · split at h
            · split at h
              · have := ih _ _ _ _ h; omega
              · split at h
                · have := ih _ _ _ _ h; omega
                · cases h
            · cases h
          · have := ih _ _ _ _ h; omega
    · cases h
theorem signW_le (s : ByteArray) (i : Nat) (hi : i < s.size) : i + signW s i ≤ s.size ∧ signW s i ≤ 2 := by
  unfold signW
  repeat' split
  all_goals omega
theorem tok_bounds {s : ByteArray} {i ln k : Nat} {t : Tk} (h : tokAt s i ln = some (t, k)) : i < k ∧ k ≤ s.size ∧ t.line = ln ∧ t.kind ≤ 4 ∧ t.n ≤ 999999999999 := by
  unfold tokAt at h
  by_cases hi : i < s.size
  · rw [dif_pos hi] at h
    cases hL : isL s[i]
    · rw [if_neg (by rw [hL]; decide)] at h
      cases hD : isD s[i]
      · rw [if_neg (by rw [hD]; decide)] at h
        by_cases h34 : s[i].toNat = 34
        · rw [if_pos h34] at h
          cases hs : strAll s (i + 1) [] with
          | none => rw [hs] at h; cases h
          | some x =>
            rw [hs] at h
            simp only [Option.map_some, Option.some.injEq, Prod.mk.injEq] at h
            obtain ⟨rfl, rfl⟩ := h
            have := str_bounds s _ _ _ _ _ hs
            exact ⟨by omega, by omega, rfl, by simp, by simp⟩
        · rw [if_neg h34] at h
          by_cases hw : signW s i = 0
          · rw [if_pos hw] at h; cases h
          · rw [if_neg hw] at h
            simp only [Option.some.injEq, Prod.mk.injEq] at h
            obtain ⟨rfl, rfl⟩ := h
            have := signW_le s i hi
            exact ⟨by omega, by omega, rfl, by simp, by simp⟩
      · rw [if_pos hD] at h
        unfold numAt at h
        split at h
        · cases h
        · split at h
          · cases h
          · simp only [Option.map_some, Option.some.injEq, Prod.mk.injEq] at h
            obtain ⟨rfl, rfl⟩ := h
            have h1 := endp_ge isD s (i + 1)
            rw [endp_lt hi hD] at h1
            exact ⟨by omega, endp_le isD s i (by omega), rfl, by simp, by simp only []; omega⟩
    · rw [if_pos hL] at h
      simp only [Option.some.injEq, Prod.mk.injEq] at h
      obtain ⟨rfl, rfl⟩ := h
      have h1 := endp_ge isLD s (i + 1)
      rw [endp_lt hi (by simp [isLD, hL])] at h1
      exact ⟨by omega, endp_le isLD s i (by omega), rfl, by simp only []; split <;> omega, by simp⟩
  · rw [dif_neg hi] at h; cases h

def lexG (s : ByteArray) (i ln : Nat) (acc : List Tk) : List Tk × Nat := lexF s (s.size - i) i ln acc
theorem lexF_out (s : ByteArray) (f i ln : Nat) (acc : List Tk) (h : ¬ i < s.size) : lexF s f i ln acc = (acc, 0) := by
  cases f with
  | zero => rfl
  | succ f => simp [lexF, h]
theorem lexF_fuel (s : ByteArray) : ∀ (f f' i ln : Nat) (acc : List Tk), s.size ≤ i + f → s.size ≤ i + f' → lexF s f i ln acc = lexF s f' i ln acc := by
  intro f
  induction f with
  | zero => intro f' i ln acc h _; rw [lexF_out _ _ _ _ _ (by omega), lexF_out _ _ _ _ _ (by omega)]
  | succ f ih =>
    intro f' i ln acc h h'
    by_cases hi : i < s.size
    · cases f' with
      | zero => omega
      | succ f' =>
        simp only [lexF, if_pos hi]
        cases ht : tokAt s i ln with
        | none => rfl
        | some x =>
          obtain ⟨t, k⟩ := x
          have h1 := tok_bounds ht
          have h2 := skipAll_bounds s k ln h1.2.1
          exact ih f' _ _ _ (by omega) (by omega)
    · rw [lexF_out _ _ _ _ _ hi, lexF_out _ _ _ _ _ hi]
theorem lex_end {s : ByteArray} {i ln : Nat} {acc : List Tk} (h : ¬ i < s.size) : lexG s i ln acc = (acc, 0) := lexF_out _ _ _ _ _ h
theorem lex_bad {s : ByteArray} {i ln : Nat} {acc : List Tk} (h : i < s.size) (ht : tokAt s i ln = none) : lexG s i ln acc = ([], ln) := by
  unfold lexG
  rw [show s.size - i = (s.size - i - 1) + 1 by omega]
  simp only [lexF, if_pos h, ht]
theorem lex_step {s : ByteArray} {i ln k : Nat} {acc : List Tk} {t : Tk} (ht : tokAt s i ln = some (t, k)) : lexG s (skipAll s k ln).1 (skipAll s k ln).2 (acc ++ [t]) = lexG s i ln acc := by
  have h1 := tok_bounds ht
  have h2 := skipAll_bounds s k ln h1.2.1
  have hi : i < s.size := by omega
  have e : lexG s i ln acc = lexF s (s.size - i - 1) (skipAll s k ln).1 (skipAll s k ln).2 (acc ++ [t]) := by
    unfold lexG
    rw [show s.size - i = (s.size - i - 1) + 1 by omega]
    simp only [lexF, if_pos hi, ht]
    rfl
  rw [e]
  exact lexF_fuel s _ _ _ _ _ (by omega) (by omega)
theorem lexAll_eq (s : ByteArray) (h : ¬ 4000 < s.size) : lexAll s = lexG s (skipAll s 0 1).1 (skipAll s 0 1).2 [] := by
  have h2 := skipAll_bounds s 0 1 (Nat.zero_le _)
  unfold lexAll lexG
  rw [if_neg h]
  exact lexF_fuel s _ _ _ _ _ (by omega) (by omega)

/-- The words' own cells, one behind the other. -/
def tkCells (l : List Tk) : List Value := l.flatMap Tk.cells
theorem tkCells_snoc (l : List Tk) (t : Tk) : tkCells (l ++ [t]) = tkCells l ++ t.cells := by simp [tkCells]
theorem tkCells_len (l : List Tk) : (tkCells l).length = l.length * 4 := by
  induction l with
  | nil => rfl
  | cons t l ih =>
    have : (tkCells (t :: l)).length = 4 + (tkCells l).length := by simp only [tkCells, List.flatMap_cons, List.length_append]; rfl
    rw [this, ih, List.length_cons]; omega
end Go.Proofs.YtjepokoeljpflaaDoor
