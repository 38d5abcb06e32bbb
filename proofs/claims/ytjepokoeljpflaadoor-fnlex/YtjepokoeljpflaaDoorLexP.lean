/- Words, told plainly: where a run of bytes ends, what stands between words, the word at a place, all words. No program in this text. -/
import Derived.Test.YtjepokoeljpflaaDoorRows
import Derived.Lib.Strings
namespace Go.Proofs.YtjepokoeljpflaaDoor
open Go.Lib

theorem cons_at (s : ByteArray) (p : Nat) (h : p < s.size) : s.data.toList.drop p = s[p] :: s.data.toList.drop (p + 1) := by
  rw [List.drop_eq_getElem_cons (by simpa using h)]; rfl
theorem none_at (s : ByteArray) (p : Nat) (h : ¬ p < s.size) : s.data.toList.drop p = [] := by
  rw [List.drop_eq_nil_iff, ← size_eq]; omega

/-- Where a run of bytes of one kind ends. -/
def endp (p : UInt8 → Bool) (s : ByteArray) (i : Nat) : Nat := i + ((s.data.toList.drop i).takeWhile p).length
theorem endp_lt {p : UInt8 → Bool} {s : ByteArray} {i : Nat} (h : i < s.size) (hp : p s[i] = true) : endp p s (i + 1) = endp p s i := by
  unfold endp; rw [cons_at s i h, List.takeWhile_cons, if_pos hp, List.length_cons]; omega
theorem endp_no {p : UInt8 → Bool} {s : ByteArray} {i : Nat} (h : i < s.size) (hp : p s[i] = false) : endp p s i = i := by
  unfold endp; rw [cons_at s i h, List.takeWhile_cons, if_neg (by simp [hp])]; rfl
theorem endp_out {p : UInt8 → Bool} {s : ByteArray} {i : Nat} (h : ¬ i < s.size) : endp p s i = i := by
  unfold endp; rw [none_at s i h]; rfl
theorem endp_ge (p : UInt8 → Bool) (s : ByteArray) (i : Nat) : i ≤ endp p s i := by unfold endp; omega
theorem endp_le (p : UInt8 → Bool) (s : ByteArray) (i : Nat) (h : i ≤ s.size) : endp p s i ≤ s.size := by
  have h1 := (List.takeWhile_prefix p (l := s.data.toList.drop i)).length_le
  rw [List.length_drop, ← size_eq] at h1
  unfold endp; omega

def isL (b : UInt8) : Bool := decide (97 ≤ b.toNat ∧ b.toNat ≤ 122) || decide (65 ≤ b.toNat ∧ b.toNat ≤ 90) || decide (b.toNat = 95)
def isD (b : UInt8) : Bool := decide (48 ≤ b.toNat ∧ b.toNat ≤ 57)
def isLD (b : UInt8) : Bool := isL b || isD b
def ne10 (b : UInt8) : Bool := decide (b.toNat ≠ 10)

/-- What stands between words: the place and the line of the next one. -/
def skip (s : ByteArray) : Nat → Nat → Nat → Nat × Nat
  | 0, i, ln => (i, ln)
  | f + 1, i, ln =>
    if h : i < s.size then
      if s[i].toNat = 10 then skip s f (i + 1) (ln + 1)
      else if s[i].toNat = 32 ∨ s[i].toNat = 9 then skip s f (i + 1) ln
      else if h2 : i + 1 < s.size then
        if s[i].toNat = 45 ∧ s[i + 1].toNat = 45 then skip s f (endp ne10 s i) ln else (i, ln)
      else (i, ln)
    else (i, ln)
def skipAll (s : ByteArray) (i ln : Nat) : Nat × Nat := skip s (s.size - i) i ln
theorem skip_out (s : ByteArray) (f i ln : Nat) (h : ¬ i < s.size) : skip s f i ln = (i, ln) := by
  cases f with
  | zero => rfl
  | succ f => simp [skip, h]
theorem endp_dash {s : ByteArray} {i : Nat} (h : i < s.size) (hb : s[i].toNat = 45) : i + 1 ≤ endp ne10 s i := by
  rw [← endp_lt h (by simp [ne10, hb])]; exact endp_ge _ _ _
theorem skip_fuel (s : ByteArray) : ∀ (f f' i ln : Nat), s.size ≤ i + f → s.size ≤ i + f' → skip s f i ln = skip s f' i ln := by
  intro f
  induction f with
  | zero => intro f' i ln h _; rw [skip_out _ _ _ _ (by omega), skip_out _ _ _ _ (by omega)]
  | succ f ih =>
    intro f' i ln h h'
    by_cases hi : i < s.size
    · cases f' with
      | zero => omega
      | succ f' =>
        simp only [skip, dif_pos hi]
        split
        · exact ih f' _ _ (by omega) (by omega)
        · split
          · exact ih f' _ _ (by omega) (by omega)
          · split
            · split
              · rename_i hd
                have := endp_dash hi hd.1
                exact ih f' _ _ (by omega) (by omega)
              · rfl
            · rfl
    · rw [skip_out _ _ _ _ hi, skip_out _ _ _ _ hi]
theorem skip_end {s : ByteArray} {i ln : Nat} (h : ¬ i < s.size) : skipAll s i ln = (i, ln) := skip_out _ _ _ _ h
theorem skip_succ {s : ByteArray} {i ln : Nat} (h : i < s.size) : skipAll s i ln = skip s (s.size - i - 1 + 1) i ln := by
  unfold skipAll; congr 1; omega
theorem skip_nl {s : ByteArray} {i ln : Nat} (h : i < s.size) (hb : s[i].toNat = 10) : skipAll s (i + 1) (ln + 1) = skipAll s i ln := by
  rw [skip_succ h]; simp only [skip, dif_pos h, if_pos hb]
  exact skip_fuel s _ _ _ _ (by omega) (by omega)
theorem skip_bl {s : ByteArray} {i ln : Nat} (h : i < s.size) (hb : s[i].toNat = 32 ∨ s[i].toNat = 9) : skipAll s (i + 1) ln = skipAll s i ln := by
  rw [skip_succ h]; simp only [skip, dif_pos h, if_pos hb]
  rw [if_neg (by omega)]
  exact skip_fuel s _ _ _ _ (by omega) (by omega)
theorem skip_cm {s : ByteArray} {i ln : Nat} (h : i + 1 < s.size) (hb : s[i].toNat = 45) (hb2 : s[i + 1].toNat = 45) : skipAll s (endp ne10 s i) ln = skipAll s i ln := by
  have h0 : i < s.size := by omega
  have := endp_dash h0 hb
  rw [skip_succ h0]; simp only [skip, dif_pos h0, dif_pos h]
  rw [if_neg (by omega), if_neg (by omega), if_pos ⟨hb, hb2⟩]
  exact skip_fuel s _ _ _ _ (by omega) (by omega)
theorem skip_no {s : ByteArray} {i ln : Nat} (h : i < s.size) (h1 : s[i].toNat ≠ 10) (h2 : ¬ (s[i].toNat = 32 ∨ s[i].toNat = 9)) (h3 : ∀ h2 : i + 1 < s.size, ¬ (s[i].toNat = 45 ∧ s[i + 1].toNat = 45)) : skipAll s i ln = (i, ln) := by
  rw [skip_succ h]; simp only [skip, dif_pos h, if_neg h1, if_neg h2]
  split
  · rw [if_neg (h3 _)]
  · rfl
end Go.Proofs.YtjepokoeljpflaaDoor
