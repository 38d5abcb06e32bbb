/- What the words of a text keep: lines do not fall, a text comes back from what it is quoted as. -/
import Derived.Test.YtjepokoeljpflaaDoorLexR
import Derived.Test.YtjepokoeljpflaaDoorQuoteW
namespace Go.Proofs.YtjepokoeljpflaaDoor
open Go.RowKit

theorem lexF_err (s : ByteArray) : ∀ (f i ln : Nat) (acc : List Tk), (lexF s f i ln acc).2 ≠ 0 → (lexF s f i ln acc).1 = [] := by
  intro f
  induction f with
  | zero => intro i ln acc h; exact absurd rfl h
  | succ f ih =>
    intro i ln acc h
    unfold lexF at h ⊢
    by_cases hi : i < s.size
    · rw [if_pos hi] at h ⊢
      cases ht : tokAt s i ln with
      | none => simp
      | some x => simp only [ht] at h ⊢; exact ih _ _ _ h
    · rw [if_neg hi] at h; exact absurd rfl h
theorem lexAll_err (s : ByteArray) (h : (lexAll s).2 ≠ 0) : (lexAll s).1 = [] := by
  unfold lexAll at h ⊢
  split at h
  · rename_i h4; rw [if_pos h4]
  · rename_i h4; rw [if_neg h4]; exact lexF_err s _ _ _ _ h

theorem lexF_mono (s : ByteArray) : ∀ (f i ln : Nat) (acc : List Tk), i ≤ s.size → acc.Pairwise (fun a b => a.line ≤ b.line) → (∀ x ∈ acc, x.line ≤ ln) → (lexF s f i ln acc).1.Pairwise (fun a b => a.line ≤ b.line) := by
  intro f
  induction f with
  | zero => intro i ln acc _ h _; exact h
  | succ f ih =>
    intro i ln acc hi hp hl
    unfold lexF
    split
    · cases ht : tokAt s i ln with
      | none => simp
      | some x =>
        obtain ⟨t, k⟩ := x
        obtain ⟨_, hk, htl, _⟩ := tok_bounds ht
        obtain ⟨_, hb2, hb3, _⟩ := skipAll_bounds s k ln hk
        refine ih _ _ _ hb2 ?_ ?_
        · rw [List.pairwise_append]
          exact ⟨hp, List.pairwise_singleton _ _, fun a ha b hb => by rw [List.mem_singleton] at hb; subst hb; rw [htl]; exact hl a ha⟩
        · intro y hy
          rcases List.mem_append.1 hy with hy | hy
          · have := hl y hy; omega
          · rw [List.mem_singleton] at hy; subst hy; omega
    · exact hp
theorem lexAll_mono (s : ByteArray) : (lexAll s).1.Pairwise (fun a b => a.line ≤ b.line) := by
  unfold lexAll
  split
  · exact List.Pairwise.nil
  · exact lexF_mono s _ _ _ _ (skipAll_bounds s 0 1 (Nat.zero_le _)).2.1 List.Pairwise.nil (fun x hx => by cases hx)

theorem head_at {s : ByteArray} {k : Nat} {b : UInt8} {l : List UInt8} (h : s.data.toList.drop k = b :: l) : ∃ hk : k < s.size, s[k] = b ∧ s.data.toList.drop (k + 1) = l := by
  by_cases hk : k < s.size
  · rw [cons_at s k hk] at h
    exact ⟨hk, (List.cons.inj h).1, (List.cons.inj h).2⟩
  · rw [none_at s k hk] at h; cases h
theorem str_qb (s : ByteArray) : ∀ (l : List UInt8) (k : Nat) (acc : List UInt8), s.data.toList.drop k = l.flatMap esc ++ [34] → strAll s k acc = some (acc ++ l, k + (l.flatMap esc).length + 1) := by
  intro l
  induction l with
  | nil =>
    intro k acc h
    obtain ⟨hk, hb, _⟩ := head_at (show s.data.toList.drop k = 34 :: [] from h)
    rw [str_q hk (by rw [hb]; rfl)]
    simp
  | cons b l ih =>
    intro k acc h
    rw [List.flatMap_cons, List.append_assoc] at h
    by_cases h10 : b = 10
    · rw [esc_nl h10] at h
      obtain ⟨hk, h1, h2⟩ := head_at h
      obtain ⟨hk2, h3, h4⟩ := head_at h2
      rw [← str_n hk2 (by rw [h1]; rfl) (by rw [h3]; rfl), ih (k + 2) _ h4, List.flatMap_cons, esc_nl h10, h10]
      simp; omega
    · by_cases hq : b = 34 ∨ b = 92
      · rw [esc_q h10 hq] at h
        obtain ⟨hk, h1, h2⟩ := head_at h
        obtain ⟨hk2, h3, h4⟩ := head_at h2
        rw [← str_e hk2 (by rw [h1]; rfl) (by rw [h3]; rcases hq with rfl | rfl <;> simp), h3, ih (k + 2) _ h4, List.flatMap_cons, esc_q h10 hq]
        simp; omega
      · rw [esc_o h10 hq] at h
        obtain ⟨hk, h1, h2⟩ := head_at h
        have n10 : s[k].toNat ≠ 10 := fun e => h10 (UInt8.toNat_inj.1 (by rw [← h1, e]; rfl))
        have n34 : s[k].toNat ≠ 34 := fun e => hq (Or.inl (UInt8.toNat_inj.1 (by rw [← h1, e]; rfl)))
        have n92 : s[k].toNat ≠ 92 := fun e => hq (Or.inr (UInt8.toNat_inj.1 (by rw [← h1, e]; rfl)))
        rw [← str_plain hk n10 n34 n92, h1, ih (k + 1) _ h2, List.flatMap_cons, esc_o h10 hq]
        simp; omega

/-- A text comes back from what it is quoted as. -/
theorem lex_quote (s : ByteArray) (l : List UInt8) (h : s.data.toList = qb l ++ [34]) (h4 : ¬ 4000 < s.size) : lexAll s = ([⟨2, ⟨l.toArray⟩, 0, 1⟩], 0) := by
  have hd : s.data.toList.drop 0 = 34 :: (l.flatMap esc ++ [34]) := by rw [List.drop_zero, h]; rfl
  obtain ⟨hk, hb, hr⟩ := head_at hd
  have hsz : s.size = (l.flatMap esc).length + 2 := by
    have : s.data.toList.length = s.size := by simp
    rw [← this, h]; simp [qb]
  have hb34 : s[0].toNat = 34 := by rw [hb]; rfl
  have hsk : skipAll s 0 1 = (0, 1) := skip_no hk (by omega) (by omega) (fun h2 => by omega)
  have htok : tokAt s 0 1 = some (⟨2, ⟨l.toArray⟩, 0, 1⟩, s.size) := by
    unfold tokAt
    rw [dif_pos hk, if_neg (by simp [isL, hb34]), if_neg (by simp [isD, hb34]), if_pos hb34, str_qb s l 1 [] hr]
    simp [hsz]; omega
  rw [lexAll_eq s h4, hsk, ← lex_step htok, skip_end (Nat.lt_irrefl _), lex_end (Nat.lt_irrefl _)]
  rfl
end Go.Proofs.YtjepokoeljpflaaDoor
