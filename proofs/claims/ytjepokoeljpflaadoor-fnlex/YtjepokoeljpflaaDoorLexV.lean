/- Blanks around a text change nothing of its words. -/
import Derived.Test.YtjepokoeljpflaaDoorLexU
namespace Go.Proofs.YtjepokoeljpflaaDoor
open Go.RowKit

structure Padded (s u : ByteArray) : Prop where
  bytes : u.data.toList = 32 :: 9 :: (s.data.toList ++ [10, 32])

theorem Padded.drop {s u : ByteArray} (h : Padded s u) (i : Nat) (hi : i ≤ s.size) : u.data.toList.drop (i + 2) = s.data.toList.drop i ++ [10, 32] := by
  have hl : s.data.toList.length = s.size := by simp
  rw [h.bytes, List.drop_succ_cons, List.drop_succ_cons, List.drop_append_of_le_length (by omega)]
theorem Padded.size {s u : ByteArray} (h : Padded s u) : u.size = s.size + 4 := by
  have hl : s.data.toList.length = s.size := by simp
  have hu : u.data.toList.length = u.size := by simp
  rw [← hu, h.bytes]; simp
theorem Padded.at {s u : ByteArray} (h : Padded s u) (i : Nat) (hi : i < s.size) (hu : i + 2 < u.size) : u[i + 2] = s[i] := by
  have hd := h.drop i (by omega)
  rw [cons_at s i hi, cons_at u (i + 2) hu] at hd
  exact (List.cons.inj hd).1
theorem Padded.nl {s u : ByteArray} (h : Padded s u) (hu : s.size + 2 < u.size) : u[s.size + 2].toNat = 10 := by
  have hd := h.drop s.size (Nat.le_refl _)
  rw [none_at s s.size (Nat.lt_irrefl _), cons_at u (s.size + 2) hu] at hd
  rw [(List.cons.inj hd).1]; rfl
theorem Padded.bl {s u : ByteArray} (h : Padded s u) (hu : s.size + 3 < u.size) : u[s.size + 3].toNat = 32 := by
  have hd := h.drop s.size (Nat.le_refl _)
  rw [none_at s s.size (Nat.lt_irrefl _), cons_at u (s.size + 2) (by omega)] at hd
  have h2 := (List.cons.inj hd).2
  rw [cons_at u (s.size + 3) hu] at h2
  rw [(List.cons.inj h2).1]; rfl
theorem Padded.b0 {s u : ByteArray} (h : Padded s u) (hu : 0 < u.size) : u[0].toNat = 32 := by
  have hd : u.data.toList.drop 0 = _ := (List.drop_zero).trans h.bytes
  rw [cons_at u 0 hu] at hd
  rw [(List.cons.inj hd).1]; rfl
theorem Padded.b1 {s u : ByteArray} (h : Padded s u) (hu : 1 < u.size) : u[1].toNat = 9 := by
  have hd : u.data.toList.drop 1 = 9 :: (s.data.toList ++ [10, 32]) := by rw [h.bytes]; rfl
  rw [cons_at u 1 hu] at hd
  rw [(List.cons.inj hd).1]; rfl

theorem take_pad (p : UInt8 → Bool) (l m : List UInt8) (h : p 10 = false) : (l ++ 10 :: m).takeWhile p = l.takeWhile p := by
  induction l with
  | nil => simp [h]
  | cons b l ih => simp only [List.cons_append, List.takeWhile_cons, ih]
theorem endp_pad {s u : ByteArray} (h : Padded s u) (p : UInt8 → Bool) (hp : p 10 = false) (i : Nat) (hi : i ≤ s.size) : endp p u (i + 2) = endp p s i + 2 := by
  unfold endp
  rw [h.drop i hi, take_pad p _ _ hp]; omega
theorem cut_pad {s u : ByteArray} (h : Padded s u) (i k : Nat) (hi : i ≤ s.size) (hk : k ≤ s.size) : cut u (i + 2) (k + 2) = cut s i k := by
  unfold cut
  have hl : (s.data.toList.drop i).length = s.size - i := by simp
  rw [h.drop i hi, show k + 2 - (i + 2) = k - i by omega, List.take_append_of_le_length (by omega)]
theorem extract_pad {s u : ByteArray} (h : Padded s u) (i k : Nat) (hi : i ≤ s.size) (hk : k ≤ s.size) : u.extract (i + 2) (k + 2) = s.extract i k := by
  have := cut_pad h i k hi hk
  rw [← extract_cut, ← extract_cut] at this
  apply ByteArray.ext
  apply Array.ext'
  exact this

theorem num_pad {s u : ByteArray} (h : Padded s u) (i n k : Nat) (hi : i ≤ s.size) (hn : numAt s i = some (n, k)) : numAt u (i + 2) = some (n, k + 2) := by
  unfold numAt at hn ⊢
  have hle := endp_le isD s i hi
  rw [endp_pad h isD (by decide) i hi, cut_pad h i _ hi hle, show endp isD s i + 2 - (i + 2) = endp isD s i - i by omega]
  split at hn
  · cases hn
  · rename_i h1
    rw [if_neg h1]
    split at hn
    · cases hn
    · rename_i h2
      rw [if_neg h2]
      have := Option.some.inj hn
      rw [Prod.mk.injEq] at this
      rw [this.1, this.2]

theorem str_pad {s u : ByteArray} (h : Padded s u) : ∀ (f k : Nat) (acc l : List UInt8) (k' : Nat), strAt s f k acc = some (l, k') → strAt u f (k + 2) acc = some (l, k' + 2) := by
  have hsz := h.size
  intro f
  induction f with
  | zero => intro k acc l k' hs; cases hs
  | succ f ih =>
    intro k acc l k' hs
    unfold strAt at hs ⊢
    by_cases hk : k < s.size
    · have hu : k + 2 < u.size := by omega
      rw [dif_pos hk] at hs
      rw [dif_pos hu, h.at k hk hu]
      split at hs
      · cases hs
      · rename_i h1
        rw [if_neg h1]
        split at hs
        · rename_i h2
          rw [if_pos h2]
          have := Option.some.inj hs
          rw [Prod.mk.injEq] at this
          rw [this.1, ← this.2]
        · rename_i h2
          rw [if_neg h2]
          split at hs
          · rename_i h3
            rw [if_pos h3]
            by_cases hk2 : k + 1 < s.size
            · have hu2 : k + 2 + 1 < u.size := by omega
              rw [dif_pos hk2] at hs
              rw [dif_pos hu2]
              have ha : u[k + 2 + 1] = s[k + 1] := h.at (k + 1) hk2 hu2
              rw [ha]
              split at hs
              · rename_i h4; rw [if_pos h4]; exact ih (k + 2) _ _ _ hs
              · rename_i h4
                rw [if_neg h4]
                split at hs
                · rename_i h5; rw [if_pos h5]; exact ih (k + 2) _ _ _ hs
                · cases hs
            · rw [dif_neg hk2] at hs; cases hs
          · rename_i h3
            rw [if_neg h3]
            exact ih (k + 1) _ _ _ hs
    · rw [dif_neg hk] at hs; cases hs
theorem strAll_pad {s u : ByteArray} (h : Padded s u) (k : Nat) (acc l : List UInt8) (k' : Nat) (hs : strAll s k acc = some (l, k')) : strAll u (k + 2) acc = some (l, k' + 2) := by
  unfold strAll at hs ⊢
  have hsz := h.size
  rw [str_fuel s (s.size - k) (u.size - (k + 2)) k acc (by omega) (by omega)] at hs
  exact str_pad h _ k acc l k' hs

theorem two_nl (a : UInt8) : two a 10 = false := by simp [two, twoL]
theorem sign_pad {s u : ByteArray} (h : Padded s u) (i : Nat) (hi : i < s.size) : signW u (i + 2) = signW s i := by
  have hsz := h.size
  have hu2 : i + 2 + 1 < u.size := by omega
  unfold signW
  rw [dif_pos hu2]
  have ha := h.at i hi (by omega)
  by_cases h2 : i + 1 < s.size
  · rw [dif_pos h2, ha]
    have hb : u[i + 2 + 1] = s[i + 1] := h.at (i + 1) h2 hu2
    rw [hb]
  · have he : i + 1 = s.size := by omega
    have hb : u[i + 2 + 1] = 10 := by
      have h1 := h.nl (by omega)
      have h2 : u[i + 2 + 1].toNat = 10 := by
        rw [← h1]; congr 1; simp only [show i + 2 + 1 = s.size + 2 by omega]
      apply UInt8.toNat_inj.1
      rw [h2]; rfl
    rw [dif_neg h2, dif_pos hi, ha, hb, two_nl]
    simp

theorem tok_pad {s u : ByteArray} (h : Padded s u) (i ln k : Nat) (t : Tk) (ht : tokAt s i ln = some (t, k)) : tokAt u (i + 2) ln = some (t, k + 2) := by
  have hsz := h.size
  unfold tokAt at ht ⊢
  by_cases hi : i < s.size
  · have hu : i + 2 < u.size := by omega
    rw [dif_pos hi] at ht
    rw [dif_pos hu, h.at i hi hu]
    have hle := endp_le isLD s i (by omega)
    split at ht
    · rename_i h1
      rw [if_pos h1, endp_pad h isLD (by decide) i (by omega), extract_pad h i _ (by omega) hle]
      have := Option.some.inj ht
      rw [Prod.mk.injEq] at this
      rw [this.1, this.2]
    · rename_i h1
      rw [if_neg h1]
      split at ht
      · rename_i h2
        rw [if_pos h2]
        cases hn : numAt s i with
        | none => rw [hn] at ht; cases ht
        | some x =>
          rw [hn] at ht
          rw [num_pad h i x.1 x.2 (by omega) hn]
          have := Option.some.inj ht
          rw [Prod.mk.injEq] at this
          show some (_, _) = _
          rw [this.1, this.2]
      · rename_i h2
        rw [if_neg h2]
        split at ht
        · rename_i h3
          rw [if_pos h3]
          cases hn : strAll s (i + 1) [] with
          | none => rw [hn] at ht; cases ht
          | some x =>
            rw [hn] at ht
            rw [show i + 2 + 1 = i + 1 + 2 by omega, strAll_pad h (i + 1) [] x.1 x.2 hn]
            have := Option.some.inj ht
            rw [Prod.mk.injEq] at this
            show some (_, _) = _
            rw [this.1, this.2]
        · rename_i h3
          rw [if_neg h3, sign_pad h i hi]
          split at ht
          · cases ht
          · rename_i h4
            rw [if_neg h4]
            have hw := (signW_le s i hi).1
            rw [show i + 2 + signW s i = i + signW s i + 2 by omega, extract_pad h i _ (by omega) hw]
            have := Option.some.inj ht
            rw [Prod.mk.injEq] at this
            rw [this.1, this.2]
  · rw [dif_neg hi] at ht; cases ht

theorem skip_pad {s u : ByteArray} (h : Padded s u) : ∀ (f i ln : Nat), i ≤ s.size → s.size ≤ i + f →
    skipAll u (i + 2) ln = if (skip s f i ln).1 < s.size then ((skip s f i ln).1 + 2, (skip s f i ln).2) else (s.size + 4, (skip s f i ln).2 + 1) := by
  have hsz := h.size
  have hend : ∀ ln, skipAll u (s.size + 2) ln = (s.size + 4, ln + 1) := by
    intro ln
    rw [← skip_nl (by omega) (h.nl (by omega)), ← skip_bl (i := s.size + 2 + 1) (by omega) (Or.inl (h.bl (by omega))), skip_end (by omega)]
  intro f
  induction f with
  | zero =>
    intro i ln h1 h2
    have : i = s.size := by omega
    subst this
    simp only [skip, Nat.lt_irrefl, if_false]
    exact hend ln
  | succ f ih =>
    intro i ln h1 h2
    by_cases hi : i < s.size
    · have hu : i + 2 < u.size := by omega
      have ha := h.at i hi hu
      by_cases c1 : s[i].toNat = 10
      · have e : skip s (f + 1) i ln = skip s f (i + 1) (ln + 1) := by rw [skip, dif_pos hi, if_pos c1]
        rw [e, ← skip_nl hu (by rw [ha]; exact c1)]
        exact ih (i + 1) (ln + 1) (by omega) (by omega)
      · by_cases c2 : s[i].toNat = 32 ∨ s[i].toNat = 9
        · have e : skip s (f + 1) i ln = skip s f (i + 1) ln := by rw [skip, dif_pos hi, if_neg c1, if_pos c2]
          rw [e, ← skip_bl hu (by rw [ha]; exact c2)]
          exact ih (i + 1) ln (by omega) (by omega)
        · by_cases c3 : ∃ h2 : i + 1 < s.size, s[i].toNat = 45 ∧ s[i + 1].toNat = 45
          · obtain ⟨h2', c4, c5⟩ := c3
            have e : skip s (f + 1) i ln = skip s f (endp ne10 s i) ln := by rw [skip, dif_pos hi, if_neg c1, if_neg c2, dif_pos h2', if_pos ⟨c4, c5⟩]
            have hd := endp_dash hi c4
            have hle := endp_le ne10 s i (by omega)
            have hb : u[i + 2 + 1]'(by omega) = s[i + 1] := h.at (i + 1) h2' (by omega)
            rw [e, ← skip_cm (show i + 2 + 1 < u.size by omega) (by rw [ha]; exact c4) (by rw [hb]; exact c5), endp_pad h ne10 (by decide) i (by omega)]
            exact ih _ ln hle (by omega)
          · have e : skip s (f + 1) i ln = (i, ln) := by
              rw [skip, dif_pos hi, if_neg c1, if_neg c2]
              split
              · rename_i h5
                rw [if_neg (fun h6 => c3 ⟨h5, h6⟩)]
              · rfl
            rw [e, if_pos hi]
            refine skip_no hu (by rw [ha]; exact c1) (by rw [ha]; exact c2) (fun hu2 hdash => ?_)
            by_cases h5 : i + 1 < s.size
            · have hb : u[i + 2 + 1]'(by omega) = s[i + 1] := h.at (i + 1) h5 (by omega)
              rw [ha, hb] at hdash
              exact c3 ⟨h5, hdash⟩
            · have hnl := h.nl (by omega)
              have : u[i + 2 + 1].toNat = 10 := by
                rw [← hnl]; congr 1; simp only [show i + 2 + 1 = s.size + 2 by omega]
              omega
    · have : i = s.size := by omega
      subst this
      rw [skip_out _ _ _ _ hi, if_neg hi]
      exact hend ln

theorem lexF_pad {s u : ByteArray} (h : Padded s u) : ∀ (f i ln : Nat) (acc : List Tk), i < s.size → s.size ≤ i + f → 1 ≤ ln → (lexF s f i ln acc).2 = 0 → lexG u (i + 2) ln acc = ((lexF s f i ln acc).1, 0) := by
  have hsz := h.size
  intro f
  induction f with
  | zero => intro i ln acc h1 h2; omega
  | succ f ih =>
    intro i ln acc h1 h2 h3 h4
    unfold lexF at h4 ⊢
    rw [if_pos h1] at h4 ⊢
    cases ht : tokAt s i ln with
    | none => rw [ht] at h4; simp at h4; omega
    | some x =>
      obtain ⟨t, k⟩ := x
      simp only [ht] at h4 ⊢
      obtain ⟨b1, b2, _⟩ := tok_bounds ht
      obtain ⟨c1, c2, c3, _⟩ := skipAll_bounds s k ln b2
      have hp := skip_pad h (s.size - k) k ln b2 (by omega)
      change skipAll u (k + 2) ln = if (skipAll s k ln).1 < s.size then ((skipAll s k ln).1 + 2, (skipAll s k ln).2) else (s.size + 4, (skipAll s k ln).2 + 1) at hp
      rw [← lex_step (tok_pad h i ln k t ht), hp]
      by_cases hr : (skipAll s k ln).1 < s.size
      · rw [if_pos hr]
        exact ih _ _ _ hr (by omega) (by omega) h4
      · rw [if_neg hr, lexF_out _ _ _ _ _ hr, lex_end (by omega)]

/-- Blanks around a text change nothing of its words. -/
theorem lex_pad {s u : ByteArray} (h : Padded s u) (h4 : s.size + 4 ≤ 4000) (h0 : (lexAll s).2 = 0) : lexAll u = lexAll s := by
  have hsz := h.size
  have hs : lexAll s = lexF s s.size (skipAll s 0 1).1 (skipAll s 0 1).2 [] := by unfold lexAll; rw [if_neg (by omega)]
  have hb := skipAll_bounds s 0 1 (Nat.zero_le _)
  have hp := skip_pad h (s.size - 0) 0 1 (Nat.zero_le _) (by omega)
  change skipAll u 2 1 = if (skipAll s 0 1).1 < s.size then ((skipAll s 0 1).1 + 2, (skipAll s 0 1).2) else (s.size + 4, (skipAll s 0 1).2 + 1) at hp
  have hst : skipAll u 0 1 = skipAll u 2 1 := by
    rw [← skip_bl (i := 0) (by omega) (Or.inl (h.b0 (by omega))), ← skip_bl (i := 1) (by omega) (Or.inr (h.b1 (by omega)))]
  rw [lexAll_eq u (by omega), hst, hp]
  rw [hs] at h0 ⊢
  by_cases hr : (skipAll s 0 1).1 < s.size
  · rw [if_pos hr]
    rw [lexF_pad h s.size _ _ [] hr (by omega) (by omega) h0]
    exact Prod.ext rfl h0.symm
  · rw [if_neg hr, lexF_out _ _ _ _ _ hr, lex_end (by omega)]
end Go.Proofs.YtjepokoeljpflaaDoor
