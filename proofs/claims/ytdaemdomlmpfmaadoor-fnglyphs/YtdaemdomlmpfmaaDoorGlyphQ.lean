/- The count of code points: of a text behind another one, and ahead of a letter. Plain lemmas. -/
import Derived.Test.YtdaemdomlmpfmaaDoorGlyphP
namespace Go.Proofs.YtdaemdomlmpfmaaDoor
open Go.Lib

theorem gl_fuel (s : ByteArray) : ∀ (b b' pos : Nat), s.size ≤ pos + b → s.size ≤ pos + b' → gl s b pos = gl s b' pos := by
  intro b
  induction b with
  | zero => intro b' pos h _; rw [gl_end s b' pos (by omega)]; rfl
  | succ b ih =>
    intro b' pos h h'
    by_cases hp : pos < s.size
    · cases b' with
      | zero => omega
      | succ b' =>
        have := wd_pos s pos
        simp only [gl, if_pos hp]
        rw [ih b' (pos + wd s pos) (by omega) (by omega)]
    · rw [gl_end _ _ _ hp, gl_end _ _ _ hp]
theorem gl_le (s : ByteArray) : ∀ (b pos : Nat), pos ≤ s.size → gl s b pos ≤ s.size - pos := by
  intro b
  induction b with
  | zero => intro pos _; simp [gl]
  | succ b ih =>
    intro pos h
    by_cases hp : pos < s.size
    · have h1 := wd_pos s pos
      have h2 := wd_le s pos hp
      have h3 := ih (pos + wd s pos) h2
      simp only [gl, if_pos hp]; omega
    · rw [gl_end _ _ _ hp]; omega
theorem glyphs_le (s : ByteArray) : glyphs s ≤ s.size := by have := gl_le s s.size 0 (Nat.zero_le _); unfold glyphs; omega
theorem glyphs_pos (s : ByteArray) : 0 < glyphs s ↔ 0 < s.size := by
  constructor
  · intro h; have := glyphs_le s; omega
  · intro h
    unfold glyphs
    obtain ⟨b, hb⟩ : ∃ b, s.size = b + 1 := ⟨s.size - 1, by omega⟩
    rw [hb]; simp only [gl]; rw [if_pos h]; omega

theorem get_out (s : ByteArray) (j : Nat) (h : ¬ j < s.size) : s.get! j = default := by
  obtain ⟨d⟩ := s
  show d[j]! = default
  exact getElem!_neg d j h
theorem get_append (p s : ByteArray) (j : Nat) : (p ++ s).get! (p.size + j) = s.get! j := by
  by_cases h : j < s.size
  · rw [get_byte s j h, get_byte (p ++ s) (p.size + j) (by rw [ByteArray.size_append]; omega)]
    rw [ByteArray.getElem_append_right (by omega)]
    congr 1; omega
  · have h1 : ¬ p.size + j < (p ++ s).size := by rw [ByteArray.size_append]; omega
    rw [get_out _ _ h1, get_out _ _ h]
theorem wd_append (p s : ByteArray) (pos : Nat) : wd (p ++ s) (p.size + pos) = wd s pos := by
  unfold wd
  rw [dec_wid, dec_wid, ByteArray.size_append, Nat.add_assoc, Nat.add_assoc, Nat.add_assoc, get_append, get_append, get_append, get_append]
  congr 1; omega
theorem gl_append (p s : ByteArray) : ∀ (b pos : Nat), gl (p ++ s) b (p.size + pos) = gl s b pos := by
  intro b
  induction b with
  | zero => intro pos; rfl
  | succ b ih =>
    intro pos
    by_cases h : pos < s.size
    · have h' : p.size + pos < (p ++ s).size := by rw [ByteArray.size_append]; omega
      simp only [gl, if_pos h, if_pos h']
      rw [wd_append, Nat.add_assoc, ih]
    · have h' : ¬ p.size + pos < (p ++ s).size := by rw [ByteArray.size_append]; omega
      simp only [gl, if_neg h, if_neg h']
theorem glyphs_cons (p s : ByteArray) (hp : 0 < p.size) (h : wd (p ++ s) 0 = p.size) : glyphs (p ++ s) = glyphs s + 1 := by
  unfold glyphs
  obtain ⟨b, hb⟩ : ∃ b, (p ++ s).size = b + 1 := ⟨(p ++ s).size - 1, by rw [ByteArray.size_append]; omega⟩
  have hsz : s.size ≤ b := by rw [ByteArray.size_append] at hb; omega
  rw [hb]
  simp only [gl]
  rw [if_pos (by omega), h]
  have := gl_append p s b 0
  rw [Nat.add_zero] at this
  rw [Nat.zero_add, this, gl_fuel s b s.size 0 (by omega) (by omega)]
theorem glyphs_a (s : ByteArray) : glyphs ((⟨#[97]⟩ : ByteArray) ++ s) = glyphs s + 1 := by
  refine glyphs_cons _ _ (by decide) ?_
  unfold wd
  rw [dec_wid, get_byte _ 0 (by rw [ByteArray.size_append]; show 0 < 1 + _; omega), ByteArray.getElem_append_left (by decide)]
  exact wid_ascii _ _ _ _ _ (by decide)
theorem glyphs_three (s : ByteArray) : glyphs ((⟨#[230, 151, 165]⟩ : ByteArray) ++ s) = glyphs s + 1 := by
  have hz : ((⟨#[230, 151, 165]⟩ : ByteArray) ++ s).size = 3 + s.size := by rw [ByteArray.size_append]; rfl
  refine glyphs_cons _ _ (by decide) ?_
  unfold wd
  rw [dec_wid, get_byte _ 0 (by omega), get_byte _ 1 (by omega), get_byte _ 2 (by omega), ByteArray.getElem_append_left (by decide), ByteArray.getElem_append_left (by decide), ByteArray.getElem_append_left (by decide), hz]
  show wid _ 230 151 165 _ = 3
  have h3 := ((⟨#[230, 151, 165]⟩ ++ s : ByteArray).get! (0 + 3)).toNat_lt
  rw [wid_three _ _ _ _ _ (by decide) (by decide) (by decide) (by decide)]
  rw [if_neg (by omega), if_neg (by decide), if_neg (by decide), if_neg (by decide)]

theorem get_left (s p : ByteArray) (j : Nat) (h : j < s.size) : (s ++ p).get! j = s.get! j := by
  rw [get_byte s j h, get_byte (s ++ p) j (by rw [ByteArray.size_append]; omega), ByteArray.getElem_append_left h]
theorem get_at_a (s : ByteArray) : (s ++ (⟨#[97]⟩ : ByteArray)).get! s.size = 97 := by
  have := get_append s ⟨#[97]⟩ 0
  rw [Nat.add_zero] at this
  rw [this]; rfl
set_option maxHeartbeats 2000000 in
theorem wd_snoc (s : ByteArray) (pos : Nat) (h : pos < s.size) : wd (s ++ (⟨#[97]⟩ : ByteArray)) pos = wd s pos := by
  have hz : (s ++ (⟨#[97]⟩ : ByteArray)).size = s.size + 1 := by rw [ByteArray.size_append]; rfl
  have g0 := get_left s ⟨#[97]⟩ pos h
  have g1 : pos + 1 < s.size → (s ++ (⟨#[97]⟩ : ByteArray)).get! (pos + 1) = s.get! (pos + 1) := fun h => get_left s _ _ h
  have g2 : pos + 2 < s.size → (s ++ (⟨#[97]⟩ : ByteArray)).get! (pos + 2) = s.get! (pos + 2) := fun h => get_left s _ _ h
  have g3 : pos + 3 < s.size → (s ++ (⟨#[97]⟩ : ByteArray)).get! (pos + 3) = s.get! (pos + 3) := fun h => get_left s _ _ h
  have e := get_at_a s
  have e1 : pos + 1 = s.size → (s ++ (⟨#[97]⟩ : ByteArray)).get! (pos + 1) = 97 := fun h => by rw [h]; exact e
  have e2 : pos + 2 = s.size → (s ++ (⟨#[97]⟩ : ByteArray)).get! (pos + 2) = 97 := fun h => by rw [h]; exact e
  have e3 : pos + 3 = s.size → (s ++ (⟨#[97]⟩ : ByteArray)).get! (pos + 3) = 97 := fun h => by rw [h]; exact e
  unfold wd
  rw [dec_wid, dec_wid, hz, g0]
  generalize (s ++ (⟨#[97]⟩ : ByteArray)).get! (pos + 1) = x1 at *
  generalize (s ++ (⟨#[97]⟩ : ByteArray)).get! (pos + 2) = x2 at *
  generalize (s ++ (⟨#[97]⟩ : ByteArray)).get! (pos + 3) = x3 at *
  have k97 : (97 : UInt8).toNat = 97 := rfl
  have t1 : (s.size - pos = 1 ∧ x1.toNat = 97) ∨ (1 < s.size - pos ∧ x1.toNat = (s.get! (pos + 1)).toNat) := by
    by_cases c : pos + 1 < s.size
    · exact .inr ⟨by omega, by rw [g1 c]⟩
    · exact .inl ⟨by omega, by rw [e1 (by omega)]; rfl⟩
  have t2 : s.size - pos < 2 ∨ (s.size - pos = 2 ∧ x2.toNat = 97) ∨ (2 < s.size - pos ∧ x2.toNat = (s.get! (pos + 2)).toNat) := by
    by_cases c : pos + 2 < s.size
    · exact .inr (.inr ⟨by omega, by rw [g2 c]⟩)
    · by_cases c2 : pos + 2 = s.size
      · exact .inr (.inl ⟨by omega, by rw [e2 c2]; rfl⟩)
      · exact .inl (by omega)
  have t3 : s.size - pos < 3 ∨ (s.size - pos = 3 ∧ x3.toNat = 97) ∨ (3 < s.size - pos ∧ x3.toNat = (s.get! (pos + 3)).toNat) := by
    by_cases c : pos + 3 < s.size
    · exact .inr (.inr ⟨by omega, by rw [g3 c]⟩)
    · by_cases c2 : pos + 3 = s.size
      · exact .inr (.inl ⟨by omega, by rw [e3 c2]; rfl⟩)
      · exact .inl (by omega)
  have hn : s.size + 1 - pos = s.size - pos + 1 := by omega
  rw [hn]
  have hm : 1 ≤ s.size - pos := by omega
  clear g0 g1 g2 g3 e e1 e2 e3 hz h hn
  generalize s.size - pos = n at *
  generalize (s.get! pos).toNat = b0 at *
  generalize (s.get! (pos + 1)).toNat = b1 at *
  generalize (s.get! (pos + 2)).toNat = b2 at *
  generalize (s.get! (pos + 3)).toNat = b3 at *
  generalize x1.toNat = y1 at *
  generalize x2.toNat = y2 at *
  generalize x3.toNat = y3 at *
  unfold wid decodeN
  repeat' split
  all_goals first | rfl | (exfalso; omega)
theorem gl_snoc (s : ByteArray) : ∀ (b pos : Nat), pos ≤ s.size → s.size ≤ pos + b → gl (s ++ (⟨#[97]⟩ : ByteArray)) (b + 1) pos = gl s b pos + 1 := by
  have hz : (s ++ (⟨#[97]⟩ : ByteArray)).size = s.size + 1 := by rw [ByteArray.size_append]; rfl
  have hend : ∀ b, gl (s ++ (⟨#[97]⟩ : ByteArray)) (b + 1) s.size = 1 := by
    intro b
    have hw : wd (s ++ (⟨#[97]⟩ : ByteArray)) s.size = 1 := by
      unfold wd
      rw [dec_wid, get_at_a]
      exact wid_ascii _ _ _ _ _ (by decide)
    simp only [gl]
    rw [if_pos (by omega), hw, gl_end _ _ _ (by omega)]
  intro b
  induction b with
  | zero =>
    intro pos h h'
    have : pos = s.size := by omega
    subst this
    rw [hend]; rfl
  | succ b ih =>
    intro pos h h'
    by_cases hp : pos < s.size
    · have h1 := wd_pos s pos
      have h2 := wd_le s pos hp
      have hs := wd_snoc s pos hp
      have e1 : gl (s ++ (⟨#[97]⟩ : ByteArray)) (b + 1 + 1) pos = gl (s ++ (⟨#[97]⟩ : ByteArray)) (b + 1) (pos + wd s pos) + 1 := by
        rw [gl, if_pos (by omega), hs]
      have e2 : gl s (b + 1) pos = gl s b (pos + wd s pos) + 1 := by rw [gl, if_pos hp]
      rw [e1, e2, ih _ h2 (by omega)]
    · have : pos = s.size := by omega
      subst this
      rw [hend, gl_end _ _ _ hp]
theorem glyphs_snoc (s : ByteArray) : glyphs (s ++ (⟨#[97]⟩ : ByteArray)) = glyphs s + 1 := by
  have hz : (s ++ (⟨#[97]⟩ : ByteArray)).size = s.size + 1 := by rw [ByteArray.size_append]; rfl
  unfold glyphs
  rw [hz]
  exact gl_snoc s s.size 0 (Nat.zero_le _) (by omega)
end Go.Proofs.YtdaemdomlmpfmaaDoor
