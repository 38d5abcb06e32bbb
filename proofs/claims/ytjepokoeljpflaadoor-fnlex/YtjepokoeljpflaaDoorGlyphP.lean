/- A code point's own bytes, held against the place where it was found: they stand there, or the byte is part of none. Plain lemmas. -/
import Derived.Test.YtjepokoeljpflaaDoorWidP
import Derived.Lib.Strings
namespace Go.Proofs.YtjepokoeljpflaaDoor
open Go.Lib

/-- The width at a place. -/
def wd (s : ByteArray) (pos : Nat) : Nat := (Utf8.decode s pos).2
/-- The code point at a place. -/
def cp (s : ByteArray) (pos : Nat) : Nat := (Utf8.decode s pos).1
/-- How many code points stand from a place on. -/
def gl (s : ByteArray) : Nat → Nat → Nat
  | 0, _ => 0
  | b + 1, pos => if pos < s.size then gl s b (pos + wd s pos) + 1 else 0
def glyphs (s : ByteArray) : Nat := gl s s.size 0
theorem gl_end (s : ByteArray) (b pos : Nat) (h : ¬ pos < s.size) : gl s b pos = 0 := by
  cases b with
  | zero => rfl
  | succ b => simp [gl, h]

def preB (s p : ByteArray) : Bool := decide (p.size ≤ s.size) && ((s.extract 0 p.size).toList == p.toList)

theorem wd_pos (s : ByteArray) (pos : Nat) : 1 ≤ wd s pos := by
  unfold wd; rw [dec_wid]; unfold wid decodeN
  repeat' split
  all_goals simp
theorem wd_le (s : ByteArray) (pos : Nat) (h : pos < s.size) : pos + wd s pos ≤ s.size := by
  unfold wd; rw [dec_wid]; unfold wid decodeN
  repeat' split
  all_goals (simp only []; omega)

theorem enc1 (n : Nat) (h : n < 128) : Utf8.encode n = ⟨#[UInt8.ofNat n]⟩ := by
  have hv : Utf8.valid (n : Int) = true := by simp [Utf8.valid]; omega
  simp [Utf8.encode, hv, h]
theorem enc2 (n : Nat) (h : 128 ≤ n) (h' : n < 2048) : Utf8.encode n = ⟨#[UInt8.ofNat (192 + n / 64), UInt8.ofNat (128 + n % 64)]⟩ := by
  have hv : Utf8.valid (n : Int) = true := by simp [Utf8.valid]; omega
  simp [Utf8.encode, hv, h', show ¬ n < 128 by omega]
theorem enc3 (n : Nat) (h : 2048 ≤ n) (h' : n < 55296 ∨ (57344 ≤ n ∧ n < 65536)) : Utf8.encode n = ⟨#[UInt8.ofNat (224 + n / 4096), UInt8.ofNat (128 + n / 64 % 64), UInt8.ofNat (128 + n % 64)]⟩ := by
  have hv : Utf8.valid (n : Int) = true := by simp [Utf8.valid]; omega
  simp [Utf8.encode, hv, show n < 65536 by omega, show ¬ n < 2048 by omega, show ¬ n < 128 by omega]
theorem enc4 (n : Nat) (h : 65536 ≤ n) (h' : n ≤ 1114111) : Utf8.encode n = ⟨#[UInt8.ofNat (240 + n / 262144), UInt8.ofNat (128 + n / 4096 % 64), UInt8.ofNat (128 + n / 64 % 64), UInt8.ofNat (128 + n % 64)]⟩ := by
  have hv : Utf8.valid (n : Int) = true := by simp [Utf8.valid]; omega
  simp [Utf8.encode, hv, show ¬ n < 65536 by omega, show ¬ n < 2048 by omega, show ¬ n < 128 by omega]

theorem tail_cons (s : ByteArray) (p : Nat) (h : p < s.size) : s.data.toList.drop p = s[p] :: s.data.toList.drop (p + 1) := by
  rw [List.drop_eq_getElem_cons (by simpa using h)]; rfl
theorem pre_list (s p : ByteArray) (pos : Nat) : preB (s.extract pos s.size) p = p.data.toList.isPrefixOf (s.data.toList.drop pos) := by
  have hsz : (s.extract pos s.size).size = s.size - pos := by simp
  have hps : p.data.toList.length = p.size := (size_eq p).symm
  have hss : s.data.toList.length = s.size := (size_eq s).symm
  unfold preB
  rw [hsz, toList_data p, Bool.eq_iff_iff, List.isPrefixOf_iff_prefix, List.prefix_iff_eq_take, hps]
  simp only [Bool.and_eq_true, decide_eq_true_eq, beq_iff_eq]
  by_cases hle : p.size ≤ s.size - pos
  · have hl : ((s.extract pos s.size).extract 0 p.size).toList = (s.data.toList.drop pos).take p.size := by
      rw [extract_toList, extract_data, List.drop_zero, Nat.sub_zero, List.take_take, Nat.min_eq_left hle]
    rw [hl]
    exact ⟨fun h => h.2.symm, fun h => ⟨hle, h.symm⟩⟩
  · constructor
    · exact fun h => absurd h.1 hle
    · intro h
      have := congrArg List.length h
      rw [List.length_take, List.length_drop, hps, hss] at this
      omega

theorem of_b (b : UInt8) (n : Nat) (h : n = b.toNat) : UInt8.ofNat n = b := by subst h; exact UInt8.ofNat_toNat
theorem pre1 (s : ByteArray) (p : Nat) (h : p < s.size) (a : UInt8) (ha : a = s[p]) : [a].isPrefixOf (s.data.toList.drop p) = true := by
  rw [tail_cons s p h, ha]; simp [List.isPrefixOf]
theorem pre2 (s : ByteArray) (p : Nat) (h : p + 1 < s.size) (a b : UInt8) (ha : a = s[p]) (hb : b = s[p + 1]) : [a, b].isPrefixOf (s.data.toList.drop p) = true := by
  rw [tail_cons s p (by omega), tail_cons s (p + 1) h, ha, hb]; simp [List.isPrefixOf]
theorem pre3 (s : ByteArray) (p : Nat) (h : p + 2 < s.size) (a b c : UInt8) (ha : a = s[p]) (hb : b = s[p + 1]) (hc : c = s[p + 2]) : [a, b, c].isPrefixOf (s.data.toList.drop p) = true := by
  rw [tail_cons s p (by omega), tail_cons s (p + 1) (by omega), tail_cons s (p + 1 + 1) (by omega), ha, hb, hc]; simp [List.isPrefixOf]
theorem pre4 (s : ByteArray) (p : Nat) (h : p + 3 < s.size) (a b c d : UInt8) (ha : a = s[p]) (hb : b = s[p + 1]) (hc : c = s[p + 2]) (hd : d = s[p + 3]) : [a, b, c, d].isPrefixOf (s.data.toList.drop p) = true := by
  rw [tail_cons s p (by omega), tail_cons s (p + 1) (by omega), tail_cons s (p + 1 + 1) (by omega), tail_cons s (p + 1 + 1 + 1) (by omega), ha, hb, hc, hd]; simp [List.isPrefixOf]
theorem pre3_inv (s : ByteArray) (p : Nat) (a b c : UInt8) (h : [a, b, c].isPrefixOf (s.data.toList.drop p) = true) : ∃ h2 : p + 2 < s.size, s[p] = a ∧ s[p + 1] = b ∧ s[p + 2] = c := by
  have hss : s.data.toList.length = s.size := (size_eq s).symm
  rw [List.isPrefixOf_iff_prefix] at h
  have hl := h.length_le
  rw [List.length_drop, hss] at hl
  have h2 : p + 2 < s.size := by simp at hl; omega
  refine ⟨h2, ?_⟩
  rw [tail_cons s p (by omega), tail_cons s (p + 1) (by omega), tail_cons s (p + 1 + 1) (by omega)] at h
  simp only [List.cons_prefix_cons] at h
  exact ⟨h.1.symm, h.2.1.symm, h.2.2.1.symm⟩

set_option maxHeartbeats 4000000 in
/-- THE ONE FACT: a byte that is part of none has the width 1 and its own bytes don't stand there; else they do. -/
theorem own_bytes (s : ByteArray) (pos : Nat) (h : pos < s.size) :
    ((Utf8.encode (cp s pos)).data.toList.isPrefixOf (s.data.toList.drop pos) = true ∧ (Utf8.encode (cp s pos)).size = wd s pos) ∨
    ((Utf8.encode (cp s pos)).data.toList.isPrefixOf (s.data.toList.drop pos) = false ∧ wd s pos = 1) := by
  have e0 := get_byte s pos h
  have l0 := s[pos].toNat_lt
  have hd := decode_at s pos
  unfold cp wd
  rw [hd, e0]
  by_cases c1 : s[pos].toNat < 128
  · left
    have : decodeN (s.size - pos) s[pos].toNat (s.get! (pos + 1)).toNat (s.get! (pos + 2)).toNat (s.get! (pos + 3)).toNat = (s[pos].toNat, 1) := by simp [decodeN, c1]
    rw [this]
    rw [enc1 _ c1]
    exact ⟨pre1 s pos h _ (of_b _ _ rfl), rfl⟩
  by_cases c2 : s[pos].toNat / 32 = 6 ∧ pos + 1 < s.size ∧ (s.get! (pos + 1)).toNat / 64 = 2 ∧ 128 ≤ s[pos].toNat % 32 * 64 + (s.get! (pos + 1)).toNat % 64
  · left
    obtain ⟨a1, a2, a3, a4⟩ := c2
    have e1 := get_byte s (pos + 1) a2
    rw [e1] at a3 a4 ⊢
    have l1 := s[pos + 1].toNat_lt
    have : ∀ b2 b3, decodeN (s.size - pos) s[pos].toNat s[pos + 1].toNat b2 b3 = (s[pos].toNat % 32 * 64 + s[pos + 1].toNat % 64, 2) := by
      intro b2 b3
      simp only [decodeN]
      rw [if_neg c1, if_pos ⟨a1, by omega, a3⟩, if_pos a4]
    rw [this]
    simp only []
    rw [enc2 _ a4 (by omega)]
    exact ⟨pre2 s pos a2 _ _ (of_b _ _ (by omega)) (of_b _ _ (by omega)), rfl⟩
  by_cases c3 : s[pos].toNat / 16 = 14 ∧ pos + 2 < s.size ∧ (s.get! (pos + 1)).toNat / 64 = 2 ∧ (s.get! (pos + 2)).toNat / 64 = 2 ∧
      2048 ≤ s[pos].toNat % 16 * 4096 + (s.get! (pos + 1)).toNat % 64 * 64 + (s.get! (pos + 2)).toNat % 64 ∧
      (s[pos].toNat % 16 * 4096 + (s.get! (pos + 1)).toNat % 64 * 64 + (s.get! (pos + 2)).toNat % 64 < 55296 ∨ 57344 ≤ s[pos].toNat % 16 * 4096 + (s.get! (pos + 1)).toNat % 64 * 64 + (s.get! (pos + 2)).toNat % 64)
  · left
    obtain ⟨a1, a2, a3, a4, a5, a6⟩ := c3
    have e1 := get_byte s (pos + 1) (by omega)
    have e2 := get_byte s (pos + 2) a2
    rw [e1] at a3 a5 a6 ⊢
    rw [e2] at a4 a5 a6 ⊢
    have l1 := s[pos + 1].toNat_lt
    have l2 := s[pos + 2].toNat_lt
    have : ∀ b3, decodeN (s.size - pos) s[pos].toNat s[pos + 1].toNat s[pos + 2].toNat b3 = (s[pos].toNat % 16 * 4096 + s[pos + 1].toNat % 64 * 64 + s[pos + 2].toNat % 64, 3) := by
      intro b3
      simp only [decodeN]
      rw [if_neg c1, if_neg (by omega), if_pos ⟨a1, ⟨by omega, a3⟩, by omega, a4⟩, if_pos ⟨a5, by omega⟩]
    rw [this]
    simp only []
    rw [enc3 _ a5 (by omega)]
    exact ⟨pre3 s pos a2 _ _ _ (of_b _ _ (by omega)) (of_b _ _ (by omega)) (of_b _ _ (by omega)), rfl⟩
  by_cases c4 : s[pos].toNat / 8 = 30 ∧ pos + 3 < s.size ∧ (s.get! (pos + 1)).toNat / 64 = 2 ∧ (s.get! (pos + 2)).toNat / 64 = 2 ∧ (s.get! (pos + 3)).toNat / 64 = 2 ∧
      65536 ≤ s[pos].toNat % 8 * 262144 + (s.get! (pos + 1)).toNat % 64 * 4096 + (s.get! (pos + 2)).toNat % 64 * 64 + (s.get! (pos + 3)).toNat % 64 ∧
      s[pos].toNat % 8 * 262144 + (s.get! (pos + 1)).toNat % 64 * 4096 + (s.get! (pos + 2)).toNat % 64 * 64 + (s.get! (pos + 3)).toNat % 64 ≤ 1114111
  · left
    obtain ⟨a1, a2, a3, a4, a5, a6, a7⟩ := c4
    have e1 := get_byte s (pos + 1) (by omega)
    have e2 := get_byte s (pos + 2) (by omega)
    have e3 := get_byte s (pos + 3) a2
    rw [e1] at a3 a6 a7 ⊢
    rw [e2] at a4 a6 a7 ⊢
    rw [e3] at a5 a6 a7 ⊢
    have l1 := s[pos + 1].toNat_lt
    have l2 := s[pos + 2].toNat_lt
    have l3 := s[pos + 3].toNat_lt
    have : decodeN (s.size - pos) s[pos].toNat s[pos + 1].toNat s[pos + 2].toNat s[pos + 3].toNat = (s[pos].toNat % 8 * 262144 + s[pos + 1].toNat % 64 * 4096 + s[pos + 2].toNat % 64 * 64 + s[pos + 3].toNat % 64, 4) := by
      simp only [decodeN]
      rw [if_neg c1, if_neg (by omega), if_neg (by omega), if_pos ⟨a1, ⟨by omega, a3⟩, ⟨by omega, a4⟩, by omega, a5⟩, if_pos ⟨a6, by omega⟩]
    rw [this]
    simp only []
    rw [enc4 _ a6 a7]
    exact ⟨pre4 s pos a2 _ _ _ _ (of_b _ _ (by omega)) (of_b _ _ (by omega)) (of_b _ _ (by omega)) (of_b _ _ (by omega)), rfl⟩
  right
  have hn : decodeN (s.size - pos) s[pos].toNat (s.get! (pos + 1)).toNat (s.get! (pos + 2)).toNat (s.get! (pos + 3)).toNat = (65533, 1) := by
    unfold decodeN
    repeat' split
    all_goals first | rfl | (exfalso; omega)
  rw [hn]
  refine ⟨?_, rfl⟩
  simp only []
  have he : Utf8.encode ((65533 : Nat) : Int) = ⟨#[239, 191, 189]⟩ := by rw [enc3 65533 (by omega) (by omega)]; rfl
  rw [he]
  by_cases hp : [(239 : UInt8), 191, 189].isPrefixOf (s.data.toList.drop pos) = true
  · exfalso
    obtain ⟨h2, x0, x1, x2⟩ := pre3_inv s pos _ _ _ hp
    have e1 := get_byte s (pos + 1) (by omega)
    have e2 := get_byte s (pos + 2) h2
    apply c3
    rw [e1, e2, x0, x1, x2]
    refine ⟨by decide, h2, by decide, by decide, by decide, by decide⟩
  · exact Bool.eq_false_iff.2 hp
end Go.Proofs.YtjepokoeljpflaaDoor
