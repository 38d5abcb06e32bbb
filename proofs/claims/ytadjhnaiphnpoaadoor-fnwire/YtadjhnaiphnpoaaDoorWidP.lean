/- The widths of code points, reckoned by four tests on the first byte; decimal digits from the right. No program in this text. -/
import Derived.Test.YtadjhnaiphnpoaaDoorRows
import Derived.Lib.DecodeN
import Derived.Lib.ItoaNum
namespace Go.Proofs.YtadjhnaiphnpoaaDoor
open Go.Lib
set_option linter.unusedVariables false
/-- the widths told by the draft's own road (four tests on the first byte) -/
def wid (n b0 b1 b2 b3 : Nat) : Nat := (decodeN n b0 b1 b2 b3).2

theorem wid_ascii (n b0 b1 b2 b3 : Nat) (h : b0 < 128) : wid n b0 b1 b2 b3 = 1 := by
  simp [wid, decodeN, h]

theorem wid_low (n b0 b1 b2 b3 : Nat) (h : b0 < 192) : wid n b0 b1 b2 b3 = 1 := by
  unfold wid decodeN
  repeat' split
  all_goals first | rfl | (exfalso; omega)

theorem wid_high (n b0 b1 b2 b3 : Nat) (h : 248 ≤ b0) (h' : b0 < 256) : wid n b0 b1 b2 b3 = 1 := by
  unfold wid decodeN
  repeat' split
  all_goals first | rfl | (exfalso; omega)

theorem wid_two (n b0 b1 b2 b3 : Nat) (h : 192 ≤ b0) (h' : b0 < 224) (h1 : b1 < 256) :
    wid n b0 b1 b2 b3 = if n < 2 then 1 else if ¬ (128 ≤ b1 ∧ b1 ≤ 191) then 1 else if 64 * (b0 - 192) + b1 - 128 < 128 then 1 else 2 := by
  unfold wid decodeN
  repeat' split
  all_goals first | rfl | (exfalso; omega)
theorem wid_three (n b0 b1 b2 b3 : Nat) (h : 224 ≤ b0) (h' : b0 < 240) (h1 : b1 < 256) (h2 : b2 < 256) :
    wid n b0 b1 b2 b3 = if n < 3 then 1 else if ¬ (128 ≤ b1 ∧ b1 ≤ 191) then 1 else if ¬ (128 ≤ b2 ∧ b2 ≤ 191) then 1 else
      if 64 * (64 * (b0 - 224) + b1 - 128) + b2 - 128 < 2048 ∨ (55296 ≤ 64 * (64 * (b0 - 224) + b1 - 128) + b2 - 128 ∧ 64 * (64 * (b0 - 224) + b1 - 128) + b2 - 128 ≤ 57343) then 1 else 3 := by
  unfold wid decodeN
  repeat' split
  all_goals first | rfl | (exfalso; omega)
theorem wid_four (n b0 b1 b2 b3 : Nat) (h : 240 ≤ b0) (h' : b0 < 248) (h1 : b1 < 256) (h2 : b2 < 256) (h3 : b3 < 256) :
    wid n b0 b1 b2 b3 = if n < 4 then 1 else if ¬ (128 ≤ b1 ∧ b1 ≤ 191) then 1 else if ¬ (128 ≤ b2 ∧ b2 ≤ 191) then 1 else if ¬ (128 ≤ b3 ∧ b3 ≤ 191) then 1 else
      if 64 * (64 * (64 * (b0 - 240) + b1 - 128) + b2 - 128) + b3 - 128 < 65536 ∨ 1114111 < 64 * (64 * (64 * (b0 - 240) + b1 - 128) + b2 - 128) + b3 - 128 then 1 else 4 := by
  unfold wid decodeN
  repeat' split
  all_goals first | rfl | (exfalso; omega)

/-- decimal digits: one step of the reckoning from the right. -/
theorem decDigits_step (U u : Nat) (out : List UInt8) (h : u ≠ 0) (hU : decDigits U = decDigits u ++ out) :
    (u / 10 ≠ 0 ∧ decDigits U = decDigits (u / 10) ++ (UInt8.ofNat (48 + u % 10) :: out)) ∨ (u / 10 = 0 ∧ decDigits U = UInt8.ofNat (48 + u % 10) :: out) := by
  by_cases h10 : u < 10
  · right
    refine ⟨by omega, ?_⟩
    rw [hU, decDigits, dif_pos h10, Nat.mod_eq_of_lt h10]; rfl
  · left
    refine ⟨by omega, ?_⟩
    rw [hU, decDigits, dif_neg h10]; simp
theorem decDigits_len (u : Nat) : ∀ k, u < 10 ^ (k + 1) → (decDigits u).length ≤ k + 1 := by
  intro k
  induction k generalizing u with
  | zero => intro h; rw [decDigits, dif_pos (by simpa using h)]; simp
  | succ k ih =>
    intro h
    by_cases h10 : u < 10
    · rw [decDigits, dif_pos h10]; simp
    · rw [decDigits, dif_neg h10]
      have := ih (u / 10) (by rw [Nat.pow_succ] at h; omega)
      simp; omega

theorem get_byte (s : ByteArray) (p : Nat) (h : p < s.size) : s.get! p = s[p] := by
  simp [ByteArray.get!, getElem!_pos, h]
  rfl
theorem dec_wid (s : ByteArray) (i : Nat) : (Utf8.decode s i).2 = wid (s.size - i) (s.get! i).toNat (s.get! (i + 1)).toNat (s.get! (i + 2)).toNat (s.get! (i + 3)).toNat := by
  rw [decode_at]; rfl
end Go.Proofs.YtadjhnaiphnpoaaDoor
