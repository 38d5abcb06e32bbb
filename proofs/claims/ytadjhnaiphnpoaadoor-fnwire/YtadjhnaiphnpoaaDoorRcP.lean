/- Numerals read back, a text parted at its first blank, a command read: no function of the program. -/
import Derived.Test.YtadjhnaiphnpoaaDoorCmP
import Derived.Lib.AtoiTie
import Derived.Lib.ItoaNum
import Derived.Lib.Bytealg
namespace Go.Proofs.YtadjhnaiphnpoaaDoor
open Go.RowKit Go.Lib

def isDg (b : UInt8) : Bool := (digitVal b).isSome
theorem digitVal_ofNat {d : Nat} (h : d < 10) : digitVal (UInt8.ofNat (48 + d)) = some d := by
  have e : (UInt8.ofNat (48 + d)).toNat = 48 + d := by rw [UInt8.toNat_ofNat']; omega
  unfold digitVal
  rw [e, if_pos (by omega)]
  congr 1; omega
theorem decFrom_snoc (l : List UInt8) : ∀ (acc m : Nat) (b : UInt8) (d : Nat), decFrom acc l = some m → digitVal b = some d → decFrom acc (l ++ [b]) = some (m * 10 + d) := by
  induction l with
  | nil => intro acc m b d h hb; simp only [decFrom, Option.some.injEq] at h; subst h; simp [decFrom, hb]
  | cons x l ih =>
    intro acc m b d h hb
    cases hx : digitVal x with
    | none => simp [decFrom, hx] at h
    | some y =>
      simp only [decFrom, hx] at h
      simp only [List.cons_append, decFrom, hx]
      exact ih _ _ _ _ h hb
theorem decFrom_digits (u : Nat) : decFrom 0 (decDigits u) = some u := by
  induction u using Nat.strongRecOn with
  | ind u ih =>
    by_cases h : u < 10
    · rw [decDigits, dif_pos h]
      unfold decFrom
      rw [digitVal_ofNat h]
      simp [decFrom]
    · rw [decDigits, dif_neg h, decFrom_snoc _ _ _ _ _ (ih (u / 10) (by omega)) (digitVal_ofNat (d := u % 10) (by omega))]
      congr 1; omega
theorem decDigits_ne (u : Nat) : decDigits u ≠ [] := by
  intro h
  have := decDigits_length u
  rw [h] at this
  have := nDigits_pos u
  simp at *; omega
theorem decNat_digits (u : Nat) : decNat (decDigits u) = some u := by
  rw [decNat, if_neg (by simpa using decDigits_ne u), decFrom_digits]
theorem decDigits_lenR {u k : Nat} (h : u < 10 ^ k) (hk : 1 ≤ k) : (decDigits u).length ≤ k := by
  rw [decDigits_length]
  induction k generalizing u with
  | zero => omega
  | succ k ih =>
    by_cases hu : u < 10
    · rw [nDigits_small hu]; omega
    · rw [nDigits_big hu]
      by_cases hk0 : k = 0
      · subst hk0; omega
      · have := ih (u := u / 10) (by rw [Nat.pow_succ] at h; omega) (by omega)
        omega
theorem itoa_pos (u : Nat) : itoa (u : Int) = decDigits u := by rw [itoa, if_neg (by omega)]; congr 1
theorem atoiAll_digits {u : Nat} (h : u < 10 ^ 18) : atoiAll (decDigits u) = .ok u := by
  have hl := decDigits_lenR h (by decide)
  rw [atoiAll_short _ hl]
  have hd := decFrom_digits u
  cases hc : decDigits u with
  | nil => exact absurd hc (decDigits_ne u)
  | cons b r =>
    obtain ⟨d, hb⟩ := digit_of_decFrom _ _ _ hd 0 b (by rw [hc]; rfl)
    have hv := digitVal_eq hb
    have h45 : (b == 45) = false := by
      rw [beq_eq_false_iff_ne]; intro e; subst e; exact absurd hv.1 (by decide)
    have h43 : (b == 43) = false := by
      rw [beq_eq_false_iff_ne]; intro e; subst e; exact absurd hv.1 (by decide)
    have hn := decNat_digits u
    rw [hc] at hn
    simp [atoi, h45, h43, hn, NumEnd.ofOption]

/-- What numberIn tells: the number whose numeral a text is. -/
def numI (l : List UInt8) : Option Int := match atoiAll l with
  | .ok v => if itoa v = l then some v else none
  | _ => none
theorem numI_digits {u : Nat} (h : u < 10 ^ 18) : numI (decDigits u) = some u := by
  rw [numI, atoiAll_digits h]
  simp [itoa_pos]
theorem numI_itoa {l : List UInt8} {v : Int} (h : numI l = some v) : itoa v = l := by
  unfold numI at h
  split at h
  · split at h
    · rename_i e; simp only [Option.some.injEq] at h; subst h; exact e
    · exact absurd h (by simp)
  · exact absurd h (by simp)

/-- The number behind a command's word, 0 .. 999999. -/
def numR (l : List UInt8) : Option Int := match numI l with
  | some v => if 0 ≤ v ∧ v ≤ 999999 then some v else none
  | none => none
theorem numR_some {l : List UInt8} {v : Int} (h : numR l = some v) : 0 ≤ v ∧ v ≤ 999999 ∧ l = decDigits v.toNat ∧ numI l = some v := by
  unfold numR at h
  cases hi : numI l with
  | none => rw [hi] at h; simp at h
  | some u =>
    rw [hi] at h
    by_cases hr : 0 ≤ u ∧ u ≤ 999999
    · simp only [if_pos hr, Option.some.injEq] at h
      subst h
      have := numI_itoa hi
      refine ⟨hr.1, hr.2, ?_, rfl⟩
      rw [← this, itoa, if_neg (by omega)]
    · simp [if_neg hr] at h
theorem numR_of {l : List UInt8} {v : Int} (h0 : 0 ≤ v) (h1 : v ≤ 999999) (h : itoa v = l) : numR l = some v := by
  have e : l = decDigits v.toNat := by rw [← h, itoa, if_neg (by omega)]
  have hi := numI_digits (u := v.toNat) (by omega)
  rw [← e] at hi
  rw [numR, hi]
  have : ((v.toNat : Nat) : Int) = v := by omega
  simp [this, h0, h1]

/-- Where the first blank stands, or the end. -/
def blankAt : List UInt8 → Nat
  | [] => 0
  | b :: l => if b = 32 then 0 else blankAt l + 1
theorem blankAt_le : ∀ l : List UInt8, blankAt l ≤ l.length
  | [] => Nat.le_refl _
  | b :: l => by
    have ih := blankAt_le l
    unfold blankAt
    by_cases h : b = 32
    · rw [if_pos h]; simp
    · rw [if_neg h]; simp only [List.length_cons]; omega
theorem blankAt_eq : ∀ (l : List UInt8) (k : Nat), (∀ j b, j < k → l[j]? = some b → b ≠ 32) → (∀ b, l[k]? = some b → b = 32) → k ≤ l.length → blankAt l = k
  | [], k, _, _, hk => by simp at hk; subst hk; rfl
  | x :: l, k, h1, h2, hk => by
    unfold blankAt
    cases k with
    | zero => rw [if_pos (h2 x rfl)]
    | succ k =>
      rw [if_neg (h1 0 x (by omega) rfl), blankAt_eq l k (fun j b hj hb => h1 (j + 1) b (by omega) hb) (fun b hb => h2 b hb) (by simpa using hk)]
theorem blankAt_lt : ∀ {l : List UInt8}, blankAt l < l.length → l[blankAt l]? = some 32
  | [], h => by simp at h
  | x :: l, h => by
    have ih := @blankAt_lt l
    by_cases hx : x = 32
    · unfold blankAt; rw [if_pos hx, hx]; rfl
    · unfold blankAt at h ⊢
      rw [if_neg hx] at h ⊢
      simp only [List.length_cons, List.getElem?_cons_succ] at h ⊢
      exact ih (by omega)
theorem index_blank : ∀ l : List UInt8, indexByte l 32 = if blankAt l < l.length then (blankAt l : Int) else -1
  | [] => rfl
  | x :: l => by
    have ih := index_blank l
    by_cases hx : x = 32
    · unfold blankAt; simp [indexByte, hx]
    · have hx' : (x == 32) = false := by simpa using hx
      unfold blankAt
      by_cases hl : blankAt l < l.length
      · rw [if_pos hl] at ih
        have hm : ((blankAt l : Int) == -1) = false := by simp
        simp only [indexByte, hx', ih, hm, List.length_cons, if_neg hx]
        simp [hl]
      · rw [if_neg hl] at ih
        simp only [indexByte, hx', ih, List.length_cons, if_neg hx]
        simp [hl]
end Go.Proofs.YtadjhnaiphnpoaaDoor
