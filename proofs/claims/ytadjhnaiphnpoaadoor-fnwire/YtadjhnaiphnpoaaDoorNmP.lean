/- The next message of a text: what both sides answer. No function of the program. -/
import Derived.Test.YtadjhnaiphnpoaaDoorRcP
import Derived.Test.YtadjhnaiphnpoaaDoorPmA
import Derived.Lib.SlTrimSet
namespace Go.Proofs.YtadjhnaiphnpoaaDoor
open Go.RowKit Go.Lib

theorem decFrom_ge : ∀ (l : List UInt8) (acc m : Nat), decFrom acc l = some m → acc ≤ m
  | [], acc, m, h => by simp only [decFrom, Option.some.injEq] at h; omega
  | b :: l, acc, m, h => by
    cases hb : digitVal b with
    | none => simp [decFrom, hb] at h
    | some d =>
      simp only [decFrom, hb] at h
      have := decFrom_ge l _ _ h
      omega
theorem decFrom_append : ∀ (l r : List UInt8) (acc m : Nat), decFrom acc l = some m → decFrom acc (l ++ r) = decFrom m r
  | [], r, acc, m, h => by simp only [decFrom, Option.some.injEq] at h; subst h; rfl
  | b :: l, r, acc, m, h => by
    cases hb : digitVal b with
    | none => simp [decFrom, hb] at h
    | some d =>
      simp only [decFrom, hb] at h
      simp only [List.cons_append, decFrom, hb]
      exact decFrom_append l r _ _ h

/-- A message's size, 0 .. 5000. -/
def szR (l : List UInt8) : Option Nat := match numI l with
  | some v => if 0 ≤ v ∧ v ≤ 5000 then some v.toNat else none
  | none => none
theorem szR_some {l : List UInt8} {n : Nat} (h : szR l = some n) : n ≤ 5000 ∧ l = decDigits n ∧ numI l = some (n : Int) := by
  unfold szR at h
  cases hi : numI l with
  | none => rw [hi] at h; simp at h
  | some u =>
    rw [hi] at h
    by_cases hr : 0 ≤ u ∧ u ≤ 5000
    · simp only [if_pos hr, Option.some.injEq] at h
      have := numI_itoa hi
      have e : ((n : Nat) : Int) = u := by omega
      refine ⟨by omega, ?_, by rw [e]⟩
      rw [← this, itoa, if_neg (by omega), h]
    · simp [if_neg hr] at h
theorem szR_of {n : Nat} (h : n ≤ 5000) : szR (decDigits n) = some n := by
  rw [szR, numI_digits (by omega)]
  have : (0:Int) ≤ n ∧ (n:Int) ≤ 5000 := by omega
  simp [this]
theorem szR_big {l : List UInt8} {v : Int} (hi : numI l = some v) (h : 5000 < v) : szR l = none := by
  rw [szR, hi]; simp; omega
theorem szR_none {l : List UInt8} (hi : numI l = none) : szR l = none := by rw [szR, hi]

/-- How many digits a text begins with. -/
def dgN : List UInt8 → Nat
  | [] => 0
  | b :: l => if isDg b then dgN l + 1 else 0
theorem dgN_le : ∀ l : List UInt8, dgN l ≤ l.length
  | [] => Nat.le_refl _
  | b :: l => by
    have := dgN_le l
    unfold dgN; split
    · simp only [List.length_cons]; omega
    · simp
theorem dgN_eq : ∀ (l : List UInt8) (k : Nat), (∀ j b, j < k → l[j]? = some b → isDg b = true) → (∀ b, l[k]? = some b → isDg b = false) → k ≤ l.length → dgN l = k
  | [], k, _, _, hk => by simp at hk; subst hk; rfl
  | x :: l, k, h1, h2, hk => by
    unfold dgN
    cases k with
    | zero => rw [if_neg (by rw [h2 x rfl]; simp)]
    | succ k => rw [if_pos (h1 0 x (by omega) rfl), dgN_eq l k (fun j b hj hb => h1 (j + 1) b (by omega) hb) (fun b hb => h2 b hb) (by simpa using hk)]
theorem dgN_all : ∀ (l : List UInt8) (j : Nat) (b : UInt8), j < dgN l → l[j]? = some b → isDg b = true
  | [], j, b, h, hb => by simp at hb
  | x :: l, j, b, h, hb => by
    unfold dgN at h
    by_cases hx : isDg x = true
    · rw [if_pos hx] at h
      cases j with
      | zero => simp only [List.getElem?_cons_zero, Option.some.injEq] at hb; rw [← hb]; exact hx
      | succ j => exact dgN_all l j b (by omega) hb
    · rw [if_neg hx] at h; omega
/-- What TrimLeft leaves of the digits' texts. -/
def digitsT : ByteArray := ⟨#[48, 49, 50, 51, 52, 53, 54, 55, 56, 57]⟩
theorem digit_in (b : UInt8) : digitsT.data.toList.contains b = isDg b := by
  have : ∀ n : Fin 256, (digitsT.data.toList.contains (UInt8.ofNat n.val)) = isDg (UInt8.ofNat n.val) := by decide +kernel
  have h := this ⟨b.toNat, b.toNat_lt⟩
  simpa using h
theorem trim_digits : ∀ l : List UInt8, trimLeftS l digitsT.data.toList = l.drop (dgN l)
  | [] => rfl
  | b :: l => by
    have ih := trim_digits l
    unfold trimLeftS at ih ⊢
    rw [List.dropWhile_cons]
    simp only [digit_in] at ih ⊢
    unfold dgN
    by_cases hb : isDg b = true
    · rw [if_pos hb, if_pos hb, ih]; rfl
    · rw [if_neg hb, if_neg hb]; rfl
/-- A numeral of digits alone is of no number below 0. -/
theorem numI_pos {l : List UInt8} {v : Int} (h : numI l = some v) (hd : ∀ (j : Nat) (b : UInt8), l[j]? = some b → isDg b = true) : 0 ≤ v := by
  by_cases hv : 0 ≤ v
  · exact hv
  · have e := numI_itoa h
    rw [itoa, if_pos (by omega)] at e
    have := hd 0 45 (by rw [← e]; rfl)
    exact absurd this (by decide)

/-- 0 where l begins with p, 1 where more bytes could make it so, 2 where none could. -/
def st3 (l p : List UInt8) : Nat := if p.isPrefixOf l then 0 else if l.isPrefixOf p then 1 else 2
theorem st3_cases (l p : List UInt8) : st3 l p = 0 ∨ st3 l p = 1 ∨ st3 l p = 2 := by
  unfold st3; split
  · exact .inl rfl
  · split
    · exact .inr (.inl rfl)
    · exact .inr (.inr rfl)
theorem st3_zero {l p : List UInt8} (h : st3 l p = 0) : p.isPrefixOf l = true := by
  unfold st3 at h
  by_cases hp : p.isPrefixOf l = true
  · exact hp
  · rw [if_neg hp] at h; split at h <;> omega
theorem st3_one {l p : List UInt8} (h : st3 l p = 1) : p.isPrefixOf l = false ∧ l.isPrefixOf p = true := by
  unfold st3 at h
  by_cases hp : p.isPrefixOf l = true
  · rw [if_pos hp] at h; omega
  · rw [if_neg hp] at h
    by_cases hl : l.isPrefixOf p = true
    · exact ⟨Bool.eq_false_iff.2 hp, hl⟩
    · rw [if_neg hl] at h; omega
theorem st3_two {l p : List UInt8} (h : st3 l p = 2) : p.isPrefixOf l = false ∧ l.isPrefixOf p = false := by
  unfold st3 at h
  by_cases hp : p.isPrefixOf l = true
  · rw [if_pos hp] at h; omega
  · rw [if_neg hp] at h
    by_cases hl : l.isPrefixOf p = true
    · rw [if_pos hl] at h; omega
    · exact ⟨Bool.eq_false_iff.2 hp, Bool.eq_false_iff.2 hl⟩
theorem st3_len0 {l p : List UInt8} (h : st3 l p = 0) : p.length ≤ l.length := (List.isPrefixOf_iff_prefix.1 (st3_zero h)).length_le
theorem st3_len1 {l p : List UInt8} (h : st3 l p = 1) : l.length < p.length := by
  obtain ⟨h1, h2⟩ := st3_one h
  have hp := List.isPrefixOf_iff_prefix.1 h2
  have hle := hp.length_le
  rcases Nat.lt_or_ge l.length p.length with hh | hh
  · exact hh
  · have e : l = p := hp.eq_of_length (by omega)
    rw [e] at h1
    have : p.isPrefixOf p = true := List.isPrefixOf_iff_prefix.2 (List.prefix_refl p)
    rw [this] at h1; exact absurd h1 (by simp)
/-- The specification's question: no byte that both have is another one. -/
theorem st3_agree : ∀ (l p : List UInt8), (∀ (j : Nat) (a b : UInt8), l[j]? = some a → p[j]? = some b → a = b) → st3 l p ≠ 2
  | [], p, _ => by
    unfold st3
    by_cases h : p.isPrefixOf [] = true
    · rw [if_pos h]; decide
    · rw [if_neg h, if_pos (by simp)]; decide
  | a :: l, [], _ => by unfold st3; rw [if_pos (by simp)]; decide
  | a :: l, b :: p, h => by
    have e := h 0 a b rfl rfl
    subst e
    have ih := st3_agree l p (fun j x y hx hy => h (j + 1) x y hx hy)
    unfold st3 at ih ⊢
    simpa [List.isPrefixOf] using ih
theorem st3_part {l p : List UInt8} {j : Nat} {a b : UInt8} (ha : l[j]? = some a) (hb : p[j]? = some b) (hne : a ≠ b) : st3 l p = 2 := by
  have h1 : p.isPrefixOf l = false := by
    by_cases h : p.isPrefixOf l = true
    · obtain ⟨t, e⟩ := List.isPrefixOf_iff_prefix.1 h
      rw [← e, List.getElem?_append_left (List.getElem?_eq_some_iff.1 hb).1, hb] at ha
      exact absurd (Option.some.inj ha).symm hne
    · exact Bool.eq_false_iff.2 h
  have h2 : l.isPrefixOf p = false := by
    by_cases h : l.isPrefixOf p = true
    · obtain ⟨t, e⟩ := List.isPrefixOf_iff_prefix.1 h
      rw [← e, List.getElem?_append_left (List.getElem?_eq_some_iff.1 ha).1, ha] at hb
      exact absurd (Option.some.inj hb) hne
    · exact Bool.eq_false_iff.2 h
  unfold st3; rw [h1, h2]; rfl

def nmV (b : ByteArray) (n k : Int) : Value := .tuple #[.string b, .int .i64 n, .int .i64 k]
/-- What is answered of a text: its message's body, the message's size, and how that went. -/
def nextV (s : ByteArray) : Value :=
  let l := s.data.toList
  if st3 l headT.data.toList = 2 then nmV ⟨#[]⟩ 0 2 else if l.length ≤ 16 then nmV ⟨#[]⟩ 0 1 else
  match szR ((l.drop 16).take (dgN (l.drop 16))) with
  | none => nmV ⟨#[]⟩ 0 2
  | some n => if st3 (l.drop (16 + dgN (l.drop 16))) endT.data.toList = 2 then nmV ⟨#[]⟩ 0 2 else if l.length < 16 + dgN (l.drop 16) + 4 + n then nmV ⟨#[]⟩ 0 1
    else nmV (s.extract (16 + dgN (l.drop 16) + 4) (16 + dgN (l.drop 16) + 4 + n)) ((16 + dgN (l.drop 16) + 4 + n : Nat) : Int) 0
/-- Where the digits end. -/
def dgE (s : ByteArray) : Nat := 16 + dgN (s.data.toList.drop 16)
theorem dgE_le (s : ByteArray) (h : 16 ≤ s.size) : dgE s ≤ s.size := by
  have := dgN_le (s.data.toList.drop 16)
  rw [List.length_drop, ← Lib.size_eq] at this
  unfold dgE; omega
theorem nextV_a {s : ByteArray} (h : st3 s.data.toList headT.data.toList = 2) : nextV s = nmV ⟨#[]⟩ 0 2 := by
  unfold nextV; simp only []; rw [if_pos h]
theorem nextV_b {s : ByteArray} (h : st3 s.data.toList headT.data.toList ≠ 2) (h1 : s.size ≤ 16) : nextV s = nmV ⟨#[]⟩ 0 1 := by
  unfold nextV; simp only []; rw [if_neg h, if_pos (by rw [← Lib.size_eq]; exact h1)]
theorem nextV_c {s : ByteArray} (h : st3 s.data.toList headT.data.toList ≠ 2) (h1 : ¬ s.size ≤ 16) (h2 : szR ((s.data.toList.drop 16).take (dgN (s.data.toList.drop 16))) = none) : nextV s = nmV ⟨#[]⟩ 0 2 := by
  unfold nextV; simp only []; rw [if_neg h, if_neg (by rw [← Lib.size_eq]; exact h1), h2]
theorem nextV_d {s : ByteArray} {n : Nat} (h : st3 s.data.toList headT.data.toList ≠ 2) (h1 : ¬ s.size ≤ 16) (h2 : szR ((s.data.toList.drop 16).take (dgN (s.data.toList.drop 16))) = some n) (h3 : st3 (s.data.toList.drop (dgE s)) endT.data.toList = 2) : nextV s = nmV ⟨#[]⟩ 0 2 := by
  unfold nextV; simp only []; rw [if_neg h, if_neg (by rw [← Lib.size_eq]; exact h1), h2]; unfold dgE at h3; simp only []; rw [if_pos h3]
theorem nextV_e {s : ByteArray} {n : Nat} (h : st3 s.data.toList headT.data.toList ≠ 2) (h1 : ¬ s.size ≤ 16) (h2 : szR ((s.data.toList.drop 16).take (dgN (s.data.toList.drop 16))) = some n) (h3 : st3 (s.data.toList.drop (dgE s)) endT.data.toList ≠ 2) (h4 : s.size < dgE s + 4 + n) : nextV s = nmV ⟨#[]⟩ 0 1 := by
  unfold nextV; simp only []; rw [if_neg h, if_neg (by rw [← Lib.size_eq]; exact h1), h2]; unfold dgE at h3 h4; simp only []; rw [if_neg h3, if_pos (by rw [← Lib.size_eq]; exact h4)]
theorem nextV_f {s : ByteArray} {n : Nat} (h : st3 s.data.toList headT.data.toList ≠ 2) (h1 : ¬ s.size ≤ 16) (h2 : szR ((s.data.toList.drop 16).take (dgN (s.data.toList.drop 16))) = some n) (h3 : st3 (s.data.toList.drop (dgE s)) endT.data.toList ≠ 2) (h4 : ¬ s.size < dgE s + 4 + n) :
    nextV s = nmV (s.extract (dgE s + 4) (dgE s + 4 + n)) ((dgE s + 4 + n : Nat) : Int) 0 := by
  unfold nextV; simp only []; rw [if_neg h, if_neg (by rw [← Lib.size_eq]; exact h1), h2]; unfold dgE at h3 h4 ⊢; simp only []; rw [if_neg h3, if_neg (by rw [← Lib.size_eq]; exact h4)]
theorem ext_list (s : ByteArray) (i j : Nat) : (s.extract i j).data.toList = (s.data.toList.drop i).take (j - i) := by
  rw [ByteArray.data_extract, Array.toList_extract, List.extract_eq_take_drop]
theorem ext_end (s : ByteArray) (i : Nat) : (s.extract i s.size).data.toList = s.data.toList.drop i := by
  rw [ext_list, List.take_of_length_le (by rw [List.length_drop, ← Lib.size_eq]; omega)]
end Go.Proofs.YtadjhnaiphnpoaaDoor
