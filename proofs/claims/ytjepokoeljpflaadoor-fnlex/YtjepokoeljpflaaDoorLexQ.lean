/- Words, told plainly, second part: numbers, texts, signs, the word at a place, all words. -/
import Derived.Test.YtjepokoeljpflaaDoorLexP
import Derived.Test.YtjepokoeljpflaaDoorKwW
namespace Go.Proofs.YtjepokoeljpflaaDoor
open Go.Lib

/-! Numbers -/
def numVal (l : List UInt8) : Nat := l.foldl (fun n b => 10 * n + (b.toNat - 48)) 0
theorem numVal_snoc (l : List UInt8) (b : UInt8) : numVal (l ++ [b]) = 10 * numVal l + (b.toNat - 48) := by simp [numVal]
theorem numVal_lt (l : List UInt8) (h : ∀ b ∈ l, isD b = true) : numVal l < 10 ^ l.length := by
  obtain ⟨r, rfl⟩ : ∃ r, l = r.reverse := ⟨l.reverse, by simp⟩
  induction r with
  | nil => simp [numVal]
  | cons b r ih =>
    rw [List.reverse_cons, numVal_snoc, List.length_append, List.length_singleton, Nat.pow_succ]
    have h1 := ih (fun c hc => h c (by simp at hc ⊢; exact .inl hc))
    have h2 : isD b = true := h b (by simp)
    simp only [isD, decide_eq_true_eq] at h2
    omega
/-- The bytes of a run. -/
def cut (s : ByteArray) (i k : Nat) : List UInt8 := (s.data.toList.drop i).take (k - i)
theorem cut_self (s : ByteArray) (i : Nat) : cut s i i = [] := by simp [cut]
theorem cut_succ (s : ByteArray) (i k : Nat) (hik : i ≤ k) (h : k < s.size) : cut s i (k + 1) = cut s i k ++ [s[k]] := by
  unfold cut
  rw [show k + 1 - i = (k - i) + 1 by omega, List.take_succ_eq_append_getElem (by rw [List.length_drop, ← size_eq]; omega)]
  congr 2
  simp [show i + (k - i) = k by omega]
  rfl
theorem cut_len (s : ByteArray) (i k : Nat) (h : k ≤ s.size) : (cut s i k).length = k - i := by
  unfold cut; rw [List.length_take, List.length_drop, ← size_eq]; omega
theorem extract_cut (s : ByteArray) (i k : Nat) : (s.extract i k).data.toList = cut s i k := by rw [extract_data]; rfl
def numAt (s : ByteArray) (i : Nat) : Option (Nat × Nat) :=
  if 18 < endp isD s i - i then none else if 999999999999 < numVal (cut s i (endp isD s i)) then none else some (numVal (cut s i (endp isD s i)), endp isD s i)

/-! Texts -/
def strAt (s : ByteArray) : Nat → Nat → List UInt8 → Option (List UInt8 × Nat)
  | 0, _, _ => none
  | f + 1, k, acc =>
    if h : k < s.size then
      if s[k].toNat = 10 then none
      else if s[k].toNat = 34 then some (acc, k + 1)
      else if s[k].toNat = 92 then
        if h2 : k + 1 < s.size then
          if s[k + 1].toNat = 110 then strAt s f (k + 2) (acc ++ [10])
          else if s[k + 1].toNat = 92 ∨ s[k + 1].toNat = 34 then strAt s f (k + 2) (acc ++ [s[k + 1]])
          else none
        else none
      else strAt s f (k + 1) (acc ++ [s[k]])
    else none
def strAll (s : ByteArray) (k : Nat) (acc : List UInt8) : Option (List UInt8 × Nat) := strAt s (s.size - k) k acc
theorem str_fuel (s : ByteArray) : ∀ (f f' k : Nat) (acc : List UInt8), s.size ≤ k + f → s.size ≤ k + f' → strAt s f k acc = strAt s f' k acc := by
  intro f
  induction f with
  | zero =>
    intro f' k acc h _
    cases f' with
    | zero => rfl
    | succ f' => rw [strAt, strAt, dif_neg (by omega)]
  | succ f ih =>
    intro f' k acc h h'
    cases f' with
    | zero => rw [strAt, strAt, dif_neg (by omega)]
    | succ f' =>
      simp only [strAt]
      split
      · split
        · rfl
        · split
          · rfl
          · split
            · split
              · split
                · exact ih f' _ _ (by omega) (by omega)
                · split
                  · exact ih f' _ _ (by omega) (by omega)
                  · rfl
              · rfl
            · exact ih f' _ _ (by omega) (by omega)
      · rfl
theorem str_succ {s : ByteArray} {k : Nat} {acc : List UInt8} (h : k < s.size) : strAll s k acc = strAt s (s.size - k - 1 + 1) k acc := by
  unfold strAll; congr 1; omega
theorem str_out {s : ByteArray} {k : Nat} {acc : List UInt8} (h : ¬ k < s.size) : strAll s k acc = none := by
  unfold strAll; rw [show s.size - k = 0 by omega]; rfl
theorem str_nl {s : ByteArray} {k : Nat} {acc : List UInt8} (h : k < s.size) (hb : s[k].toNat = 10) : strAll s k acc = none := by
  rw [str_succ h]; simp only [strAt, dif_pos h, if_pos hb]
theorem str_q {s : ByteArray} {k : Nat} {acc : List UInt8} (h : k < s.size) (hb : s[k].toNat = 34) : strAll s k acc = some (acc, k + 1) := by
  rw [str_succ h]; simp only [strAt, dif_pos h]; rw [if_neg (by omega), if_pos hb]
theorem str_plain {s : ByteArray} {k : Nat} {acc : List UInt8} (h : k < s.size) (h1 : s[k].toNat ≠ 10) (h2 : s[k].toNat ≠ 34) (h3 : s[k].toNat ≠ 92) : strAll s (k + 1) (acc ++ [s[k]]) = strAll s k acc := by
  rw [str_succ h]; simp only [strAt, dif_pos h, if_neg h1, if_neg h2, if_neg h3]
  exact str_fuel s _ _ _ _ (by omega) (by omega)
theorem str_n {s : ByteArray} {k : Nat} {acc : List UInt8} (h : k + 1 < s.size) (hb : s[k].toNat = 92) (hc : s[k + 1].toNat = 110) : strAll s (k + 2) (acc ++ [10]) = strAll s k acc := by
  rw [str_succ (show k < s.size by omega)]; simp only [strAt, dif_pos (show k < s.size by omega), dif_pos h, if_pos hb, if_pos hc]
  rw [if_neg (by omega), if_neg (by omega)]
  exact str_fuel s _ _ _ _ (by omega) (by omega)
theorem str_e {s : ByteArray} {k : Nat} {acc : List UInt8} (h : k + 1 < s.size) (hb : s[k].toNat = 92) (hc : s[k + 1].toNat = 92 ∨ s[k + 1].toNat = 34) : strAll s (k + 2) (acc ++ [s[k + 1]]) = strAll s k acc := by
  rw [str_succ (show k < s.size by omega)]; simp only [strAt, dif_pos (show k < s.size by omega), dif_pos h, if_pos hb, if_pos hc]
  rw [if_neg (by omega), if_neg (by omega), if_neg (by omega)]
  exact str_fuel s _ _ _ _ (by omega) (by omega)
theorem str_bad {s : ByteArray} {k : Nat} {acc : List UInt8} (h : k < s.size) (hb : s[k].toNat = 92) (hc : ∀ h2 : k + 1 < s.size, s[k + 1].toNat ≠ 110 ∧ s[k + 1].toNat ≠ 92 ∧ s[k + 1].toNat ≠ 34) : strAll s k acc = none := by
  rw [str_succ h]; simp only [strAt, dif_pos h, if_pos hb]
  rw [if_neg (by omega), if_neg (by omega)]
  split
  · rename_i h2
    have := hc h2
    rw [if_neg (by omega), if_neg (by omega)]
  · rfl

/-! Signs -/
def twoL : List (List UInt8) := [[61, 61], [126, 61], [60, 61], [62, 61], [47, 47], [46, 46]]
def oneL : List (List UInt8) := [[43], [45], [42], [37], [60], [62], [61], [40], [41], [123], [125], [91], [93], [44], [46], [59], [35]]
def twoS : List ByteArray := [⟨#[61, 61]⟩, ⟨#[126, 61]⟩, ⟨#[60, 61]⟩, ⟨#[62, 61]⟩, ⟨#[47, 47]⟩, ⟨#[46, 46]⟩]
def oneS : List ByteArray := [⟨#[43]⟩, ⟨#[45]⟩, ⟨#[42]⟩, ⟨#[37]⟩, ⟨#[60]⟩, ⟨#[62]⟩, ⟨#[61]⟩, ⟨#[40]⟩, ⟨#[41]⟩, ⟨#[123]⟩, ⟨#[125]⟩, ⟨#[91]⟩, ⟨#[93]⟩, ⟨#[44]⟩, ⟨#[46]⟩, ⟨#[59]⟩, ⟨#[35]⟩]
def two (a b : UInt8) : Bool := twoL.any fun t => t == [a, b]
def one (a : UInt8) : Bool := oneL.any fun t => t == [a]
theorem two_has (s : ByteArray) : hasS twoS s = twoL.any fun t => t == s.toList := by
  have h : twoS.map ByteArray.toList = twoL := by simp [twoS, twoL, ByteArray.toList_eq]
  unfold hasS
  rw [← h, List.any_map]; rfl
theorem one_has (s : ByteArray) : hasS oneS s = oneL.any fun t => t == s.toList := by
  have h : oneS.map ByteArray.toList = oneL := by simp [oneS, oneL, ByteArray.toList_eq]
  unfold hasS
  rw [← h, List.any_map]; rfl
theorem ext2 (s : ByteArray) (i : Nat) (h : i + 1 < s.size) : (s.extract i (i + 2)).toList = [s[i], s[i + 1]] := by
  rw [extract_toList, show i + 2 - i = 2 by omega, cons_at s i (by omega), cons_at s (i + 1) h]; rfl
theorem ext1 (s : ByteArray) (i : Nat) (h : i < s.size) : (s.extract i (i + 1)).toList = [s[i]] := by
  rw [extract_toList, show i + 1 - i = 1 by omega, cons_at s i h]; rfl
def signW (s : ByteArray) (i : Nat) : Nat :=
  if h : i + 1 < s.size then if two s[i] s[i + 1] = true then 2 else if one s[i] = true then 1 else 0
  else if h : i < s.size then if one s[i] = true then 1 else 0
  else 0
def signT (s : ByteArray) (i : Nat) : ByteArray := if signW s i = 0 then ⟨#[]⟩ else s.extract i (i + signW s i)

/-! The word at a place, and all words -/
structure Tk where
  kind : Nat
  text : ByteArray
  n : Nat
  line : Nat
def Tk.cells (t : Tk) : List Value := [.int .i64 t.kind, .string t.text, .int .i64 t.n, .int .i64 t.line]
def tokAt (s : ByteArray) (i ln : Nat) : Option (Tk × Nat) :=
  if h : i < s.size then
    if isL s[i] = true then some (⟨if kwB (s.extract i (endp isLD s i)) = true then 4 else 0, s.extract i (endp isLD s i), 0, ln⟩, endp isLD s i)
    else if isD s[i] = true then (numAt s i).map fun x => (⟨1, ⟨#[]⟩, x.1, ln⟩, x.2)
    else if s[i].toNat = 34 then (strAll s (i + 1) []).map fun x => (⟨2, ⟨x.1.toArray⟩, 0, ln⟩, x.2)
    else if signW s i = 0 then none
    else some (⟨3, s.extract i (i + signW s i), 0, ln⟩, i + signW s i)
  else none
def lexF (s : ByteArray) : Nat → Nat → Nat → List Tk → List Tk × Nat
  | 0, _, _, acc => (acc, 0)
  | f + 1, i, ln, acc =>
    if i < s.size then
      match tokAt s i ln with
      | none => ([], ln)
      | some (t, k) => lexF s f (skipAll s k ln).1 (skipAll s k ln).2 (acc ++ [t])
    else (acc, 0)
/-- The words of a text and 0; none and the line of the first byte that begins none. -/
def lexAll (s : ByteArray) : List Tk × Nat :=
  if 4000 < s.size then ([], 1) else lexF s s.size (skipAll s 0 1).1 (skipAll s 0 1).2 []
end Go.Proofs.YtjepokoeljpflaaDoor
