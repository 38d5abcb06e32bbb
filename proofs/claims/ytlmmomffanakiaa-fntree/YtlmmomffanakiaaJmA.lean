/- Words, told plainly: where a run of bytes ends, what stands between words, the word at a place, all words. No program in this text. -/
import Derived.Test.YtlmmomffanakiaaRows
import Derived.Lib.Strings
import Derived.Test.YtlmmomffanakiaaKit
namespace Go.Proofs.Ytlmmomffanakiaa
open Go.Lib

theorem cons_at (s : ByteArray) (p : Nat) (h : p < s.size) : s.data.toList.drop p = s[p] :: s.data.toList.drop (p + 1) := by
  rw [List.drop_eq_getElem_cons (by simpa using h)]; rfl
theorem none_at (s : ByteArray) (p : Nat) (h : ¬ p < s.size) : s.data.toList.drop p = [] := by
  rw [List.drop_eq_nil_iff, ← size_eq]; omega

/-- Where a run of bytes of one kind ends. -/
def endp (p : UInt8 → Bool) (s : ByteArray) (i : Nat) : Nat := i + ((s.data.toList.drop i).takeWhile p).length
theorem endp_lt {p : UInt8 → Bool} {s : ByteArray} {i : Nat} (h : i < s.size) (hp : p s[i] = true) : endp p s (i + 1) = endp p s i := by
  unfold endp; rw [cons_at s i h, List.takeWhile_cons, if_pos hp, List.length_cons]; omega
theorem endp_no {p : UInt8 → Bool} {s : ByteArray} {i : Nat} (h : i < s.size) (hp : p s[i] = false) : endp p s i = i := by
  unfold endp; rw [cons_at s i h, List.takeWhile_cons, if_neg (by simp [hp])]; rfl
theorem endp_out {p : UInt8 → Bool} {s : ByteArray} {i : Nat} (h : ¬ i < s.size) : endp p s i = i := by
  unfold endp; rw [none_at s i h]; rfl
theorem endp_ge (p : UInt8 → Bool) (s : ByteArray) (i : Nat) : i ≤ endp p s i := by unfold endp; omega
theorem endp_le (p : UInt8 → Bool) (s : ByteArray) (i : Nat) (h : i ≤ s.size) : endp p s i ≤ s.size := by
  have h1 := (List.takeWhile_prefix p (l := s.data.toList.drop i)).length_le
  rw [List.length_drop, ← size_eq] at h1
  unfold endp; omega

def isL (b : UInt8) : Bool := decide (97 ≤ b.toNat ∧ b.toNat ≤ 122) || decide (65 ≤ b.toNat ∧ b.toNat ≤ 90) || decide (b.toNat = 95)
def isD (b : UInt8) : Bool := decide (48 ≤ b.toNat ∧ b.toNat ≤ 57)
def isLD (b : UInt8) : Bool := isL b || isD b
def ne10 (b : UInt8) : Bool := decide (b.toNat ≠ 10)

/-- What stands between words: the place and the line of the next one. -/
def skip (s : ByteArray) : Nat → Nat → Nat → Nat × Nat
  | 0, i, ln => (i, ln)
  | f + 1, i, ln =>
    if h : i < s.size then
      if s[i].toNat = 10 then skip s f (i + 1) (ln + 1)
      else if s[i].toNat = 32 ∨ s[i].toNat = 9 then skip s f (i + 1) ln
      else if h2 : i + 1 < s.size then
        if s[i].toNat = 45 ∧ s[i + 1].toNat = 45 then skip s f (endp ne10 s i) ln else (i, ln)
      else (i, ln)
    else (i, ln)
def skipAll (s : ByteArray) (i ln : Nat) : Nat × Nat := skip s (s.size - i) i ln
theorem skip_out (s : ByteArray) (f i ln : Nat) (h : ¬ i < s.size) : skip s f i ln = (i, ln) := by
  cases f with
  | zero => rfl
  | succ f => simp [skip, h]
theorem endp_dash {s : ByteArray} {i : Nat} (h : i < s.size) (hb : s[i].toNat = 45) : i + 1 ≤ endp ne10 s i := by
  rw [← endp_lt h (by simp [ne10, hb])]; exact endp_ge _ _ _
theorem skip_fuel (s : ByteArray) : ∀ (f f' i ln : Nat), s.size ≤ i + f → s.size ≤ i + f' → skip s f i ln = skip s f' i ln := by
  intro f
  induction f with
  | zero => intro f' i ln h _; rw [skip_out _ _ _ _ (by omega), skip_out _ _ _ _ (by omega)]
  | succ f ih =>
    intro f' i ln h h'
    by_cases hi : i < s.size
    · cases f' with
      | zero => omega
      | succ f' =>
        simp only [skip, dif_pos hi]
        split
        · exact ih f' _ _ (by omega) (by omega)
        · split
          · exact ih f' _ _ (by omega) (by omega)
          · split
            · split
              · rename_i hd
                have := endp_dash hi hd.1
                exact ih f' _ _ (by omega) (by omega)
              · rfl
            · rfl
    · rw [skip_out _ _ _ _ hi, skip_out _ _ _ _ hi]
theorem skip_end {s : ByteArray} {i ln : Nat} (h : ¬ i < s.size) : skipAll s i ln = (i, ln) := skip_out _ _ _ _ h
theorem skip_succ {s : ByteArray} {i ln : Nat} (h : i < s.size) : skipAll s i ln = skip s (s.size - i - 1 + 1) i ln := by
  unfold skipAll; congr 1; omega
theorem skip_nl {s : ByteArray} {i ln : Nat} (h : i < s.size) (hb : s[i].toNat = 10) : skipAll s (i + 1) (ln + 1) = skipAll s i ln := by
  rw [skip_succ h]; simp only [skip, dif_pos h, if_pos hb]
  exact skip_fuel s _ _ _ _ (by omega) (by omega)
theorem skip_bl {s : ByteArray} {i ln : Nat} (h : i < s.size) (hb : s[i].toNat = 32 ∨ s[i].toNat = 9) : skipAll s (i + 1) ln = skipAll s i ln := by
  rw [skip_succ h]; simp only [skip, dif_pos h, if_pos hb]
  rw [if_neg (by omega)]
  exact skip_fuel s _ _ _ _ (by omega) (by omega)
theorem skip_cm {s : ByteArray} {i ln : Nat} (h : i + 1 < s.size) (hb : s[i].toNat = 45) (hb2 : s[i + 1].toNat = 45) : skipAll s (endp ne10 s i) ln = skipAll s i ln := by
  have h0 : i < s.size := by omega
  have := endp_dash h0 hb
  rw [skip_succ h0]; simp only [skip, dif_pos h0, dif_pos h]
  rw [if_neg (by omega), if_neg (by omega), if_pos ⟨hb, hb2⟩]
  exact skip_fuel s _ _ _ _ (by omega) (by omega)
theorem skip_no {s : ByteArray} {i ln : Nat} (h : i < s.size) (h1 : s[i].toNat ≠ 10) (h2 : ¬ (s[i].toNat = 32 ∨ s[i].toNat = 9)) (h3 : ∀ h2 : i + 1 < s.size, ¬ (s[i].toNat = 45 ∧ s[i + 1].toNat = 45)) : skipAll s i ln = (i, ln) := by
  rw [skip_succ h]; simp only [skip, dif_pos h, if_neg h1, if_neg h2]
  split
  · rw [if_neg (h3 _)]
  · rfl
end Go.Proofs.Ytlmmomffanakiaa
namespace Go.Proofs.Ytlmmomffanakiaa
open Go.RowKit

def hasS (ss : List ByteArray) (s : ByteArray) : Bool := ss.any fun t => t.toList == s.toList
theorem has_hit {ss : List ByteArray} {s t : ByteArray} {k : Nat} (h : ss[k]? = some t) (e : (t.toList == s.toList) = true) : hasS ss s = true :=
  List.any_eq_true.2 ⟨t, List.mem_of_getElem? h, e⟩
theorem has_none {ss : List ByteArray} {s : ByteArray} (h : ∀ (j : Nat) (t : ByteArray), j < ss.length → ss[j]? = some t → (t.toList == s.toList) = false) : hasS ss s = false := by
  rw [hasS, List.any_eq_false]; intro t hm
  obtain ⟨j, hj⟩ := List.mem_iff_getElem?.1 hm
  rw [h j t (List.getElem?_eq_some_iff.1 hj).1 hj]; simp

set_option maxHeartbeats 400000 in
theorem has_any (ss : List ByteArray) (s : ByteArray) (b c : Nat) (w : World) (hl : ss.length ≤ 1000) (hc : ∀ (j : Nat) (t : ByteArray), ss[j]? = some t → w.cell? ⟨b, j, none⟩ = some (.string t)) :
    Calls Try.prog 62 #[.slice (some ⟨b, 0, none⟩) ss.length c, .string s] w fun e w' => e = .returned (.bool (hasS ss s)) ∧ w = w' := by
  go_enter Try.func62, Try.ntmps62
  go_wp2
  go_loop [5] (fun i => ∃ k : Nat, k ≤ ss.length ∧ i = .int .i64 k ∧ ∀ (j : Nat) (t : ByteArray), j < k → ss[j]? = some t → (t.toList == s.toList) = false) (fun i => ss.length - (intOf i).toNat)
  case atStart => exact ⟨0, Nat.zero_le _, rfl, fun j t hj => absurd hj (Nat.not_lt_zero _)⟩
  case round =>
    obtain ⟨k, hk, rfl, hno⟩ := hrel
    by_cases hlt : k < ss.length
    · obtain ⟨t, ht⟩ : ∃ t, ss[k]? = some t := ⟨_, List.getElem?_eq_getElem hlt⟩
      have hck := hc k t ht
      clear hc
      by_cases e : (t.toList == s.toList) = true
      · have he : Hid (hasS ss s = true) := has_hit ht e
        clear hno ht
        go_wp2
        go_ret
        exact ⟨by rw [he.out]; rfl, rfl⟩
      · have e' : (t.toList == s.toList) = false := by simpa using e
        have hno' : Hid (∀ (j : Nat) (u : ByteArray), j < k + 1 → ss[j]? = some u → (u.toList == s.toList) = false) := by
          intro j u hj hu
          by_cases hjk : j = k
          · subst hjk; rw [ht] at hu; cases hu; exact e'
          · exact hno j u (by omega) hu
        clear hno ht e
        go_wp2
        go_round
        case rel => exact ⟨k + 1, by omega, by go_num, hno'.out⟩
        case measure => simp [intOf]; omega
    · have he : Hid (hasS ss s = false) := has_none fun j t hj => hno j t (by omega)
      clear hno hc
      go_wp2
      go_ret
      exact ⟨by rw [he.out]; rfl, rfl⟩
theorem has_lits (wx : World) (e : TypeId) (ss : List ByteArray) : ∀ (j : Nat) (t : ByteArray), ss[j]? = some t → (wx.alloc (.cells (ss.map Value.string).toArray e)).cell? ⟨wx.heap.size, j, none⟩ = some (.string t) := by
  intro j t ht
  rw [cell_of_row _ wx.heap.size j _ e (0, 0) (heap_alloc_new wx _)]
  simp [ht]
end Go.Proofs.Ytlmmomffanakiaa
namespace Go.Proofs.Ytlmmomffanakiaa
open Go.RowKit

def kwL : List (List UInt8) := [[97, 110, 100], [98, 114, 101, 97, 107], [100, 111], [101, 108, 115, 101], [101, 110, 100], [102, 97, 108, 115, 101], [102, 117, 110, 99, 116, 105, 111, 110], [105, 102], [108, 111, 99, 97, 108], [110, 105, 108], [110, 111, 116], [111, 114], [114, 101, 116, 117, 114, 110], [116, 104, 101, 110], [116, 114, 117, 101], [119, 104, 105, 108, 101]]
def kwB (s : ByteArray) : Bool := kwL.any fun t => s.toList == t
def kwS : List ByteArray := [⟨#[97, 110, 100]⟩, ⟨#[98, 114, 101, 97, 107]⟩, ⟨#[100, 111]⟩, ⟨#[101, 108, 115, 101]⟩, ⟨#[101, 110, 100]⟩, ⟨#[102, 97, 108, 115, 101]⟩, ⟨#[102, 117, 110, 99, 116, 105, 111, 110]⟩, ⟨#[105, 102]⟩, ⟨#[108, 111, 99, 97, 108]⟩, ⟨#[110, 105, 108]⟩, ⟨#[110, 111, 116]⟩, ⟨#[111, 114]⟩, ⟨#[114, 101, 116, 117, 114, 110]⟩, ⟨#[116, 104, 101, 110]⟩, ⟨#[116, 114, 117, 101]⟩, ⟨#[119, 104, 105, 108, 101]⟩]
theorem kwS_has (s : ByteArray) : hasS kwS s = kwB s := by
  have h : kwS.map ByteArray.toList = kwL := by simp [kwS, kwL, ByteArray.toList_eq]
  unfold hasS kwB
  rw [← h, List.any_map]
  congr 1; funext t; simp only [Function.comp]; exact BEq.comm
theorem kw_cells (w : World) (e : TypeId) : ∀ (j : Nat) (t : ByteArray), kwS[j]? = some t → (w.alloc (.cells (kwS.map Value.string).toArray e)).cell? ⟨w.heap.size, j, none⟩ = some (.string t) := by
  intro j t ht
  rw [cell_of_row _ w.heap.size j _ e (0, 0) (heap_alloc_new w _)]
  simp [ht]

set_option maxRecDepth 100000 in
set_option maxHeartbeats 1600000 in
theorem kw_spec (s : ByteArray) (w : World) :
    Calls Try.prog 51 #[.string s] w fun e w' => e = .returned (.bool (kwB s)) ∧ Below w.heap.size w w' := by
  have hk := has_any kwS s w.heap.size 16 (w.alloc (.cells (kwS.map Value.string).toArray 9)) (by decide) (kw_cells w _)
  rw [kwS_has] at hk
  have HK : Hid (Calls Try.prog 62 #[.slice (some ⟨w.heap.size, 0, none⟩) 16 16, .string s] (w.alloc (.cells (kwS.map Value.string).toArray 9)) fun e w' => e = .returned (.bool (kwB s)) ∧ (w.alloc (.cells (kwS.map Value.string).toArray 9)) = w') := hk
  clear hk
  go_enter Try.func51, Try.ntmps51
  go_wp2_with fail
  refine HK.out.mono ?_
  rintro e w1 ⟨rfl, rfl⟩
  go_wp2_with fail
  go_ret
  exact ⟨rfl, (Below.refl _ _).alloc (Nat.le_refl _) _⟩

end Go.Proofs.Ytlmmomffanakiaa
namespace Go.Proofs.Ytlmmomffanakiaa
open Go.Lib

/-! Numbers -/
def numVal (l : List UInt8) : Nat := l.foldl (fun n b => 10 * n + (b.toNat - 48)) 0
theorem numVal_snoc (l : List UInt8) (b : UInt8) : numVal (l ++ [b]) = 10 * numVal l + (b.toNat - 48) := by simp [numVal]
theorem numVal_lt (l : List UInt8) (h : ∀ b ∈ l, isD b = true) : numVal l < 10 ^ l.length := by
  obtain ⟨r, rfl⟩ : ∃ r, l = r.reverse := ⟨l.reverse, by simp⟩
  induction r with
  | nil => simp [numVal]
  | cons b r ih =>
    rw [List.reverse_cons, numVal_snoc, List.length_append, List.length_singleton, Nat.pow_succ]
    have h1 := ih (fun c hc => h c (by simp at hc ⊢; exact .inl hc))
    have h2 : isD b = true := h b (by simp)
    simp only [isD, decide_eq_true_eq] at h2
    omega
/-- The bytes of a run. -/
def cut (s : ByteArray) (i k : Nat) : List UInt8 := (s.data.toList.drop i).take (k - i)
theorem cut_self (s : ByteArray) (i : Nat) : cut s i i = [] := by simp [cut]
theorem cut_succ (s : ByteArray) (i k : Nat) (hik : i ≤ k) (h : k < s.size) : cut s i (k + 1) = cut s i k ++ [s[k]] := by
  unfold cut
  rw [show k + 1 - i = (k - i) + 1 by omega, List.take_succ_eq_append_getElem (by rw [List.length_drop, ← size_eq]; omega)]
  congr 2
  simp [show i + (k - i) = k by omega]
  rfl
theorem cut_len (s : ByteArray) (i k : Nat) (h : k ≤ s.size) : (cut s i k).length = k - i := by
  unfold cut; rw [List.length_take, List.length_drop, ← size_eq]; omega
theorem extract_cut (s : ByteArray) (i k : Nat) : (s.extract i k).data.toList = cut s i k := by rw [extract_data]; rfl
def numAt (s : ByteArray) (i : Nat) : Option (Nat × Nat) :=
  if 18 < endp isD s i - i then none else if 999999999999 < numVal (cut s i (endp isD s i)) then none else some (numVal (cut s i (endp isD s i)), endp isD s i)

/-! Texts -/
def strAt (s : ByteArray) : Nat → Nat → List UInt8 → Option (List UInt8 × Nat)
  | 0, _, _ => none
  | f + 1, k, acc =>
    if h : k < s.size then
      if s[k].toNat = 10 then none
      else if s[k].toNat = 34 then some (acc, k + 1)
      else if s[k].toNat = 92 then
        if h2 : k + 1 < s.size then
          if s[k + 1].toNat = 110 then strAt s f (k + 2) (acc ++ [10])
          else if s[k + 1].toNat = 92 ∨ s[k + 1].toNat = 34 then strAt s f (k + 2) (acc ++ [s[k + 1]])
          else none
        else none
      else strAt s f (k + 1) (acc ++ [s[k]])
    else none
def strAll (s : ByteArray) (k : Nat) (acc : List UInt8) : Option (List UInt8 × Nat) := strAt s (s.size - k) k acc
theorem str_fuel (s : ByteArray) : ∀ (f f' k : Nat) (acc : List UInt8), s.size ≤ k + f → s.size ≤ k + f' → strAt s f k acc = strAt s f' k acc := by
  intro f
  induction f with
  | zero =>
    intro f' k acc h _
    cases f' with
    | zero => rfl
    | succ f' => rw [strAt, strAt, dif_neg (by omega)]
  | succ f ih =>
    intro f' k acc h h'
    cases f' with
    | zero => rw [strAt, strAt, dif_neg (by omega)]
    | succ f' =>
      simp only [strAt]
      split
      · split
        · rfl
        · split
          · rfl
          · split
            · split
              · split
                · exact ih f' _ _ (by omega) (by omega)
                · split
                  · exact ih f' _ _ (by omega) (by omega)
                  · rfl
              · rfl
            · exact ih f' _ _ (by omega) (by omega)
      · rfl
theorem str_succ {s : ByteArray} {k : Nat} {acc : List UInt8} (h : k < s.size) : strAll s k acc = strAt s (s.size - k - 1 + 1) k acc := by
  unfold strAll; congr 1; omega
theorem str_out {s : ByteArray} {k : Nat} {acc : List UInt8} (h : ¬ k < s.size) : strAll s k acc = none := by
  unfold strAll; rw [show s.size - k = 0 by omega]; rfl
theorem str_nl {s : ByteArray} {k : Nat} {acc : List UInt8} (h : k < s.size) (hb : s[k].toNat = 10) : strAll s k acc = none := by
  rw [str_succ h]; simp only [strAt, dif_pos h, if_pos hb]
theorem str_q {s : ByteArray} {k : Nat} {acc : List UInt8} (h : k < s.size) (hb : s[k].toNat = 34) : strAll s k acc = some (acc, k + 1) := by
  rw [str_succ h]; simp only [strAt, dif_pos h]; rw [if_neg (by omega), if_pos hb]
theorem str_plain {s : ByteArray} {k : Nat} {acc : List UInt8} (h : k < s.size) (h1 : s[k].toNat ≠ 10) (h2 : s[k].toNat ≠ 34) (h3 : s[k].toNat ≠ 92) : strAll s (k + 1) (acc ++ [s[k]]) = strAll s k acc := by
  rw [str_succ h]; simp only [strAt, dif_pos h, if_neg h1, if_neg h2, if_neg h3]
  exact str_fuel s _ _ _ _ (by omega) (by omega)
theorem str_n {s : ByteArray} {k : Nat} {acc : List UInt8} (h : k + 1 < s.size) (hb : s[k].toNat = 92) (hc : s[k + 1].toNat = 110) : strAll s (k + 2) (acc ++ [10]) = strAll s k acc := by
  rw [str_succ (show k < s.size by omega)]; simp only [strAt, dif_pos (show k < s.size by omega), dif_pos h, if_pos hb, if_pos hc]
  rw [if_neg (by omega), if_neg (by omega)]
  exact str_fuel s _ _ _ _ (by omega) (by omega)
theorem str_e {s : ByteArray} {k : Nat} {acc : List UInt8} (h : k + 1 < s.size) (hb : s[k].toNat = 92) (hc : s[k + 1].toNat = 92 ∨ s[k + 1].toNat = 34) : strAll s (k + 2) (acc ++ [s[k + 1]]) = strAll s k acc := by
  rw [str_succ (show k < s.size by omega)]; simp only [strAt, dif_pos (show k < s.size by omega), dif_pos h, if_pos hb, if_pos hc]
  rw [if_neg (by omega), if_neg (by omega), if_neg (by omega)]
  exact str_fuel s _ _ _ _ (by omega) (by omega)
theorem str_bad {s : ByteArray} {k : Nat} {acc : List UInt8} (h : k < s.size) (hb : s[k].toNat = 92) (hc : ∀ h2 : k + 1 < s.size, s[k + 1].toNat ≠ 110 ∧ s[k + 1].toNat ≠ 92 ∧ s[k + 1].toNat ≠ 34) : strAll s k acc = none := by
  rw [str_succ h]; simp only [strAt, dif_pos h, if_pos hb]
  rw [if_neg (by omega), if_neg (by omega)]
  split
  · rename_i h2
    have := hc h2
    rw [if_neg (by omega), if_neg (by omega)]
  · rfl

/-! Signs -/
def twoL : List (List UInt8) := [[61, 61], [126, 61], [60, 61], [62, 61], [47, 47], [46, 46]]
def oneL : List (List UInt8) := [[43], [45], [42], [37], [60], [62], [61], [40], [41], [123], [125], [91], [93], [44], [46], [59], [35]]
def twoS : List ByteArray := [⟨#[61, 61]⟩, ⟨#[126, 61]⟩, ⟨#[60, 61]⟩, ⟨#[62, 61]⟩, ⟨#[47, 47]⟩, ⟨#[46, 46]⟩]
def oneS : List ByteArray := [⟨#[43]⟩, ⟨#[45]⟩, ⟨#[42]⟩, ⟨#[37]⟩, ⟨#[60]⟩, ⟨#[62]⟩, ⟨#[61]⟩, ⟨#[40]⟩, ⟨#[41]⟩, ⟨#[123]⟩, ⟨#[125]⟩, ⟨#[91]⟩, ⟨#[93]⟩, ⟨#[44]⟩, ⟨#[46]⟩, ⟨#[59]⟩, ⟨#[35]⟩]
def two (a b : UInt8) : Bool := twoL.any fun t => t == [a, b]
def one (a : UInt8) : Bool := oneL.any fun t => t == [a]
theorem two_has (s : ByteArray) : hasS twoS s = twoL.any fun t => t == s.toList := by
  have h : twoS.map ByteArray.toList = twoL := by simp [twoS, twoL, ByteArray.toList_eq]
  unfold hasS
  rw [← h, List.any_map]; rfl
theorem one_has (s : ByteArray) : hasS oneS s = oneL.any fun t => t == s.toList := by
  have h : oneS.map ByteArray.toList = oneL := by simp [oneS, oneL, ByteArray.toList_eq]
  unfold hasS
  rw [← h, List.any_map]; rfl
theorem ext2 (s : ByteArray) (i : Nat) (h : i + 1 < s.size) : (s.extract i (i + 2)).toList = [s[i], s[i + 1]] := by
  rw [extract_toList, show i + 2 - i = 2 by omega, cons_at s i (by omega), cons_at s (i + 1) h]; rfl
theorem ext1 (s : ByteArray) (i : Nat) (h : i < s.size) : (s.extract i (i + 1)).toList = [s[i]] := by
  rw [extract_toList, show i + 1 - i = 1 by omega, cons_at s i h]; rfl
def signW (s : ByteArray) (i : Nat) : Nat :=
  if h : i + 1 < s.size then if two s[i] s[i + 1] = true then 2 else if one s[i] = true then 1 else 0
  else if h : i < s.size then if one s[i] = true then 1 else 0
  else 0
def signT (s : ByteArray) (i : Nat) : ByteArray := if signW s i = 0 then ⟨#[]⟩ else s.extract i (i + signW s i)

/-! The word at a place, and all words -/
structure Tk where
  kind : Nat
  text : ByteArray
  n : Nat
  line : Nat
def Tk.cells (t : Tk) : List Value := [.int .i64 t.kind, .string t.text, .int .i64 t.n, .int .i64 t.line]
def tokAt (s : ByteArray) (i ln : Nat) : Option (Tk × Nat) :=
  if h : i < s.size then
    if isL s[i] = true then some (⟨if kwB (s.extract i (endp isLD s i)) = true then 4 else 0, s.extract i (endp isLD s i), 0, ln⟩, endp isLD s i)
    else if isD s[i] = true then (numAt s i).map fun x => (⟨1, ⟨#[]⟩, x.1, ln⟩, x.2)
    else if s[i].toNat = 34 then (strAll s (i + 1) []).map fun x => (⟨2, ⟨x.1.toArray⟩, 0, ln⟩, x.2)
    else if signW s i = 0 then none
    else some (⟨3, s.extract i (i + signW s i), 0, ln⟩, i + signW s i)
  else none
def lexF (s : ByteArray) : Nat → Nat → Nat → List Tk → List Tk × Nat
  | 0, _, _, acc => (acc, 0)
  | f + 1, i, ln, acc =>
    if i < s.size then
      match tokAt s i ln with
      | none => ([], ln)
      | some (t, k) => lexF s f (skipAll s k ln).1 (skipAll s k ln).2 (acc ++ [t])
    else (acc, 0)
/-- The words of a text and 0; none and the line of the first byte that begins none. -/
def lexAll (s : ByteArray) : List Tk × Nat :=
  if 4000 < s.size then ([], 1) else lexF s s.size (skipAll s 0 1).1 (skipAll s 0 1).2 []
end Go.Proofs.Ytlmmomffanakiaa
namespace Go.Proofs.Ytlmmomffanakiaa
open Go.Lib

theorem skip_bounds (s : ByteArray) : ∀ (f i ln : Nat), i ≤ s.size → i ≤ (skip s f i ln).1 ∧ (skip s f i ln).1 ≤ s.size ∧ ln ≤ (skip s f i ln).2 ∧ (skip s f i ln).2 + i ≤ ln + (skip s f i ln).1 := by
  intro f
  induction f with
  | zero => intro i ln h; simp only [skip]; omega
  | succ f ih =>
    intro i ln h
    simp only [skip]
    split
    · rename_i hi
      split
      · have := ih (i + 1) (ln + 1) (by omega); omega
      · split
        · have := ih (i + 1) ln (by omega); omega
        · split
          · split
            · rename_i hd
              have h1 := endp_dash hi hd.1
              have h2 := endp_le ne10 s i h
              have := ih (endp ne10 s i) ln h2
              omega
            · simp only []; omega
          · simp only []; omega
    · simp only []; omega
theorem skipAll_bounds (s : ByteArray) (i ln : Nat) (h : i ≤ s.size) : i ≤ (skipAll s i ln).1 ∧ (skipAll s i ln).1 ≤ s.size ∧ ln ≤ (skipAll s i ln).2 ∧ (skipAll s i ln).2 + i ≤ ln + (skipAll s i ln).1 := skip_bounds s _ i ln h

theorem str_bounds (s : ByteArray) : ∀ (f k : Nat) (acc l : List UInt8) (k' : Nat), strAt s f k acc = some (l, k') → k < k' ∧ k' ≤ s.size := by
  intro f
  induction f with
  | zero => intro k acc l k' h; simp [strAt] at h
  | succ f ih =>
    intro k acc l k' h
    simp only [strAt] at h
    split at h
    · rename_i hk
      split at h
      · cases h
      · split at h
        · simp only [Option.some.injEq, Prod.mk.injEq] at h; omega
        · split at h
          · split at h
            · split at h
              · have := ih _ _ _ _ h; omega
              · split at h
                · have := ih _ _ _ _ h; omega
                · cases h
            · cases h
          · have := ih _ _ _ _ h; omega
    · cases h
theorem signW_le (s : ByteArray) (i : Nat) (hi : i < s.size) : i + signW s i ≤ s.size ∧ signW s i ≤ 2 := by
  unfold signW
  repeat' split
  all_goals omega
theorem tok_bounds {s : ByteArray} {i ln k : Nat} {t : Tk} (h : tokAt s i ln = some (t, k)) : i < k ∧ k ≤ s.size ∧ t.line = ln ∧ t.kind ≤ 4 ∧ t.n ≤ 999999999999 := by
  unfold tokAt at h
  by_cases hi : i < s.size
  · rw [dif_pos hi] at h
    cases hL : isL s[i]
    · rw [if_neg (by rw [hL]; decide)] at h
      cases hD : isD s[i]
      · rw [if_neg (by rw [hD]; decide)] at h
        by_cases h34 : s[i].toNat = 34
        · rw [if_pos h34] at h
          cases hs : strAll s (i + 1) [] with
          | none => rw [hs] at h; cases h
          | some x =>
            rw [hs] at h
            simp only [Option.map_some, Option.some.injEq, Prod.mk.injEq] at h
            obtain ⟨rfl, rfl⟩ := h
            have := str_bounds s _ _ _ _ _ hs
            exact ⟨by omega, by omega, rfl, by simp, by simp⟩
        · rw [if_neg h34] at h
          by_cases hw : signW s i = 0
          · rw [if_pos hw] at h; cases h
          · rw [if_neg hw] at h
            simp only [Option.some.injEq, Prod.mk.injEq] at h
            obtain ⟨rfl, rfl⟩ := h
            have := signW_le s i hi
            exact ⟨by omega, by omega, rfl, by simp, by simp⟩
      · rw [if_pos hD] at h
        unfold numAt at h
        split at h
        · cases h
        · split at h
          · cases h
          · simp only [Option.map_some, Option.some.injEq, Prod.mk.injEq] at h
            obtain ⟨rfl, rfl⟩ := h
            have h1 := endp_ge isD s (i + 1)
            rw [endp_lt hi hD] at h1
            exact ⟨by omega, endp_le isD s i (by omega), rfl, by simp, by simp only []; omega⟩
    · rw [if_pos hL] at h
      simp only [Option.some.injEq, Prod.mk.injEq] at h
      obtain ⟨rfl, rfl⟩ := h
      have h1 := endp_ge isLD s (i + 1)
      rw [endp_lt hi (by simp [isLD, hL])] at h1
      exact ⟨by omega, endp_le isLD s i (by omega), rfl, by simp only []; split <;> omega, by simp⟩
  · rw [dif_neg hi] at h; cases h

def lexG (s : ByteArray) (i ln : Nat) (acc : List Tk) : List Tk × Nat := lexF s (s.size - i) i ln acc
theorem lexF_out (s : ByteArray) (f i ln : Nat) (acc : List Tk) (h : ¬ i < s.size) : lexF s f i ln acc = (acc, 0) := by
  cases f with
  | zero => rfl
  | succ f => simp [lexF, h]
theorem lexF_fuel (s : ByteArray) : ∀ (f f' i ln : Nat) (acc : List Tk), s.size ≤ i + f → s.size ≤ i + f' → lexF s f i ln acc = lexF s f' i ln acc := by
  intro f
  induction f with
  | zero => intro f' i ln acc h _; rw [lexF_out _ _ _ _ _ (by omega), lexF_out _ _ _ _ _ (by omega)]
  | succ f ih =>
    intro f' i ln acc h h'
    by_cases hi : i < s.size
    · cases f' with
      | zero => omega
      | succ f' =>
        simp only [lexF, if_pos hi]
        cases ht : tokAt s i ln with
        | none => rfl
        | some x =>
          obtain ⟨t, k⟩ := x
          have h1 := tok_bounds ht
          have h2 := skipAll_bounds s k ln h1.2.1
          exact ih f' _ _ _ (by omega) (by omega)
    · rw [lexF_out _ _ _ _ _ hi, lexF_out _ _ _ _ _ hi]
theorem lex_end {s : ByteArray} {i ln : Nat} {acc : List Tk} (h : ¬ i < s.size) : lexG s i ln acc = (acc, 0) := lexF_out _ _ _ _ _ h
theorem lex_bad {s : ByteArray} {i ln : Nat} {acc : List Tk} (h : i < s.size) (ht : tokAt s i ln = none) : lexG s i ln acc = ([], ln) := by
  unfold lexG
  rw [show s.size - i = (s.size - i - 1) + 1 by omega]
  simp only [lexF, if_pos h, ht]
theorem lex_step {s : ByteArray} {i ln k : Nat} {acc : List Tk} {t : Tk} (ht : tokAt s i ln = some (t, k)) : lexG s (skipAll s k ln).1 (skipAll s k ln).2 (acc ++ [t]) = lexG s i ln acc := by
  have h1 := tok_bounds ht
  have h2 := skipAll_bounds s k ln h1.2.1
  have hi : i < s.size := by omega
  have e : lexG s i ln acc = lexF s (s.size - i - 1) (skipAll s k ln).1 (skipAll s k ln).2 (acc ++ [t]) := by
    unfold lexG
    rw [show s.size - i = (s.size - i - 1) + 1 by omega]
    simp only [lexF, if_pos hi, ht]
    rfl
  rw [e]
  exact lexF_fuel s _ _ _ _ _ (by omega) (by omega)
theorem lexAll_eq (s : ByteArray) (h : ¬ 4000 < s.size) : lexAll s = lexG s (skipAll s 0 1).1 (skipAll s 0 1).2 [] := by
  have h2 := skipAll_bounds s 0 1 (Nat.zero_le _)
  unfold lexAll lexG
  rw [if_neg h]
  exact lexF_fuel s _ _ _ _ _ (by omega) (by omega)

/-- The words' own cells, one behind the other. -/
def tkCells (l : List Tk) : List Value := l.flatMap Tk.cells
theorem tkCells_snoc (l : List Tk) (t : Tk) : tkCells (l ++ [t]) = tkCells l ++ t.cells := by simp [tkCells]
theorem tkCells_len (l : List Tk) : (tkCells l).length = l.length * 4 := by
  induction l with
  | nil => rfl
  | cons t l ih =>
    have : (tkCells (t :: l)).length = 4 + (tkCells l).length := by simp only [tkCells, List.flatMap_cons, List.length_append]; rfl
    rw [this, ih, List.length_cons]; omega
end Go.Proofs.Ytlmmomffanakiaa
