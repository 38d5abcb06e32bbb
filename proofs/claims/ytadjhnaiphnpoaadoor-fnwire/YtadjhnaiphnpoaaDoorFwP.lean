/- Messages come back from their bytes: no function of the program. -/
import Derived.Test.YtadjhnaiphnpoaaDoorMsP
namespace Go.Proofs.YtadjhnaiphnpoaaDoor
open Go.RowKit Go.Lib

theorem ba_same {a b : ByteArray} (h : a.data.toList = b.data.toList) : a = b := ByteArray.ext (Array.ext' h)
/-- A part of what begins with p. -/
theorem st3_part_of (p t : List UInt8) (k : Nat) : st3 ((p ++ t).take k) p ≠ 2 := by
  refine st3_agree _ _ (fun j a b ha hb => ?_)
  have hj := (List.getElem?_eq_some_iff.1 hb).1
  have hk : j < k := by
    have := (List.getElem?_eq_some_iff.1 ha).1
    rw [List.length_take] at this; omega
  rw [List.getElem?_take_of_lt hk, List.getElem?_append_left hj, hb] at ha
  exact (Option.some.inj ha).symm
theorem digits_dg (n : Nat) : ∀ (j : Nat) (b : UInt8), (decDigits n)[j]? = some b → isDg b = true := fun j b hb => by
  obtain ⟨d, hd⟩ := digit_of_decFrom _ _ _ (decFrom_digits n) j b hb
  rw [isDg, hd]; rfl
/-- A beginning of a numeral is a numeral, of no more. -/
theorem digits_take (n : Nat) : ∀ j : Nat, 1 ≤ j → j ≤ (decDigits n).length → ∃ m, m ≤ n ∧ (decDigits n).take j = decDigits m := by
  induction n using Nat.strongRecOn with
  | ind n ih =>
    intro j h1 h2
    by_cases hj : j = (decDigits n).length
    · exact ⟨n, Nat.le_refl _, by rw [hj, List.take_length]⟩
    · by_cases h10 : n < 10
      · rw [decDigits, dif_pos h10] at h2 hj; simp at h2 hj; omega
      · have e : decDigits n = decDigits (n / 10) ++ [UInt8.ofNat (48 + n % 10)] := by rw [decDigits, dif_neg h10]
        rw [e] at h2 hj ⊢
        rw [List.length_append, List.length_singleton] at h2 hj
        obtain ⟨m, hm, hmt⟩ := ih (n / 10) (by omega) j h1 (by omega)
        refine ⟨m, by omega, ?_⟩
        rw [List.take_append_of_le_length (by omega), hmt]
theorem dgN_digits (n : Nat) (t : List UInt8) (ht : ∀ b, t[0]? = some b → isDg b = false) : dgN (decDigits n ++ t) = (decDigits n).length :=
  dgN_eq _ _ (fun j b hj hb => digits_dg n j b (by rw [List.getElem?_append_left hj] at hb; exact hb)) (fun b hb => ht b (by rw [List.getElem?_append_right (Nat.le_refl _), Nat.sub_self] at hb; exact hb)) (by rw [List.length_append]; omega)
theorem take_past (a b : List UInt8) (k : Nat) : (a ++ b).take (a.length + k) = a ++ b.take k := by
  rw [List.take_append, List.take_of_length_le (by omega), Nat.add_sub_cancel_left]
theorem head_len : headT.data.toList.length = 16 := rfl
theorem end_len : endT.data.toList.length = 4 := rfl
theorem end_first (t : List UInt8) (k : Nat) : ∀ b, ((endT.data.toList ++ t).take k)[0]? = some b → isDg b = false := fun b hb => by
  cases k with
  | zero => simp at hb
  | succ k =>
    have e : endT.data.toList ++ t = 13 :: ([10, 13, 10] ++ t) := rfl
    rw [e, List.take_succ_cons] at hb
    have : b = 13 := (Option.some.inj hb).symm
    subst this; decide
theorem put_list {body : ByteArray} (h : ¬ 5000 < body.size) : (putT body).data.toList = headT.data.toList ++ (decDigits body.size ++ (endT.data.toList ++ body.data.toList)) := by
  rw [putT_no h]
  simp only [ByteArray.data_append, Array.toList_append, List.append_assoc, numT, itoa_pos]
theorem put_size {body : ByteArray} (h : ¬ 5000 < body.size) : (putT body).size = 16 + (decDigits body.size).length + 4 + body.size := by
  have e1 : headT.size = 16 := rfl
  have e2 : endT.size = 4 := rfl
  rw [Lib.size_eq, put_list h]
  simp only [List.length_append, ← Lib.size_eq]
  omega
theorem put_len (body : ByteArray) : (putT body).size ≤ 5041 := by
  by_cases h : 5000 < body.size
  · rw [putT_yes h]; exact Nat.zero_le _
  · rw [put_size h]
    have := decDigits_lenR (u := body.size) (k := 4) (by omega) (by decide)
    omega

/-- A message whole, whatever stands behind. -/
theorem next_put {s body u : ByteArray} (h : ¬ 5000 < body.size) (hs : s.data.toList = (putT body).data.toList ++ u.data.toList) : nextV s = nmV body ((putT body).size : Int) 0 := by
  have hl : s.data.toList = headT.data.toList ++ (decDigits body.size ++ (endT.data.toList ++ (body.data.toList ++ u.data.toList))) := by
    rw [hs, put_list h]; simp only [List.append_assoc]
  have hdl := decDigits_ne body.size
  have hdp : 0 < (decDigits body.size).length := List.length_pos_iff.2 hdl
  have hz : s.size = 16 + (decDigits body.size).length + 4 + body.size + u.size := by
    have e1 : headT.size = 16 := rfl
    have e2 : endT.size = 4 := rfl
    rw [Lib.size_eq, hl]
    simp only [List.length_append, ← Lib.size_eq]
    omega
  have hd16 : s.data.toList.drop 16 = decDigits body.size ++ (endT.data.toList ++ (body.data.toList ++ u.data.toList)) := by
    rw [hl]; exact List.drop_left' head_len
  have hdg : dgN (s.data.toList.drop 16) = (decDigits body.size).length := by
    rw [hd16]
    exact dgN_digits _ _ (fun b hb => end_first (body.data.toList ++ u.data.toList) 1 b (by
      have e : endT.data.toList ++ (body.data.toList ++ u.data.toList) = 13 :: ([10, 13, 10] ++ (body.data.toList ++ u.data.toList)) := rfl
      rw [e] at hb ⊢; exact hb))
  have hE : dgE s = 16 + (decDigits body.size).length := by rw [dgE, hdg]
  have h1 : st3 s.data.toList headT.data.toList ≠ 2 := by
    have := st3_part_of headT.data.toList (decDigits body.size ++ (endT.data.toList ++ (body.data.toList ++ u.data.toList))) s.data.toList.length
    rw [← hl, List.take_length] at this; exact this
  have h2 : szR ((s.data.toList.drop 16).take (dgN (s.data.toList.drop 16))) = some body.size := by
    rw [hdg, hd16, List.take_left]; exact szR_of (by omega)
  have hdE : s.data.toList.drop (dgE s) = endT.data.toList ++ (body.data.toList ++ u.data.toList) := by
    rw [hE, ← List.drop_drop, hd16, List.drop_left]
  have h3 : st3 (s.data.toList.drop (dgE s)) endT.data.toList ≠ 2 := by
    have := st3_part_of endT.data.toList (body.data.toList ++ u.data.toList) (endT.data.toList ++ (body.data.toList ++ u.data.toList)).length
    rw [List.take_length] at this
    rw [hdE]; exact this
  rw [nextV_f h1 (by omega) h2 h3 (by rw [hE]; omega)]
  have hb : s.extract (dgE s + 4) (dgE s + 4 + body.size) = body := by
    apply ba_same
    rw [ext_list, ← List.drop_drop, hdE]
    have : (endT.data.toList ++ (body.data.toList ++ u.data.toList)).drop 4 = body.data.toList ++ u.data.toList := List.drop_left' end_len
    rw [this, show dgE s + 4 + body.size - (dgE s + 4) = body.data.toList.length by rw [← Lib.size_eq]; omega, List.take_left]
  rw [hb, put_size h, hE]

/-- A part of a message is not enough. -/
theorem next_part {s body : ByteArray} {k : Nat} (h : ¬ 5000 < body.size) (hk : k < (putT body).size) (hs : s.data.toList = (putT body).data.toList.take k) : nextV s = nmV ⟨#[]⟩ 0 1 := by
  have hpz := put_size h
  have hl : s.data.toList = (headT.data.toList ++ (decDigits body.size ++ (endT.data.toList ++ body.data.toList))).take k := by rw [hs, put_list h]
  have hz : s.size = k := by rw [Lib.size_eq, hs, List.length_take, ← Lib.size_eq]; omega
  have h1 : st3 s.data.toList headT.data.toList ≠ 2 := by rw [hl]; exact st3_part_of _ _ _
  by_cases h16 : s.size ≤ 16
  · exact nextV_b h1 h16
  · have hd16 : s.data.toList.drop 16 = (decDigits body.size ++ (endT.data.toList ++ body.data.toList)).take (k - 16) := by
      rw [hl, List.drop_take]
      congr 1
    by_cases hD : k - 16 ≤ (decDigits body.size).length
    · obtain ⟨m, hm, hmt⟩ := digits_take body.size (k - 16) (by omega) hD
      have hr : s.data.toList.drop 16 = decDigits m := by rw [hd16, List.take_append_of_le_length hD, hmt]
      have hdg : dgN (s.data.toList.drop 16) = (decDigits m).length := by
        have := dgN_digits m [] (fun b hb => by simp at hb)
        rw [hr]; rwa [List.append_nil] at this
      have h2 : szR ((s.data.toList.drop 16).take (dgN (s.data.toList.drop 16))) = some m := by
        rw [hdg, hr, List.take_length]; exact szR_of (by omega)
      have hlen : (decDigits m).length = k - 16 := by rw [← hr, List.length_drop, ← Lib.size_eq]; omega
      have hE : dgE s = k := by rw [dgE, hdg, hlen]; omega
      have h3 : st3 (s.data.toList.drop (dgE s)) endT.data.toList ≠ 2 := by
        rw [hE, List.drop_eq_nil_of_le (by rw [← Lib.size_eq]; omega)]
        exact st3_agree _ _ (fun j a b ha _ => by simp at ha)
      exact nextV_e h1 h16 h2 h3 (by rw [hE]; omega)
    · have hr : s.data.toList.drop 16 = decDigits body.size ++ (endT.data.toList ++ body.data.toList).take (k - 16 - (decDigits body.size).length) := by
        rw [hd16, List.take_append, List.take_of_length_le (by omega)]
      have hdg : dgN (s.data.toList.drop 16) = (decDigits body.size).length := by rw [hr]; exact dgN_digits _ _ (end_first _ _)
      have h2 : szR ((s.data.toList.drop 16).take (dgN (s.data.toList.drop 16))) = some body.size := by
        rw [hdg, hr, List.take_left]; exact szR_of (by omega)
      have hE : dgE s = 16 + (decDigits body.size).length := by rw [dgE, hdg]
      have h3 : st3 (s.data.toList.drop (dgE s)) endT.data.toList ≠ 2 := by
        rw [hE, ← List.drop_drop, hr, List.drop_left]
        exact st3_part_of _ _ _
      exact nextV_e h1 h16 h2 h3 (by rw [hE]; omega)

/-- What was read of a text is what its body is put as. -/
theorem put_next {s : ByteArray} (h : (nextT s).2.2 = 0) : putT (nextT s).1 = s.extract 0 (nextT s).2.1.toNat := by
  have hv := nextV_nm s
  by_cases h1 : st3 s.data.toList headT.data.toList = 2
  · have := nextV_a h1; rw [nextT, this] at h; exact absurd h (by decide)
  · by_cases h16 : s.size ≤ 16
    · have := nextV_b h1 h16; rw [nextT, this] at h; exact absurd h (by decide)
    · cases h2 : szR ((s.data.toList.drop 16).take (dgN (s.data.toList.drop 16))) with
      | none => have := nextV_c h1 h16 h2; rw [nextT, this] at h; exact absurd h (by decide)
      | some n =>
        by_cases h3 : st3 (s.data.toList.drop (dgE s)) endT.data.toList = 2
        · have := nextV_d h1 h16 h2 h3; rw [nextT, this] at h; exact absurd h (by decide)
        · by_cases h4 : s.size < dgE s + 4 + n
          · have := nextV_e h1 h16 h2 h3 h4; rw [nextT, this] at h; exact absurd h (by decide)
          · have hf := nextV_f h1 h16 h2 h3 h4
            have e1 : (nextT s).1 = s.extract (dgE s + 4) (dgE s + 4 + n) := by rw [nextT, hf]; rfl
            have e2 : (nextT s).2.1.toNat = dgE s + 4 + n := by rw [nextT, hf]; exact Int.toNat_natCast _
            rw [e1, e2]
            obtain ⟨hn5, hD, _⟩ := szR_some h2
            have hbz : (s.extract (dgE s + 4) (dgE s + 4 + n)).size = n := by rw [ByteArray.size_extract]; omega
            have hz := Lib.size_eq s
            -- the head
            have hst1 : st3 s.data.toList headT.data.toList = 0 := by
              rcases st3_cases s.data.toList headT.data.toList with e | e | e
              · exact e
              · have := st3_len1 e; rw [← hz, head_len] at this; omega
              · exact absurd e h1
            obtain ⟨t, ht⟩ := List.isPrefixOf_iff_prefix.1 (st3_zero hst1)
            have hst2 : st3 (s.data.toList.drop (dgE s)) endT.data.toList = 0 := by
              rcases st3_cases (s.data.toList.drop (dgE s)) endT.data.toList with e | e | e
              · exact e
              · have := st3_len1 e; rw [List.length_drop, ← hz, end_len] at this; omega
              · exact absurd e h3
            obtain ⟨v, hv2⟩ := List.isPrefixOf_iff_prefix.1 (st3_zero hst2)
            have hd16 : s.data.toList.drop 16 = t := by rw [← ht]; exact List.drop_left' head_len
            have hdg := dgN_le (s.data.toList.drop 16)
            have hsp : s.data.toList = headT.data.toList ++ (decDigits n ++ (endT.data.toList ++ v)) := by
              rw [← ht]
              congr 1
              rw [← hd16]
              conv => lhs; rw [← List.take_append_drop (dgN (s.data.toList.drop 16)) (s.data.toList.drop 16)]
              rw [hD, List.drop_drop]
              congr 1
              rw [hv2]; rfl
            have hvb : (s.extract (dgE s + 4) (dgE s + 4 + n)).data.toList = v.take n := by
              rw [ext_list, ← List.drop_drop, ← hv2]
              have : (endT.data.toList ++ v).drop 4 = v := List.drop_left' end_len
              rw [this, show dgE s + 4 + n - (dgE s + 4) = n by omega]
            have hdl : (decDigits n).length = dgN (s.data.toList.drop 16) := by
              rw [← hD, List.length_take]; omega
            apply ba_same
            rw [put_list (by omega), hbz, hvb, ext_list, List.drop_zero, Nat.sub_zero]
            conv => rhs; rw [hsp]
            have hEq : dgE s = 16 + (decDigits n).length := by rw [dgE, hdl]
            rw [show dgE s + 4 + n = headT.data.toList.length + ((decDigits n).length + (endT.data.toList.length + n)) by rw [hEq, head_len, end_len]; omega, take_past, take_past, take_past]

/-- The texts of messages joined. -/
def catP : List ByteArray → ByteArray
  | [] => ⟨#[]⟩
  | b :: l => putT b ++ catP l
theorem catP_snoc (l : List ByteArray) (b : ByteArray) : (catP (l ++ [b])).data.toList = (catP l).data.toList ++ (putT b).data.toList := by
  induction l with
  | nil => simp [catP]
  | cons x l ih => simp only [List.cons_append, catP, ByteArray.data_append, Array.toList_append, ih, List.append_assoc]
theorem catP_msgR (s : ByteArray) : ∀ (k i : Nat) (out : List ByteArray), i ≤ s.size → (catP out).data.toList = s.data.toList.take i → (catP (msgR s k i out).1).data.toList = s.data.toList.take (msgR s k i out).2.1 ∧ (msgR s k i out).2.1 ≤ s.size
  | 0, i, out, hi, h => ⟨h, hi⟩
  | k + 1, i, out, hi, h => by
    unfold msgR
    split
    · exact ⟨h, hi⟩
    · split
      · rename_i h1 h2
        obtain ⟨n, hn, hn0, hn1⟩ := next_ok h2
        rw [ByteArray.size_extract] at hn1
        have hp := put_next h2
        rw [hn] at hp ⊢
        simp only [Int.toNat_natCast] at hp ⊢
        refine catP_msgR s k (i + n) _ (by omega) ?_
        rw [catP_snoc, h, hp, ext_list, List.drop_zero, ext_end, Nat.sub_zero, ← List.take_add]
      · exact ⟨h, hi⟩
theorem catP_msgs (s : ByteArray) : (catP (msgs s).1).data.toList = s.data.toList.take (msgs s).2.1 ∧ (msgs s).2.1 ≤ s.size := catP_msgR s 100 0 [] (Nat.zero_le _) rfl
theorem msgR_small (s : ByteArray) : ∀ (k i : Nat) (out : List ByteArray), (∀ b ∈ out, b.size ≤ 5000) → ∀ b ∈ (msgR s k i out).1, b.size ≤ 5000
  | 0, _, _, h => h
  | k + 1, i, out, h => by
    unfold msgR
    split
    · exact h
    · split
      · refine msgR_small s k _ _ (fun b hb => ?_)
        rcases List.mem_append.1 hb with hb | hb
        · exact h b hb
        · rw [List.mem_singleton] at hb; rw [hb]; exact next_body _
      · exact h
theorem catP_size : ∀ (l : List ByteArray), (catP l).size ≤ 5041 * l.length
  | [] => Nat.zero_le _
  | b :: l => by
    have h1 := catP_size l
    have h2 := put_len b
    simp only [catP, ByteArray.size_append, List.length_cons]
    omega
end Go.Proofs.YtadjhnaiphnpoaaDoor
