/- The model's own reading of the word at a place: texts, signs, none. -/
import Derived.Test.YtjepokoeljpflaaDoorLexL
namespace Go.Proofs.YtjepokoeljpflaaDoor
open Go.RowKit

theorem signT_size (s : ByteArray) (i : Nat) (h : signW s i ≠ 0) (hi : i < s.size) : (signT s i).size = signW s i := by
  have hw : i + signW s i ≤ s.size := by
    unfold signW
    repeat' split
    all_goals omega
  unfold signT; rw [if_neg h]; simp; try omega
theorem signT_empty (s : ByteArray) (i : Nat) (hi : i < s.size) : (signT s i).toList.isEmpty = decide (signW s i = 0) := by
  by_cases h : signW s i = 0
  · simp [signT, h]
  · have := signT_size s i h hi
    rw [ByteArray.toList_eq, decide_eq_false h]
    rw [Lib.size_eq] at this
    cases hl : (signT s i).data.toList with
    | nil => rw [hl] at this; simp at this; exact absurd this.symm h
    | cons a b => rfl

set_option maxRecDepth 100000 in
set_option maxHeartbeats 4000000 in
theorem token_sign (s : ByteArray) (i ln : Nat) (w : World) (hs : s.size ≤ 1048576) (hi : i < s.size) (hL : isL s[i] = false) (hD : isD s[i] = false) (h34 : s[i].toNat ≠ 34) :
    Calls Tryd.prog 28 #[.string s, .int .i64 i] w fun e w' => ∃ (kd : Int) (tx : ByteArray) (n k : Int), e = .returned (.tuple #[.agg #[.int .i64 kd, .string tx, .int .i64 n, .int .i64 0], .int .i64 k]) ∧ TokIs s i ln kd tx n k ∧ Below w.heap.size w w' := by
  have b34 : ((s[i].toNat : Int) == 34) = false := beq_no (by omega)
  have hem := signT_empty s i hi
  by_cases hw : signW s i = 0
  · have HX : Hid (TokIs s i ln 0 ⟨#[]⟩ 0 (-1)) := .inr ⟨by rw [tokAt, dif_pos hi, if_neg (by rw [hL]; decide), if_neg (by rw [hD]; decide), if_neg h34]; simp only [hw, if_true], rfl⟩
    have hem' : (signT s i).toList.isEmpty = true := by rw [hem]; simp [hw]
    clear hem hw
    go_enter Tryd.func28, Tryd.ntmps28
    go_wp2_with fail
    refine (letter_any s[i] _).mono ?_
    rintro e w1 ⟨rfl, rfl⟩
    rw [hL]
    go_wp2_with fail
    refine (digit_any s[i] _).mono ?_
    rintro e w1 ⟨rfl, rfl⟩
    rw [hD]
    go_wp2_with fail
    refine (sign_any s i _ hs hi).mono ?_
    rintro e w1 ⟨rfl, hb1⟩
    obtain ⟨g0, hz1, hB⟩ := one_block hb1
    have g0_c0 := cell_of_row w1 w.heap.size 0 _ _ (0, 0) g0
    have g0_f0 := frozen_of_row w1 w.heap.size 0 _ _ g0
    have g0_c1 := cell_of_row w1 w.heap.size 1 _ _ (0, 0) g0
    have g0_f1 := frozen_of_row w1 w.heap.size 1 _ _ g0
    have g0_c2 := cell_of_row w1 w.heap.size 2 _ _ (0, 0) g0
    have g0_f2 := frozen_of_row w1 w.heap.size 2 _ _ g0
    have g0_c3 := cell_of_row w1 w.heap.size 3 _ _ (0, 0) g0
    have g0_f3 := frozen_of_row w1 w.heap.size 3 _ _ g0
    simp only [List.getElem?_toArray, List.getElem?_cons_zero, List.getElem?_cons_succ] at g0_c0 g0_c1 g0_c2 g0_c3
    have hz : w.heap.size < w1.heap.size := by omega
    clear hb1 g0
    go_wp2_with fail
    exact bodyPost_ret (v := .tuple #[.agg #[.int .i64 0, .string ⟨#[]⟩, .int .i64 0, .int .i64 0], .int .i64 (-1)]) (by simp [results, Tryd.results28, go_sem, *]) rfl ⟨_, _, _, _, rfl, HX.out, by (repeat (first | exact Below.refl _ _ | exact hB | refine Below.setCell ?_ (by simp) _ | refine Below.alloc ?_ (by simp) _ | apply Below.drew))⟩
  · have HX : Hid (TokIs s i ln 3 (signT s i) 0 (i + signW s i : Nat)) := .inl ⟨⟨3, s.extract i (i + signW s i), 0, ln⟩, _, by rw [tokAt, dif_pos hi, if_neg (by rw [hL]; decide), if_neg (by rw [hD]; decide), if_neg h34]; simp only [hw, if_false], rfl, by simp [signT, hw], rfl, rfl⟩
    have hsz := signT_size s i hw hi
    have hem' : (signT s i).toList.isEmpty = false := by rw [hem]; simp [hw]
    have hw2 : signW s i ≤ 2 := by
      unfold signW
      repeat' split
      all_goals omega
    clear hem hw
    have HS : Hid ((signT s i).size = signW s i) := hsz
    clear hsz
    go_enter Tryd.func28, Tryd.ntmps28
    go_wp2_with fail
    refine (letter_any s[i] _).mono ?_
    rintro e w1 ⟨rfl, rfl⟩
    rw [hL]
    go_wp2_with fail
    refine (digit_any s[i] _).mono ?_
    rintro e w1 ⟨rfl, rfl⟩
    rw [hD]
    go_wp2_with fail
    refine (sign_any s i _ hs hi).mono ?_
    rintro e w1 ⟨rfl, hb1⟩
    obtain ⟨g0, hz1, hB⟩ := one_block hb1
    have g0_c0 := cell_of_row w1 w.heap.size 0 _ _ (0, 0) g0
    have g0_f0 := frozen_of_row w1 w.heap.size 0 _ _ g0
    have g0_c1 := cell_of_row w1 w.heap.size 1 _ _ (0, 0) g0
    have g0_f1 := frozen_of_row w1 w.heap.size 1 _ _ g0
    have g0_c2 := cell_of_row w1 w.heap.size 2 _ _ (0, 0) g0
    have g0_f2 := frozen_of_row w1 w.heap.size 2 _ _ g0
    have g0_c3 := cell_of_row w1 w.heap.size 3 _ _ (0, 0) g0
    have g0_f3 := frozen_of_row w1 w.heap.size 3 _ _ g0
    simp only [List.getElem?_toArray, List.getElem?_cons_zero, List.getElem?_cons_succ] at g0_c0 g0_c1 g0_c2 g0_c3
    have hz : w.heap.size < w1.heap.size := by omega
    clear hb1 g0
    generalize signT s i = tx at *
    have hsz := HS.out
    go_wp2_with fail
    exact bodyPost_ret (v := .tuple #[.agg #[.int .i64 3, .string tx, .int .i64 0, .int .i64 0], .int .i64 (i + signW s i : Nat)]) (by simp [results, Tryd.results28, go_sem, *]) rfl ⟨_, _, _, _, rfl, HX.out, by (repeat (first | exact Below.refl _ _ | exact hB | refine Below.setCell ?_ (by simp) _ | refine Below.alloc ?_ (by simp) _ | apply Below.drew))⟩
end Go.Proofs.YtjepokoeljpflaaDoor
