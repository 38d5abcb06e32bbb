/- The model's own reading of the word at a place: texts, signs, none. -/
import Derived.Test.YtjepokoeljpflaaDoorLexL
namespace Go.Proofs.YtjepokoeljpflaaDoor
open Go.RowKit

set_option maxRecDepth 100000 in
set_option maxHeartbeats 4000000 in
theorem token_string (s : ByteArray) (i ln : Nat) (w : World) (hs : s.size ≤ 1048576) (hi : i < s.size) (hL : isL s[i] = false) (hD : isD s[i] = false) (h34 : s[i].toNat = 34) :
    Calls Tryd.prog 28 #[.string s, .int .i64 i] w fun e w' => ∃ (kd : Int) (tx : ByteArray) (n k : Int), e = .returned (.tuple #[.agg #[.int .i64 kd, .string tx, .int .i64 n, .int .i64 0], .int .i64 k]) ∧ TokIs s i ln kd tx n k ∧ Below w.heap.size w w' := by
  rcases hn : strAll s (i + 1) [] with _ | ⟨l, k⟩
  · have HX : Hid (TokIs s i ln 2 ⟨#[]⟩ 0 (-1)) := .inr ⟨by rw [tokAt, dif_pos hi, if_neg (by rw [hL]; decide), if_neg (by rw [hD]; decide), if_pos h34, hn]; rfl, rfl⟩
    have HN : Hid (strV (strAll s (i + 1) []) = .tuple #[.string ⟨#[]⟩, .int .i64 (-1)]) := by show _ = _; rw [hn]; rfl
    have H34 : Hid (s[i].toNat = 34) := h34
    clear hn h34
    go_enter Tryd.func28, Tryd.ntmps28
    go_wp2_with fail
    refine (letter_any s[i] _).mono ?_
    rintro e w1 ⟨rfl, rfl⟩
    rw [hL]
    go_wp2_with fail
    refine (digit_any s[i] _).mono ?_
    rintro e w1 ⟨rfl, rfl⟩
    rw [hD]
    have h34 := H34.out
    go_wp2_with fail
    refine (string_any s i _ hs hi).mono ?_
    rintro e w1 ⟨rfl, hb1⟩
    rw [HN.out]
    obtain ⟨g0, hz1, hB⟩ := one_block hb1
    have g0_c0 := cell_of_row w1 w.heap.size 0 _ _ (0, 0) g0
    have g0_f0 := frozen_of_row w1 w.heap.size 0 _ _ g0
    have g0_c1 := cell_of_row w1 w.heap.size 1 _ _ (0, 0) g0
    have g0_f1 := frozen_of_row w1 w.heap.size 1 _ _ g0
    have g0_c2 := cell_of_row w1 w.heap.size 2 _ _ (0, 0) g0
    have g0_f2 := frozen_of_row w1 w.heap.size 2 _ _ g0
    have g0_c3 := cell_of_row w1 w.heap.size 3 _ _ (0, 0) g0
    have g0_f3 := frozen_of_row w1 w.heap.size 3 _ _ g0
    simp only [List.getElem?_toArray, List.getElem?_cons_zero, List.getElem?_cons_succ] at g0_c0 g0_c1 g0_c2 g0_c3
    have hz : w.heap.size < w1.heap.size := by omega
    clear hb1 g0
    go_wp2_with fail
    exact bodyPost_ret (v := .tuple #[.agg #[.int .i64 2, .string ⟨#[]⟩, .int .i64 0, .int .i64 0], .int .i64 (-1)]) (by simp [results, Tryd.results28, go_sem, *]) rfl ⟨_, _, _, _, rfl, HX.out, by (repeat (first | exact Below.refl _ _ | exact hB | refine Below.setCell ?_ (by simp) _ | refine Below.alloc ?_ (by simp) _ | apply Below.drew))⟩
  · have HX : Hid (TokIs s i ln 2 ⟨l.toArray⟩ 0 k) := .inl ⟨⟨2, ⟨l.toArray⟩, 0, ln⟩, k, by rw [tokAt, dif_pos hi, if_neg (by rw [hL]; decide), if_neg (by rw [hD]; decide), if_pos h34, hn]; rfl, rfl, rfl, rfl, rfl⟩
    have HN : Hid (strV (strAll s (i + 1) []) = .tuple #[.string ⟨l.toArray⟩, .int .i64 k]) := by show _ = _; rw [hn]; rfl
    have H34 : Hid (s[i].toNat = 34) := h34
    clear hn h34
    go_enter Tryd.func28, Tryd.ntmps28
    go_wp2_with fail
    refine (letter_any s[i] _).mono ?_
    rintro e w1 ⟨rfl, rfl⟩
    rw [hL]
    go_wp2_with fail
    refine (digit_any s[i] _).mono ?_
    rintro e w1 ⟨rfl, rfl⟩
    rw [hD]
    have h34 := H34.out
    go_wp2_with fail
    refine (string_any s i _ hs hi).mono ?_
    rintro e w1 ⟨rfl, hb1⟩
    rw [HN.out]
    obtain ⟨g0, hz1, hB⟩ := one_block hb1
    have g0_c0 := cell_of_row w1 w.heap.size 0 _ _ (0, 0) g0
    have g0_f0 := frozen_of_row w1 w.heap.size 0 _ _ g0
    have g0_c1 := cell_of_row w1 w.heap.size 1 _ _ (0, 0) g0
    have g0_f1 := frozen_of_row w1 w.heap.size 1 _ _ g0
    have g0_c2 := cell_of_row w1 w.heap.size 2 _ _ (0, 0) g0
    have g0_f2 := frozen_of_row w1 w.heap.size 2 _ _ g0
    have g0_c3 := cell_of_row w1 w.heap.size 3 _ _ (0, 0) g0
    have g0_f3 := frozen_of_row w1 w.heap.size 3 _ _ g0
    simp only [List.getElem?_toArray, List.getElem?_cons_zero, List.getElem?_cons_succ] at g0_c0 g0_c1 g0_c2 g0_c3
    have hz : w.heap.size < w1.heap.size := by omega
    clear hb1 g0
    go_wp2_with fail
    exact bodyPost_ret (v := .tuple #[.agg #[.int .i64 2, .string ⟨l.toArray⟩, .int .i64 0, .int .i64 0], .int .i64 k]) (by simp [results, Tryd.results28, go_sem, *]) rfl ⟨_, _, _, _, rfl, HX.out, by (repeat (first | exact Below.refl _ _ | exact hB | refine Below.setCell ?_ (by simp) _ | refine Below.alloc ?_ (by simp) _ | apply Below.drew))⟩

end Go.Proofs.YtjepokoeljpflaaDoor
