/- The model's own reading of the word at a place. -/
import Derived.Test.YtlmmomffanakiaaJmB
import Derived.Test.YtlmmomffanakiaaJmA
namespace Go.Proofs.Ytlmmomffanakiaa
open Go.RowKit

theorem two_blocks {w w1 : World} {x y : Array Value} {T : TypeId} (hb : Below ((w.alloc (.cells x T)).alloc (.cells y T)).heap.size ((w.alloc (.cells x T)).alloc (.cells y T)) w1) :
    w1.heap[w.heap.size]? = some (.cells x T (0, 0)) ∧ w1.heap[w.heap.size + 1]? = some (.cells y T (0, 0)) ∧ w.heap.size + 2 ≤ w1.heap.size ∧ Below w.heap.size w w1 := by
  have h1 : (w.alloc (.cells x T)).heap.size = w.heap.size + 1 := by simp
  have h2 : ((w.alloc (.cells x T)).alloc (.cells y T)).heap.size = w.heap.size + 2 := by simp
  refine ⟨?_, ?_, by have := hb.size; omega, (below_two w _ _).trans (hb.mono (by omega))⟩
  · rw [hb.block _ (by omega), Below.heap_alloc _ _ _ (by omega)]; exact heap_alloc_new w _
  · rw [hb.block _ (by omega)]
    have := heap_alloc_new (w.alloc (.cells x T)) (.cells y T)
    rw [h1] at this
    exact this

theorem bcell {W w1 : World} (hb : Below W.heap.size W w1) : (∀ b o, b < W.heap.size → w1.cell? ⟨b, o, none⟩ = W.cell? ⟨b, o, none⟩) ∧ (∀ b o, b < W.heap.size → w1.frozen? ⟨b, o, none⟩ = W.frozen? ⟨b, o, none⟩) :=
  ⟨fun b o h => hb.cell (p := ⟨b, o, none⟩) h, fun b o h => hb.frozen (p := ⟨b, o, none⟩) h⟩

/-- What the reading of a word answers, held against the plain one. -/
def TokIs (s : ByteArray) (i ln : Nat) (kd : Int) (tx : ByteArray) (n k : Int) : Prop :=
  (∃ (t : Tk) (k' : Nat), tokAt s i ln = some (t, k') ∧ kd = t.kind ∧ tx = t.text ∧ n = t.n ∧ k = k') ∨ (tokAt s i ln = none ∧ k = -1)

set_option maxRecDepth 100000 in
set_option maxHeartbeats 4000000 in
theorem token_name (s : ByteArray) (i ln : Nat) (w : World) (hs : s.size ≤ 1048576) (hi : i < s.size) (hL : isL s[i] = true) :
    Calls Try.prog 43 #[.string s, .int .i64 i] w fun e w' => ∃ (kd : Int) (tx : ByteArray) (n k : Int), e = .returned (.tuple #[.agg #[.int .i64 kd, .string tx, .int .i64 n, .int .i64 0], .int .i64 k]) ∧ TokIs s i ln kd tx n k ∧ Below w.heap.size w w' := by
  have HT : Hid (tokAt s i ln = some (⟨if kwB (s.extract i (endp isLD s i)) = true then 4 else 0, s.extract i (endp isLD s i), 0, ln⟩, endp isLD s i)) := by
    show tokAt s i ln = _
    simp only [tokAt, dif_pos hi, if_pos hL]
  go_enter Try.func43, Try.ntmps43
  go_wp2_with fail
  refine (letter_any s[i] _).mono ?_
  rintro e w1 ⟨rfl, rfl⟩
  rw [hL]
  go_wp2_with fail
  go_loop [6] (fun a => ∃ k : Nat, a = .int .i64 k ∧ i ≤ k ∧ k ≤ s.size ∧ endp isLD s k = endp isLD s i) (fun a => s.size - (intOf a).toNat)
  case atStart => exact ⟨i, rfl, Nat.le_refl _, by omega, rfl⟩
  case round =>
    obtain ⟨k, rfl, hik, hk, he⟩ := hrel
    by_cases hlt : k < s.size
    · cases hl : isL s[k]
      · cases hd : isD s[k]
        · have e1 : endp isLD s k = k := endp_no hlt (by simp [isLD, hl, hd])
          have HK : Hid (endp isLD s i = k) := he.symm.trans e1
          clear he e1
          go_wp2_with fail
          refine (letter_any s[k] _).mono ?_
          rintro e w1 ⟨rfl, rfl⟩
          rw [hl]
          go_wp2_with fail
          refine (digit_any s[k] _).mono ?_
          rintro e w1 ⟨rfl, rfl⟩
          rw [hd]
          go_wp2_with fail
          refine (kw_spec (s.extract i k) _).mono ?_
          rintro e w1 ⟨rfl, hb1⟩
          obtain ⟨g0, g1, hz1, hB⟩ := two_blocks hb1
          have g0_c0 := cell_of_row w1 (w.heap.size) 0 _ _ (0, 0) g0
          have g0_f0 := frozen_of_row w1 (w.heap.size) 0 _ _ g0
          have g0_c1 := cell_of_row w1 (w.heap.size) 1 _ _ (0, 0) g0
          have g0_f1 := frozen_of_row w1 (w.heap.size) 1 _ _ g0
          have g0_c2 := cell_of_row w1 (w.heap.size) 2 _ _ (0, 0) g0
          have g0_f2 := frozen_of_row w1 (w.heap.size) 2 _ _ g0
          have g0_c3 := cell_of_row w1 (w.heap.size) 3 _ _ (0, 0) g0
          have g0_f3 := frozen_of_row w1 (w.heap.size) 3 _ _ g0
          have g1_c0 := cell_of_row w1 (w.heap.size + 1) 0 _ _ (0, 0) g1
          have g1_f0 := frozen_of_row w1 (w.heap.size + 1) 0 _ _ g1
          have g1_c1 := cell_of_row w1 (w.heap.size + 1) 1 _ _ (0, 0) g1
          have g1_f1 := frozen_of_row w1 (w.heap.size + 1) 1 _ _ g1
          have g1_c2 := cell_of_row w1 (w.heap.size + 1) 2 _ _ (0, 0) g1
          have g1_f2 := frozen_of_row w1 (w.heap.size + 1) 2 _ _ g1
          have g1_c3 := cell_of_row w1 (w.heap.size + 1) 3 _ _ (0, 0) g1
          have g1_f3 := frozen_of_row w1 (w.heap.size + 1) 3 _ _ g1
          simp only [List.getElem?_toArray, List.getElem?_cons_zero, List.getElem?_cons_succ] at g0_c0 g0_c1 g0_c2 g0_c3 g1_c0 g1_c1 g1_c2 g1_c3
          have hz : w.heap.size < w1.heap.size := by omega
          have hz' : w.heap.size + 1 < w1.heap.size := by omega
          clear hb1 g0 g1
          cases hkw : kwB (s.extract i k)
          · have HX : Hid (TokIs s i ln 0 (s.extract i k) 0 k) := .inl ⟨_, _, HT.out, by rw [HK.out, hkw]; rfl, by rw [HK.out], rfl, by rw [HK.out]⟩
            go_wp2_with fail
            exact bodyPost_ret (v := .tuple #[.agg #[.int .i64 0, .string (s.extract i k), .int .i64 0, .int .i64 0], .int .i64 k]) (by simp [results, Try.results43, go_sem, *]) rfl ⟨_, _, _, _, rfl, HX.out, by (repeat (first | exact hB | refine Below.setCell ?_ (by simp; try omega) _ | refine Below.alloc ?_ (by simp; try omega) _ | apply Below.drew))⟩
          · have HX : Hid (TokIs s i ln 4 (s.extract i k) 0 k) := .inl ⟨_, _, HT.out, by rw [HK.out, hkw]; rfl, by rw [HK.out], rfl, by rw [HK.out]⟩
            go_wp2_with fail
            exact bodyPost_ret (v := .tuple #[.agg #[.int .i64 4, .string (s.extract i k), .int .i64 0, .int .i64 0], .int .i64 k]) (by simp [results, Try.results43, go_sem, *]) rfl ⟨_, _, _, _, rfl, HX.out, by (repeat (first | exact hB | refine Below.setCell ?_ (by simp; try omega) _ | refine Below.alloc ?_ (by simp; try omega) _ | apply Below.drew))⟩
        · have HK : Hid (endp isLD s (k + 1) = endp isLD s i) := (endp_lt hlt (by simp [isLD, hd])).trans he
          clear he
          go_wp2_with fail
          refine (letter_any s[k] _).mono ?_
          rintro e w1 ⟨rfl, rfl⟩
          rw [hl]
          go_wp2_with fail
          refine (digit_any s[k] _).mono ?_
          rintro e w1 ⟨rfl, rfl⟩
          rw [hd]
          go_wp2_with fail
          go_round
          case rel => exact ⟨k + 1, by go_num, by omega, by omega, HK.out⟩
          case measure => simp [intOf]; omega
      · have HK : Hid (endp isLD s (k + 1) = endp isLD s i) := (endp_lt hlt (by simp [isLD, hl])).trans he
        clear he
        go_wp2_with fail
        refine (letter_any s[k] _).mono ?_
        rintro e w1 ⟨rfl, rfl⟩
        rw [hl]
        go_wp2_with fail
        go_round
        case rel => exact ⟨k + 1, by go_num, by omega, by omega, HK.out⟩
        case measure => simp [intOf]; omega
    · have HK : Hid (endp isLD s i = k) := he.symm.trans (endp_out hlt)
      clear he
      go_wp2_with fail
      refine (kw_spec (s.extract i k) _).mono ?_
      rintro e w1 ⟨rfl, hb1⟩
      obtain ⟨g0, g1, hz1, hB⟩ := two_blocks hb1
      have g0_c0 := cell_of_row w1 (w.heap.size) 0 _ _ (0, 0) g0
      have g0_f0 := frozen_of_row w1 (w.heap.size) 0 _ _ g0
      have g0_c1 := cell_of_row w1 (w.heap.size) 1 _ _ (0, 0) g0
      have g0_f1 := frozen_of_row w1 (w.heap.size) 1 _ _ g0
      have g0_c2 := cell_of_row w1 (w.heap.size) 2 _ _ (0, 0) g0
      have g0_f2 := frozen_of_row w1 (w.heap.size) 2 _ _ g0
      have g0_c3 := cell_of_row w1 (w.heap.size) 3 _ _ (0, 0) g0
      have g0_f3 := frozen_of_row w1 (w.heap.size) 3 _ _ g0
      have g1_c0 := cell_of_row w1 (w.heap.size + 1) 0 _ _ (0, 0) g1
      have g1_f0 := frozen_of_row w1 (w.heap.size + 1) 0 _ _ g1
      have g1_c1 := cell_of_row w1 (w.heap.size + 1) 1 _ _ (0, 0) g1
      have g1_f1 := frozen_of_row w1 (w.heap.size + 1) 1 _ _ g1
      have g1_c2 := cell_of_row w1 (w.heap.size + 1) 2 _ _ (0, 0) g1
      have g1_f2 := frozen_of_row w1 (w.heap.size + 1) 2 _ _ g1
      have g1_c3 := cell_of_row w1 (w.heap.size + 1) 3 _ _ (0, 0) g1
      have g1_f3 := frozen_of_row w1 (w.heap.size + 1) 3 _ _ g1
      simp only [List.getElem?_toArray, List.getElem?_cons_zero, List.getElem?_cons_succ] at g0_c0 g0_c1 g0_c2 g0_c3 g1_c0 g1_c1 g1_c2 g1_c3
      have hz : w.heap.size < w1.heap.size := by omega
      have hz' : w.heap.size + 1 < w1.heap.size := by omega
      clear hb1 g0 g1
      cases hkw : kwB (s.extract i k)
      · have HX : Hid (TokIs s i ln 0 (s.extract i k) 0 k) := .inl ⟨_, _, HT.out, by rw [HK.out, hkw]; rfl, by rw [HK.out], rfl, by rw [HK.out]⟩
        go_wp2_with fail
        exact bodyPost_ret (v := .tuple #[.agg #[.int .i64 0, .string (s.extract i k), .int .i64 0, .int .i64 0], .int .i64 k]) (by simp [results, Try.results43, go_sem, *]) rfl ⟨_, _, _, _, rfl, HX.out, by (repeat (first | exact hB | refine Below.setCell ?_ (by simp; try omega) _ | refine Below.alloc ?_ (by simp; try omega) _ | apply Below.drew))⟩
      · have HX : Hid (TokIs s i ln 4 (s.extract i k) 0 k) := .inl ⟨_, _, HT.out, by rw [HK.out, hkw]; rfl, by rw [HK.out], rfl, by rw [HK.out]⟩
        go_wp2_with fail
        exact bodyPost_ret (v := .tuple #[.agg #[.int .i64 4, .string (s.extract i k), .int .i64 0, .int .i64 0], .int .i64 k]) (by simp [results, Try.results43, go_sem, *]) rfl ⟨_, _, _, _, rfl, HX.out, by (repeat (first | exact hB | refine Below.setCell ?_ (by simp; try omega) _ | refine Below.alloc ?_ (by simp; try omega) _ | apply Below.drew))⟩
end Go.Proofs.Ytlmmomffanakiaa
namespace Go.Proofs.Ytlmmomffanakiaa
open Go.RowKit

theorem one_block {w w1 : World} {x : Array Value} {T : TypeId} (hb : Below (w.alloc (.cells x T)).heap.size (w.alloc (.cells x T)) w1) :
    w1.heap[w.heap.size]? = some (.cells x T (0, 0)) ∧ w.heap.size + 1 ≤ w1.heap.size ∧ Below w.heap.size w w1 := by
  have h1 : (w.alloc (.cells x T)).heap.size = w.heap.size + 1 := by simp
  refine ⟨?_, by have := hb.size; omega, (below_one w _).trans (hb.mono (by omega))⟩
  rw [hb.block _ (by omega)]; exact heap_alloc_new w _

set_option maxRecDepth 100000 in
set_option maxHeartbeats 4000000 in
theorem token_number (s : ByteArray) (i ln : Nat) (w : World) (hs : s.size ≤ 1048576) (hi : i < s.size) (hL : isL s[i] = false) (hD : isD s[i] = true) :
    Calls Try.prog 43 #[.string s, .int .i64 i] w fun e w' => ∃ (kd : Int) (tx : ByteArray) (n k : Int), e = .returned (.tuple #[.agg #[.int .i64 kd, .string tx, .int .i64 n, .int .i64 0], .int .i64 k]) ∧ TokIs s i ln kd tx n k ∧ Below w.heap.size w w' := by
  rcases hn : numAt s i with _ | ⟨n, k⟩
  · have HX : Hid (TokIs s i ln 1 ⟨#[]⟩ 0 (-1)) := .inr ⟨by simp [tokAt, hi, hL, hD, hn], rfl⟩
    have HN : Hid (numV (numAt s i) = .tuple #[.int .i64 0, .int .i64 (-1)]) := by show _ = _; rw [hn]; rfl
    clear hn
    go_enter Try.func43, Try.ntmps43
    go_wp2_with fail
    refine (letter_any s[i] _).mono ?_
    rintro e w1 ⟨rfl, rfl⟩
    rw [hL]
    go_wp2_with fail
    refine (digit_any s[i] _).mono ?_
    rintro e w1 ⟨rfl, rfl⟩
    rw [hD]
    go_wp2_with fail
    refine (number_any s i _ hs (by omega)).mono ?_
    rintro e w1 ⟨rfl, rfl⟩
    rw [HN.out]
    go_wp2_with fail
    exact bodyPost_ret (v := .tuple #[.agg #[.int .i64 1, .string ⟨#[]⟩, .int .i64 0, .int .i64 0], .int .i64 (-1)]) (by simp [results, Try.results43, go_sem]) rfl ⟨_, _, _, _, rfl, HX.out, by (repeat (first | exact Below.refl _ _ | refine Below.setCell ?_ (by simp) _ | refine Below.alloc ?_ (by simp) _ | apply Below.drew))⟩
  · have HX : Hid (TokIs s i ln 1 ⟨#[]⟩ n k) := .inl ⟨⟨1, ⟨#[]⟩, n, ln⟩, k, by simp [tokAt, hi, hL, hD, hn], rfl, rfl, rfl, rfl⟩
    have HN : Hid (numV (numAt s i) = .tuple #[.int .i64 n, .int .i64 k]) := by show _ = _; rw [hn]; rfl
    clear hn
    go_enter Try.func43, Try.ntmps43
    go_wp2_with fail
    refine (letter_any s[i] _).mono ?_
    rintro e w1 ⟨rfl, rfl⟩
    rw [hL]
    go_wp2_with fail
    refine (digit_any s[i] _).mono ?_
    rintro e w1 ⟨rfl, rfl⟩
    rw [hD]
    go_wp2_with fail
    refine (number_any s i _ hs (by omega)).mono ?_
    rintro e w1 ⟨rfl, rfl⟩
    rw [HN.out]
    go_wp2_with fail
    exact bodyPost_ret (v := .tuple #[.agg #[.int .i64 1, .string ⟨#[]⟩, .int .i64 n, .int .i64 0], .int .i64 k]) (by simp [results, Try.results43, go_sem]) rfl ⟨_, _, _, _, rfl, HX.out, by (repeat (first | exact Below.refl _ _ | refine Below.setCell ?_ (by simp) _ | refine Below.alloc ?_ (by simp) _ | apply Below.drew))⟩

end Go.Proofs.Ytlmmomffanakiaa
namespace Go.Proofs.Ytlmmomffanakiaa
open Go.RowKit

set_option maxRecDepth 100000 in
set_option maxHeartbeats 4000000 in
theorem token_string (s : ByteArray) (i ln : Nat) (w : World) (hs : s.size ≤ 1048576) (hi : i < s.size) (hL : isL s[i] = false) (hD : isD s[i] = false) (h34 : s[i].toNat = 34) :
    Calls Try.prog 43 #[.string s, .int .i64 i] w fun e w' => ∃ (kd : Int) (tx : ByteArray) (n k : Int), e = .returned (.tuple #[.agg #[.int .i64 kd, .string tx, .int .i64 n, .int .i64 0], .int .i64 k]) ∧ TokIs s i ln kd tx n k ∧ Below w.heap.size w w' := by
  rcases hn : strAll s (i + 1) [] with _ | ⟨l, k⟩
  · have HX : Hid (TokIs s i ln 2 ⟨#[]⟩ 0 (-1)) := .inr ⟨by rw [tokAt, dif_pos hi, if_neg (by rw [hL]; decide), if_neg (by rw [hD]; decide), if_pos h34, hn]; rfl, rfl⟩
    have HN : Hid (strV (strAll s (i + 1) []) = .tuple #[.string ⟨#[]⟩, .int .i64 (-1)]) := by show _ = _; rw [hn]; rfl
    have H34 : Hid (s[i].toNat = 34) := h34
    clear hn h34
    go_enter Try.func43, Try.ntmps43
    go_wp2_with fail
    refine (letter_any s[i] _).mono ?_
    rintro e w1 ⟨rfl, rfl⟩
    rw [hL]
    go_wp2_with fail
    refine (digit_any s[i] _).mono ?_
    rintro e w1 ⟨rfl, rfl⟩
    rw [hD]
    have h34 := H34.out
    go_wp2_with fail
    refine (string_any s i _ hs hi).mono ?_
    rintro e w1 ⟨rfl, hb1⟩
    rw [HN.out]
    obtain ⟨g0, hz1, hB⟩ := one_block hb1
    have g0_c0 := cell_of_row w1 w.heap.size 0 _ _ (0, 0) g0
    have g0_f0 := frozen_of_row w1 w.heap.size 0 _ _ g0
    have g0_c1 := cell_of_row w1 w.heap.size 1 _ _ (0, 0) g0
    have g0_f1 := frozen_of_row w1 w.heap.size 1 _ _ g0
    have g0_c2 := cell_of_row w1 w.heap.size 2 _ _ (0, 0) g0
    have g0_f2 := frozen_of_row w1 w.heap.size 2 _ _ g0
    have g0_c3 := cell_of_row w1 w.heap.size 3 _ _ (0, 0) g0
    have g0_f3 := frozen_of_row w1 w.heap.size 3 _ _ g0
    simp only [List.getElem?_toArray, List.getElem?_cons_zero, List.getElem?_cons_succ] at g0_c0 g0_c1 g0_c2 g0_c3
    have hz : w.heap.size < w1.heap.size := by omega
    clear hb1 g0
    go_wp2_with fail
    exact bodyPost_ret (v := .tuple #[.agg #[.int .i64 2, .string ⟨#[]⟩, .int .i64 0, .int .i64 0], .int .i64 (-1)]) (by simp [results, Try.results43, go_sem, *]) rfl ⟨_, _, _, _, rfl, HX.out, by (repeat (first | exact Below.refl _ _ | exact hB | refine Below.setCell ?_ (by simp) _ | refine Below.alloc ?_ (by simp) _ | apply Below.drew))⟩
  · have HX : Hid (TokIs s i ln 2 ⟨l.toArray⟩ 0 k) := .inl ⟨⟨2, ⟨l.toArray⟩, 0, ln⟩, k, by rw [tokAt, dif_pos hi, if_neg (by rw [hL]; decide), if_neg (by rw [hD]; decide), if_pos h34, hn]; rfl, rfl, rfl, rfl, rfl⟩
    have HN : Hid (strV (strAll s (i + 1) []) = .tuple #[.string ⟨l.toArray⟩, .int .i64 k]) := by show _ = _; rw [hn]; rfl
    have H34 : Hid (s[i].toNat = 34) := h34
    clear hn h34
    go_enter Try.func43, Try.ntmps43
    go_wp2_with fail
    refine (letter_any s[i] _).mono ?_
    rintro e w1 ⟨rfl, rfl⟩
    rw [hL]
    go_wp2_with fail
    refine (digit_any s[i] _).mono ?_
    rintro e w1 ⟨rfl, rfl⟩
    rw [hD]
    have h34 := H34.out
    go_wp2_with fail
    refine (string_any s i _ hs hi).mono ?_
    rintro e w1 ⟨rfl, hb1⟩
    rw [HN.out]
    obtain ⟨g0, hz1, hB⟩ := one_block hb1
    have g0_c0 := cell_of_row w1 w.heap.size 0 _ _ (0, 0) g0
    have g0_f0 := frozen_of_row w1 w.heap.size 0 _ _ g0
    have g0_c1 := cell_of_row w1 w.heap.size 1 _ _ (0, 0) g0
    have g0_f1 := frozen_of_row w1 w.heap.size 1 _ _ g0
    have g0_c2 := cell_of_row w1 w.heap.size 2 _ _ (0, 0) g0
    have g0_f2 := frozen_of_row w1 w.heap.size 2 _ _ g0
    have g0_c3 := cell_of_row w1 w.heap.size 3 _ _ (0, 0) g0
    have g0_f3 := frozen_of_row w1 w.heap.size 3 _ _ g0
    simp only [List.getElem?_toArray, List.getElem?_cons_zero, List.getElem?_cons_succ] at g0_c0 g0_c1 g0_c2 g0_c3
    have hz : w.heap.size < w1.heap.size := by omega
    clear hb1 g0
    go_wp2_with fail
    exact bodyPost_ret (v := .tuple #[.agg #[.int .i64 2, .string ⟨l.toArray⟩, .int .i64 0, .int .i64 0], .int .i64 k]) (by simp [results, Try.results43, go_sem, *]) rfl ⟨_, _, _, _, rfl, HX.out, by (repeat (first | exact Below.refl _ _ | exact hB | refine Below.setCell ?_ (by simp) _ | refine Below.alloc ?_ (by simp) _ | apply Below.drew))⟩

end Go.Proofs.Ytlmmomffanakiaa
namespace Go.Proofs.Ytlmmomffanakiaa
open Go.RowKit

theorem signT_size (s : ByteArray) (i : Nat) (h : signW s i ≠ 0) (hi : i < s.size) : (signT s i).size = signW s i := by
  have hw : i + signW s i ≤ s.size := by
    unfold signW
    repeat' split
    all_goals omega
  unfold signT; rw [if_neg h]; simp; try omega
theorem signT_empty (s : ByteArray) (i : Nat) (hi : i < s.size) : (signT s i).toList.isEmpty = decide (signW s i = 0) := by
  by_cases h : signW s i = 0
  · simp [signT, h]
  · have := signT_size s i h hi
    rw [ByteArray.toList_eq, decide_eq_false h]
    rw [Lib.size_eq] at this
    cases hl : (signT s i).data.toList with
    | nil => rw [hl] at this; simp at this; exact absurd this.symm h
    | cons a b => rfl

set_option maxRecDepth 100000 in
set_option maxHeartbeats 4000000 in
theorem token_sign (s : ByteArray) (i ln : Nat) (w : World) (hs : s.size ≤ 1048576) (hi : i < s.size) (hL : isL s[i] = false) (hD : isD s[i] = false) (h34 : s[i].toNat ≠ 34) :
    Calls Try.prog 43 #[.string s, .int .i64 i] w fun e w' => ∃ (kd : Int) (tx : ByteArray) (n k : Int), e = .returned (.tuple #[.agg #[.int .i64 kd, .string tx, .int .i64 n, .int .i64 0], .int .i64 k]) ∧ TokIs s i ln kd tx n k ∧ Below w.heap.size w w' := by
  have b34 : ((s[i].toNat : Int) == 34) = false := beq_no (by omega)
  have hem := signT_empty s i hi
  by_cases hw : signW s i = 0
  · have HX : Hid (TokIs s i ln 0 ⟨#[]⟩ 0 (-1)) := .inr ⟨by rw [tokAt, dif_pos hi, if_neg (by rw [hL]; decide), if_neg (by rw [hD]; decide), if_neg h34]; simp only [hw, if_true], rfl⟩
    have hem' : (signT s i).toList.isEmpty = true := by rw [hem]; simp [hw]
    clear hem hw
    go_enter Try.func43, Try.ntmps43
    go_wp2_with fail
    refine (letter_any s[i] _).mono ?_
    rintro e w1 ⟨rfl, rfl⟩
    rw [hL]
    go_wp2_with fail
    refine (digit_any s[i] _).mono ?_
    rintro e w1 ⟨rfl, rfl⟩
    rw [hD]
    go_wp2_with fail
    refine (sign_any s i _ hs hi).mono ?_
    rintro e w1 ⟨rfl, hb1⟩
    obtain ⟨g0, hz1, hB⟩ := one_block hb1
    have g0_c0 := cell_of_row w1 w.heap.size 0 _ _ (0, 0) g0
    have g0_f0 := frozen_of_row w1 w.heap.size 0 _ _ g0
    have g0_c1 := cell_of_row w1 w.heap.size 1 _ _ (0, 0) g0
    have g0_f1 := frozen_of_row w1 w.heap.size 1 _ _ g0
    have g0_c2 := cell_of_row w1 w.heap.size 2 _ _ (0, 0) g0
    have g0_f2 := frozen_of_row w1 w.heap.size 2 _ _ g0
    have g0_c3 := cell_of_row w1 w.heap.size 3 _ _ (0, 0) g0
    have g0_f3 := frozen_of_row w1 w.heap.size 3 _ _ g0
    simp only [List.getElem?_toArray, List.getElem?_cons_zero, List.getElem?_cons_succ] at g0_c0 g0_c1 g0_c2 g0_c3
    have hz : w.heap.size < w1.heap.size := by omega
    clear hb1 g0
    go_wp2_with fail
    exact bodyPost_ret (v := .tuple #[.agg #[.int .i64 0, .string ⟨#[]⟩, .int .i64 0, .int .i64 0], .int .i64 (-1)]) (by simp [results, Try.results43, go_sem, *]) rfl ⟨_, _, _, _, rfl, HX.out, by (repeat (first | exact Below.refl _ _ | exact hB | refine Below.setCell ?_ (by simp) _ | refine Below.alloc ?_ (by simp) _ | apply Below.drew))⟩
  · have HX : Hid (TokIs s i ln 3 (signT s i) 0 (i + signW s i : Nat)) := .inl ⟨⟨3, s.extract i (i + signW s i), 0, ln⟩, _, by rw [tokAt, dif_pos hi, if_neg (by rw [hL]; decide), if_neg (by rw [hD]; decide), if_neg h34]; simp only [hw, if_false], rfl, by simp [signT, hw], rfl, rfl⟩
    have hsz := signT_size s i hw hi
    have hem' : (signT s i).toList.isEmpty = false := by rw [hem]; simp [hw]
    have hw2 : signW s i ≤ 2 := by
      unfold signW
      repeat' split
      all_goals omega
    clear hem hw
    have HS : Hid ((signT s i).size = signW s i) := hsz
    clear hsz
    go_enter Try.func43, Try.ntmps43
    go_wp2_with fail
    refine (letter_any s[i] _).mono ?_
    rintro e w1 ⟨rfl, rfl⟩
    rw [hL]
    go_wp2_with fail
    refine (digit_any s[i] _).mono ?_
    rintro e w1 ⟨rfl, rfl⟩
    rw [hD]
    go_wp2_with fail
    refine (sign_any s i _ hs hi).mono ?_
    rintro e w1 ⟨rfl, hb1⟩
    obtain ⟨g0, hz1, hB⟩ := one_block hb1
    have g0_c0 := cell_of_row w1 w.heap.size 0 _ _ (0, 0) g0
    have g0_f0 := frozen_of_row w1 w.heap.size 0 _ _ g0
    have g0_c1 := cell_of_row w1 w.heap.size 1 _ _ (0, 0) g0
    have g0_f1 := frozen_of_row w1 w.heap.size 1 _ _ g0
    have g0_c2 := cell_of_row w1 w.heap.size 2 _ _ (0, 0) g0
    have g0_f2 := frozen_of_row w1 w.heap.size 2 _ _ g0
    have g0_c3 := cell_of_row w1 w.heap.size 3 _ _ (0, 0) g0
    have g0_f3 := frozen_of_row w1 w.heap.size 3 _ _ g0
    simp only [List.getElem?_toArray, List.getElem?_cons_zero, List.getElem?_cons_succ] at g0_c0 g0_c1 g0_c2 g0_c3
    have hz : w.heap.size < w1.heap.size := by omega
    clear hb1 g0
    generalize signT s i = tx at *
    have hsz := HS.out
    go_wp2_with fail
    exact bodyPost_ret (v := .tuple #[.agg #[.int .i64 3, .string tx, .int .i64 0, .int .i64 0], .int .i64 (i + signW s i : Nat)]) (by simp [results, Try.results43, go_sem, *]) rfl ⟨_, _, _, _, rfl, HX.out, by (repeat (first | exact Below.refl _ _ | exact hB | refine Below.setCell ?_ (by simp) _ | refine Below.alloc ?_ (by simp) _ | apply Below.drew))⟩
end Go.Proofs.Ytlmmomffanakiaa
namespace Go.Proofs.Ytlmmomffanakiaa
open Go.RowKit

theorem token_any (s : ByteArray) (i ln : Nat) (w : World) (hs : s.size ≤ 1048576) (hi : i < s.size) :
    Calls Try.prog 43 #[.string s, .int .i64 i] w fun e w' => ∃ (kd : Int) (tx : ByteArray) (n k : Int), e = .returned (.tuple #[.agg #[.int .i64 kd, .string tx, .int .i64 n, .int .i64 0], .int .i64 k]) ∧ TokIs s i ln kd tx n k ∧ Below w.heap.size w w' := by
  cases hL : isL s[i]
  · cases hD : isD s[i]
    · by_cases h34 : s[i].toNat = 34
      · exact token_string s i ln w hs hi hL hD h34
      · exact token_sign s i ln w hs hi hL hD h34
    · exact token_number s i ln w hs hi hL hD
  · exact token_name s i ln w hs hi hL

theorem Try.infoTok : (Try.prog.info? 70).map (fun i => (i.zero, i.size, i.bytes)) = some (some (.agg #[.int .i64 0, .string ⟨#[]⟩, .int .i64 0, .int .i64 0]), 4, 40) := by kernel_rfl
theorem own_later {w w1 : World} {B : Nat} {e : TypeId} {sz n : Nat} {v : Value} {xs : List Value} (h : w.ownsRow B e sz v n xs) (hb : Below w.heap.size w w1) : w1.ownsRow B e sz v n xs :=
  ⟨h.1, h.2.imp id fun ⟨g, cap, cur, e1, e2, e3, e4⟩ => ⟨g, cap, cur, e1, e2, by rw [hb.block g (Array.getElem?_eq_some_iff.1 e3).1]; exact e3, e4⟩⟩
theorem owns_none (w : World) (e : TypeId) (sz : Nat) : (w.alloc (.cells #[] e)).ownsRow w.heap.size e sz (.slice (some ⟨w.heap.size, 0, none⟩) 0 0) 0 [] :=
  ⟨by simp, .inr ⟨w.heap.size, 0, _, rfl, Nat.le_refl _, heap_alloc_new w _, Nat.le_refl _, by unfold maxLen; omega, by simp, by simp⟩⟩
theorem owns_none_at (w : World) (e : TypeId) (sz B nb : Nat) (hn : nb = w.heap.size) (hB : B ≤ w.heap.size) : (w.alloc (.cells #[] e)).ownsRow B e sz (.slice (some ⟨nb, 0, none⟩) 0 0) 0 [] := by
  subst hn
  exact ⟨by simp, .inr ⟨w.heap.size, 0, _, rfl, hB, heap_alloc_new w _, Nat.le_refl _, by unfold maxLen; omega, by simp, by simp⟩⟩
theorem tok_step {w1 : World} {B : Nat} {e : TypeId} {v' : Value} {acc : List Tk} {t : Tk} {ln : Nat} (h : w1.ownsRow B e 4 v' (acc.length + 1) (tkCells acc ++ [.int .i64 t.kind, .string t.text, .int .i64 t.n, .int .i64 ln])) (hl : t.line = ln) :
    w1.ownsRow B e 4 v' (acc ++ [t]).length (tkCells (acc ++ [t])) := by
  subst hl; rw [tkCells_snoc, List.length_append]; exact h
theorem tok_cells (wx : World) (e : TypeId) (a b c d : Value) (nb : Nat) (hn : nb = wx.heap.size) : ∀ j u, [a, b, c, d][j]? = some u → (wx.alloc (.cells #[a, b, c, d] e)).cell? ((⟨nb, 0, none⟩ : Addr).add j) = some u := by
  intro j u hu
  subst hn
  have hadd : (⟨wx.heap.size, 0, none⟩ : Addr).add j = ⟨wx.heap.size, j, none⟩ := by unfold Addr.add; split <;> simp_all
  rw [hadd, cell_of_row _ wx.heap.size j _ e (0, 0) (heap_alloc_new wx _)]
  simpa using hu

set_option maxRecDepth 100000 in
set_option maxHeartbeats 4000000 in
theorem lex_spec (s : ByteArray) (w : World) (hs : s.size ≤ 1048576) :
    Calls Try.prog 33 #[.string s] w fun e w' => ∃ v, e = .returned (.tuple #[v, .int .i64 ((lexAll s).2 : Nat)]) ∧ w'.ownsRow w.heap.size 70 4 v (lexAll s).1.length (tkCells (lexAll s).1) ∧ Below w.heap.size w w' := by
  obtain ⟨i0, hi0, hz0, hz1, hz2⟩ := info_parts Try.infoTok
  by_cases hbig : 4000 < s.size
  · have HE : Hid (lexAll s = ([], 1)) := by show _ = _; simp [lexAll, hbig]
    go_enter Try.func33, Try.ntmps33
    go_wp2_with fail
    go_ret2
    rw [HE.out]
    exact ⟨_, rfl, owns_none w _ 4, below_one w _⟩
  · have HE : Hid (lexAll s = lexG s (skipAll s 0 1).1 (skipAll s 0 1).2 []) := lexAll_eq s hbig
    have hb0 := skipAll_bounds s 0 1 (Nat.zero_le _)
    have hsm : s.size ≤ 4000 := by omega
    go_enter Try.func33, Try.ntmps33
    go_wp2_with fail
    refine (skip_spec s 0 1 _ hs (Nat.zero_le _) (by omega)).mono ?_
    rintro e w1 ⟨rfl, rfl⟩
    go_wp2_with fail
    go_loopw [4, 5, 6] (fun v a b wr => ∃ (i ln : Nat) (acc : List Tk), a = .int .i64 i ∧ b = .int .i64 ln ∧ i ≤ s.size ∧ ln ≤ 1 + i ∧ acc.length ≤ i ∧ wr.ownsRow w.heap.size 70 4 v acc.length (tkCells acc) ∧ Below w.heap.size w wr ∧ lexG s i ln acc = lexAll s) (fun _ a _ _ => s.size - (intOf a).toNat)
    case atStart => exact ⟨_, _, [], rfl, rfl, by omega, by omega, Nat.zero_le _, owns_none w _ 4, below_one w _, HE.out.symm⟩
    case round =>
      obtain ⟨i, ln, acc, rfl, rfl, hi, hln, hal, hown, hb, he⟩ := hrel
      have HR : Hid (lexG s i ln acc = lexAll s) := he
      clear he
      have hsz := hb.size
      by_cases hlt : i < s.size
      · go_wp2_with fail
        refine (token_any s i ln _ hs hlt).mono ?_
        rintro e w1 ⟨kd, tx, n, k, rfl, htok, hb1⟩
        have hown1 := own_later hown hb1
        have hB1 : Below w.heap.size w w1 := hb.trans (hb1.mono hsz)
        have hsz1 := hB1.size
        rcases htok with ⟨t, k', ht, rfl, rfl, rfl, rfl⟩ | ⟨ht, rfl⟩
        · have htb := tok_bounds ht
          have hsb := skipAll_bounds s k' ln htb.2.1
          have HS : Hid (lexG s (skipAll s k' ln).1 (skipAll s k' ln).2 (acc ++ [t]) = lexAll s) := (lex_step ht).trans HR.out
          have HL : Hid (t.line = ln) := htb.2.2.1
          obtain ⟨q1, q2, _, q4, q5⟩ := htb
          clear ht hown hb1 HR
          go_wp2_with (at_builtin; go_must (refine wpList_append_own _ rfl _ _ 59 rfl w.heap.size 70 i0 (.agg #[.int .i64 0, .string ⟨#[]⟩, .int .i64 0, .int .i64 0]) 4 40 Try.underlying59 hi0 hz0 hz1 hz2 rfl (by decide) _ _ _ rfl ((hown1.alloc _).alloc _) ⟨w1.heap.size + 1, 0, none⟩ 1 1 [.int .i64 t.kind, .string t.text, .int .i64 t.n, .int .i64 ln] rfl rfl ?c1 ?c2 ?c3 ?c4 ?c5 ?_))
          case c1 => exact tok_cells _ _ _ _ _ _ _ (by simp)
          case c2 => intro u hu; simp at hu; rcases hu with rfl | rfl | rfl | rfl <;> rfl
          case c3 => unfold maxLen; omega
          case c4 => omega
          case c5 => simp; omega
          intro v' w2 hown2 hgrow _
          have hB2 : Below w.heap.size w w2 := below_app (hB1.alloc hsz1 _) (by simp; omega) (hown1.alloc _) hgrow
          have hown3 := tok_step hown2 HL.out
          have hsz2 := hB2.size
          clear hown2 hgrow hown1
          go_wp2_with fail
          refine (skip_spec s k' ln _ hs (by omega) (by omega)).mono ?_
          rintro e w3 ⟨rfl, rfl⟩
          go_wp2_with fail
          go_roundw
          case rel => exact ⟨_, _, acc ++ [t], rfl, rfl, by omega, by omega, by simp; omega, hown3, hB2, HS.out⟩
          case measure => simp [intOf]; omega
        · have HS : Hid (lexAll s = ([], ln)) := HR.out.symm.trans (lex_bad hlt ht)
          clear ht hown hb1 HR
          go_wp2_with fail
          go_ret2
          rw [HS.out]
          exact ⟨_, rfl, owns_none_at _ _ 4 _ _ (by simp) (by simp; omega), (hB1.alloc hsz1 _).alloc (by simp; omega) _⟩
      · have HS : Hid (lexAll s = (acc, 0)) := HR.out.symm.trans (lex_end hlt)
        clear HR
        go_wp2_with fail
        go_ret2
        rw [HS.out]
        exact ⟨_, rfl, hown, hb⟩
end Go.Proofs.Ytlmmomffanakiaa
