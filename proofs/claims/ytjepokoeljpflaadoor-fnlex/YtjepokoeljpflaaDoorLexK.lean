/- The model's own reading of the word at a place. -/
import Derived.Test.YtjepokoeljpflaaDoorLexG
namespace Go.Proofs.YtjepokoeljpflaaDoor
open Go.RowKit

theorem two_blocks {w w1 : World} {x y : Array Value} {T : TypeId} (hb : Below ((w.alloc (.cells x T)).alloc (.cells y T)).heap.size ((w.alloc (.cells x T)).alloc (.cells y T)) w1) :
    w1.heap[w.heap.size]? = some (.cells x T (0, 0)) ∧ w1.heap[w.heap.size + 1]? = some (.cells y T (0, 0)) ∧ w.heap.size + 2 ≤ w1.heap.size ∧ Below w.heap.size w w1 := by
  have h1 : (w.alloc (.cells x T)).heap.size = w.heap.size + 1 := by simp
  have h2 : ((w.alloc (.cells x T)).alloc (.cells y T)).heap.size = w.heap.size + 2 := by simp
  refine ⟨?_, ?_, by have := hb.size; omega, (below_two w _ _).trans (hb.mono (by omega))⟩
  · rw [hb.block _ (by omega), Below.heap_alloc _ _ _ (by omega)]; exact heap_alloc_new w _
  · rw [hb.block _ (by omega)]
    have := heap_alloc_new (w.alloc (.cells x T)) (.cells y T)
    rw [h1] at this
    exact this

theorem bcell {W w1 : World} (hb : Below W.heap.size W w1) : (∀ b o, b < W.heap.size → w1.cell? ⟨b, o, none⟩ = W.cell? ⟨b, o, none⟩) ∧ (∀ b o, b < W.heap.size → w1.frozen? ⟨b, o, none⟩ = W.frozen? ⟨b, o, none⟩) :=
  ⟨fun b o h => hb.cell (p := ⟨b, o, none⟩) h, fun b o h => hb.frozen (p := ⟨b, o, none⟩) h⟩

/-- What the reading of a word answers, held against the plain one. -/
def TokIs (s : ByteArray) (i ln : Nat) (kd : Int) (tx : ByteArray) (n k : Int) : Prop :=
  (∃ (t : Tk) (k' : Nat), tokAt s i ln = some (t, k') ∧ kd = t.kind ∧ tx = t.text ∧ n = t.n ∧ k = k') ∨ (tokAt s i ln = none ∧ k = -1)

set_option maxRecDepth 100000 in
set_option maxHeartbeats 4000000 in
theorem token_name (s : ByteArray) (i ln : Nat) (w : World) (hs : s.size ≤ 1048576) (hi : i < s.size) (hL : isL s[i] = true) :
    Calls Tryd.prog 28 #[.string s, .int .i64 i] w fun e w' => ∃ (kd : Int) (tx : ByteArray) (n k : Int), e = .returned (.tuple #[.agg #[.int .i64 kd, .string tx, .int .i64 n, .int .i64 0], .int .i64 k]) ∧ TokIs s i ln kd tx n k ∧ Below w.heap.size w w' := by
  have HT : Hid (tokAt s i ln = some (⟨if kwB (s.extract i (endp isLD s i)) = true then 4 else 0, s.extract i (endp isLD s i), 0, ln⟩, endp isLD s i)) := by
    show tokAt s i ln = _
    simp only [tokAt, dif_pos hi, if_pos hL]
  go_enter Tryd.func28, Tryd.ntmps28
  go_wp2_with fail
  refine (letter_any s[i] _).mono ?_
  rintro e w1 ⟨rfl, rfl⟩
  rw [hL]
  go_wp2_with fail
  go_loop [6] (fun a => ∃ k : Nat, a = .int .i64 k ∧ i ≤ k ∧ k ≤ s.size ∧ endp isLD s k = endp isLD s i) (fun a => s.size - (intOf a).toNat)
  case atStart => exact ⟨i, rfl, Nat.le_refl _, by omega, rfl⟩
  case round =>
    obtain ⟨k, rfl, hik, hk, he⟩ := hrel
    by_cases hlt : k < s.size
    · cases hl : isL s[k]
      · cases hd : isD s[k]
        · have e1 : endp isLD s k = k := endp_no hlt (by simp [isLD, hl, hd])
          have HK : Hid (endp isLD s i = k) := he.symm.trans e1
          clear he e1
          go_wp2_with fail
          refine (letter_any s[k] _).mono ?_
          rintro e w1 ⟨rfl, rfl⟩
          rw [hl]
          go_wp2_with fail
          refine (digit_any s[k] _).mono ?_
          rintro e w1 ⟨rfl, rfl⟩
          rw [hd]
          go_wp2_with fail
          refine (kw_spec (s.extract i k) _).mono ?_
          rintro e w1 ⟨rfl, hb1⟩
          obtain ⟨g0, g1, hz1, hB⟩ := two_blocks hb1
          have g0_c0 := cell_of_row w1 (w.heap.size) 0 _ _ (0, 0) g0
          have g0_f0 := frozen_of_row w1 (w.heap.size) 0 _ _ g0
          have g0_c1 := cell_of_row w1 (w.heap.size) 1 _ _ (0, 0) g0
          have g0_f1 := frozen_of_row w1 (w.heap.size) 1 _ _ g0
          have g0_c2 := cell_of_row w1 (w.heap.size) 2 _ _ (0, 0) g0
          have g0_f2 := frozen_of_row w1 (w.heap.size) 2 _ _ g0
          have g0_c3 := cell_of_row w1 (w.heap.size) 3 _ _ (0, 0) g0
          have g0_f3 := frozen_of_row w1 (w.heap.size) 3 _ _ g0
          have g1_c0 := cell_of_row w1 (w.heap.size + 1) 0 _ _ (0, 0) g1
          have g1_f0 := frozen_of_row w1 (w.heap.size + 1) 0 _ _ g1
          have g1_c1 := cell_of_row w1 (w.heap.size + 1) 1 _ _ (0, 0) g1
          have g1_f1 := frozen_of_row w1 (w.heap.size + 1) 1 _ _ g1
          have g1_c2 := cell_of_row w1 (w.heap.size + 1) 2 _ _ (0, 0) g1
          have g1_f2 := frozen_of_row w1 (w.heap.size + 1) 2 _ _ g1
          have g1_c3 := cell_of_row w1 (w.heap.size + 1) 3 _ _ (0, 0) g1
          have g1_f3 := frozen_of_row w1 (w.heap.size + 1) 3 _ _ g1
          simp only [List.getElem?_toArray, List.getElem?_cons_zero, List.getElem?_cons_succ] at g0_c0 g0_c1 g0_c2 g0_c3 g1_c0 g1_c1 g1_c2 g1_c3
          have hz : w.heap.size < w1.heap.size := by omega
          have hz' : w.heap.size + 1 < w1.heap.size := by omega
          clear hb1 g0 g1
          cases hkw : kwB (s.extract i k)
          · have HX : Hid (TokIs s i ln 0 (s.extract i k) 0 k) := .inl ⟨_, _, HT.out, by rw [HK.out, hkw]; rfl, by rw [HK.out], rfl, by rw [HK.out]⟩
            go_wp2_with fail
            exact bodyPost_ret (v := .tuple #[.agg #[.int .i64 0, .string (s.extract i k), .int .i64 0, .int .i64 0], .int .i64 k]) (by simp [results, Tryd.results28, go_sem, *]) rfl ⟨_, _, _, _, rfl, HX.out, by (repeat (first | exact hB | refine Below.setCell ?_ (by simp; try omega) _ | refine Below.alloc ?_ (by simp; try omega) _ | apply Below.drew))⟩
          · have HX : Hid (TokIs s i ln 4 (s.extract i k) 0 k) := .inl ⟨_, _, HT.out, by rw [HK.out, hkw]; rfl, by rw [HK.out], rfl, by rw [HK.out]⟩
            go_wp2_with fail
            exact bodyPost_ret (v := .tuple #[.agg #[.int .i64 4, .string (s.extract i k), .int .i64 0, .int .i64 0], .int .i64 k]) (by simp [results, Tryd.results28, go_sem, *]) rfl ⟨_, _, _, _, rfl, HX.out, by (repeat (first | exact hB | refine Below.setCell ?_ (by simp; try omega) _ | refine Below.alloc ?_ (by simp; try omega) _ | apply Below.drew))⟩
        · have HK : Hid (endp isLD s (k + 1) = endp isLD s i) := (endp_lt hlt (by simp [isLD, hd])).trans he
          clear he
          go_wp2_with fail
          refine (letter_any s[k] _).mono ?_
          rintro e w1 ⟨rfl, rfl⟩
          rw [hl]
          go_wp2_with fail
          refine (digit_any s[k] _).mono ?_
          rintro e w1 ⟨rfl, rfl⟩
          rw [hd]
          go_wp2_with fail
          go_round
          case rel => exact ⟨k + 1, by go_num, by omega, by omega, HK.out⟩
          case measure => simp [intOf]; omega
      · have HK : Hid (endp isLD s (k + 1) = endp isLD s i) := (endp_lt hlt (by simp [isLD, hl])).trans he
        clear he
        go_wp2_with fail
        refine (letter_any s[k] _).mono ?_
        rintro e w1 ⟨rfl, rfl⟩
        rw [hl]
        go_wp2_with fail
        go_round
        case rel => exact ⟨k + 1, by go_num, by omega, by omega, HK.out⟩
        case measure => simp [intOf]; omega
    · have HK : Hid (endp isLD s i = k) := he.symm.trans (endp_out hlt)
      clear he
      go_wp2_with fail
      refine (kw_spec (s.extract i k) _).mono ?_
      rintro e w1 ⟨rfl, hb1⟩
      obtain ⟨g0, g1, hz1, hB⟩ := two_blocks hb1
      have g0_c0 := cell_of_row w1 (w.heap.size) 0 _ _ (0, 0) g0
      have g0_f0 := frozen_of_row w1 (w.heap.size) 0 _ _ g0
      have g0_c1 := cell_of_row w1 (w.heap.size) 1 _ _ (0, 0) g0
      have g0_f1 := frozen_of_row w1 (w.heap.size) 1 _ _ g0
      have g0_c2 := cell_of_row w1 (w.heap.size) 2 _ _ (0, 0) g0
      have g0_f2 := frozen_of_row w1 (w.heap.size) 2 _ _ g0
      have g0_c3 := cell_of_row w1 (w.heap.size) 3 _ _ (0, 0) g0
      have g0_f3 := frozen_of_row w1 (w.heap.size) 3 _ _ g0
      have g1_c0 := cell_of_row w1 (w.heap.size + 1) 0 _ _ (0, 0) g1
      have g1_f0 := frozen_of_row w1 (w.heap.size + 1) 0 _ _ g1
      have g1_c1 := cell_of_row w1 (w.heap.size + 1) 1 _ _ (0, 0) g1
      have g1_f1 := frozen_of_row w1 (w.heap.size + 1) 1 _ _ g1
      have g1_c2 := cell_of_row w1 (w.heap.size + 1) 2 _ _ (0, 0) g1
      have g1_f2 := frozen_of_row w1 (w.heap.size + 1) 2 _ _ g1
      have g1_c3 := cell_of_row w1 (w.heap.size + 1) 3 _ _ (0, 0) g1
      have g1_f3 := frozen_of_row w1 (w.heap.size + 1) 3 _ _ g1
      simp only [List.getElem?_toArray, List.getElem?_cons_zero, List.getElem?_cons_succ] at g0_c0 g0_c1 g0_c2 g0_c3 g1_c0 g1_c1 g1_c2 g1_c3
      have hz : w.heap.size < w1.heap.size := by omega
      have hz' : w.heap.size + 1 < w1.heap.size := by omega
      clear hb1 g0 g1
      cases hkw : kwB (s.extract i k)
      · have HX : Hid (TokIs s i ln 0 (s.extract i k) 0 k) := .inl ⟨_, _, HT.out, by rw [HK.out, hkw]; rfl, by rw [HK.out], rfl, by rw [HK.out]⟩
        go_wp2_with fail
        exact bodyPost_ret (v := .tuple #[.agg #[.int .i64 0, .string (s.extract i k), .int .i64 0, .int .i64 0], .int .i64 k]) (by simp [results, Tryd.results28, go_sem, *]) rfl ⟨_, _, _, _, rfl, HX.out, by (repeat (first | exact hB | refine Below.setCell ?_ (by simp; try omega) _ | refine Below.alloc ?_ (by simp; try omega) _ | apply Below.drew))⟩
      · have HX : Hid (TokIs s i ln 4 (s.extract i k) 0 k) := .inl ⟨_, _, HT.out, by rw [HK.out, hkw]; rfl, by rw [HK.out], rfl, by rw [HK.out]⟩
        go_wp2_with fail
        exact bodyPost_ret (v := .tuple #[.agg #[.int .i64 4, .string (s.extract i k), .int .i64 0, .int .i64 0], .int .i64 k]) (by simp [results, Tryd.results28, go_sem, *]) rfl ⟨_, _, _, _, rfl, HX.out, by (repeat (first | exact hB | refine Below.setCell ?_ (by simp; try omega) _ | refine Below.alloc ?_ (by simp; try omega) _ | apply Below.drew))⟩
end Go.Proofs.YtjepokoeljpflaaDoor
