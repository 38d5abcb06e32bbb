/- The model's own reading of the word at a place: numbers, texts, signs, none. -/
import Derived.Test.YtjepokoeljpflaaDoorLexK
namespace Go.Proofs.YtjepokoeljpflaaDoor
open Go.RowKit

theorem one_block {w w1 : World} {x : Array Value} {T : TypeId} (hb : Below (w.alloc (.cells x T)).heap.size (w.alloc (.cells x T)) w1) :
    w1.heap[w.heap.size]? = some (.cells x T (0, 0)) ∧ w.heap.size + 1 ≤ w1.heap.size ∧ Below w.heap.size w w1 := by
  have h1 : (w.alloc (.cells x T)).heap.size = w.heap.size + 1 := by simp
  refine ⟨?_, by have := hb.size; omega, (below_one w _).trans (hb.mono (by omega))⟩
  rw [hb.block _ (by omega)]; exact heap_alloc_new w _

set_option maxRecDepth 100000 in
set_option maxHeartbeats 4000000 in
theorem token_number (s : ByteArray) (i ln : Nat) (w : World) (hs : s.size ≤ 1048576) (hi : i < s.size) (hL : isL s[i] = false) (hD : isD s[i] = true) :
    Calls Tryd.prog 28 #[.string s, .int .i64 i] w fun e w' => ∃ (kd : Int) (tx : ByteArray) (n k : Int), e = .returned (.tuple #[.agg #[.int .i64 kd, .string tx, .int .i64 n, .int .i64 0], .int .i64 k]) ∧ TokIs s i ln kd tx n k ∧ Below w.heap.size w w' := by
  rcases hn : numAt s i with _ | ⟨n, k⟩
  · have HX : Hid (TokIs s i ln 1 ⟨#[]⟩ 0 (-1)) := .inr ⟨by simp [tokAt, hi, hL, hD, hn], rfl⟩
    have HN : Hid (numV (numAt s i) = .tuple #[.int .i64 0, .int .i64 (-1)]) := by show _ = _; rw [hn]; rfl
    clear hn
    go_enter Tryd.func28, Tryd.ntmps28
    go_wp2_with fail
    refine (letter_any s[i] _).mono ?_
    rintro e w1 ⟨rfl, rfl⟩
    rw [hL]
    go_wp2_with fail
    refine (digit_any s[i] _).mono ?_
    rintro e w1 ⟨rfl, rfl⟩
    rw [hD]
    go_wp2_with fail
    refine (number_any s i _ hs (by omega)).mono ?_
    rintro e w1 ⟨rfl, rfl⟩
    rw [HN.out]
    go_wp2_with fail
    exact bodyPost_ret (v := .tuple #[.agg #[.int .i64 1, .string ⟨#[]⟩, .int .i64 0, .int .i64 0], .int .i64 (-1)]) (by simp [results, Tryd.results28, go_sem]) rfl ⟨_, _, _, _, rfl, HX.out, by (repeat (first | exact Below.refl _ _ | refine Below.setCell ?_ (by simp) _ | refine Below.alloc ?_ (by simp) _ | apply Below.drew))⟩
  · have HX : Hid (TokIs s i ln 1 ⟨#[]⟩ n k) := .inl ⟨⟨1, ⟨#[]⟩, n, ln⟩, k, by simp [tokAt, hi, hL, hD, hn], rfl, rfl, rfl, rfl⟩
    have HN : Hid (numV (numAt s i) = .tuple #[.int .i64 n, .int .i64 k]) := by show _ = _; rw [hn]; rfl
    clear hn
    go_enter Tryd.func28, Tryd.ntmps28
    go_wp2_with fail
    refine (letter_any s[i] _).mono ?_
    rintro e w1 ⟨rfl, rfl⟩
    rw [hL]
    go_wp2_with fail
    refine (digit_any s[i] _).mono ?_
    rintro e w1 ⟨rfl, rfl⟩
    rw [hD]
    go_wp2_with fail
    refine (number_any s i _ hs (by omega)).mono ?_
    rintro e w1 ⟨rfl, rfl⟩
    rw [HN.out]
    go_wp2_with fail
    exact bodyPost_ret (v := .tuple #[.agg #[.int .i64 1, .string ⟨#[]⟩, .int .i64 n, .int .i64 0], .int .i64 k]) (by simp [results, Tryd.results28, go_sem]) rfl ⟨_, _, _, _, rfl, HX.out, by (repeat (first | exact Below.refl _ _ | refine Below.setCell ?_ (by simp) _ | refine Below.alloc ?_ (by simp) _ | apply Below.drew))⟩

end Go.Proofs.YtjepokoeljpflaaDoor
