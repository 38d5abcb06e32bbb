/- The width of the code point at a place: the model's own decoding. -/
import Derived.Test.YtdaemdomlmpfmaaDoorKit
import Derived.Lib.DecodeN
import Derived.BigQuiet
import Derived.Deep.QuietTactic
namespace Go.Proofs.YtdaemdomlmpfmaaDoor
open Go.RowKit


set_option maxRecDepth 100000 in
theorem in_yes (x a b : Int) (w : World) (h : a ≤ x ∧ x ≤ b) : Calls Tryd.prog 56 #[.int .i64 x, .int .i64 a, .int .i64 b] w fun e w' => e = .returned (.bool true) ∧ w = w' := by
  obtain ⟨h1, h2⟩ := h
  go_enter Tryd.func56, Tryd.ntmps56
  go_wp2
  go_ret
  exact ⟨rfl, rfl⟩
set_option maxRecDepth 100000 in
theorem in_no (x a b : Int) (w : World) (h : x < a ∨ b < x) : Calls Tryd.prog 56 #[.int .i64 x, .int .i64 a, .int .i64 b] w fun e w' => e = .returned (.bool false) ∧ w = w' := by
  by_cases h1 : x < a
  · clear h
    go_enter Tryd.func56, Tryd.ntmps56
    go_wp2
    go_ret
    exact ⟨rfl, rfl⟩
  · have h2 : b < x := by omega
    have h1' : a ≤ x := by omega
    clear h h1
    go_enter Tryd.func56, Tryd.ntmps56
    go_wp2
    go_ret
    exact ⟨ret_bool (decide_eq_false (by omega)), rfl⟩

set_option maxRecDepth 100000 in
set_option maxHeartbeats 800000 in
set_option linter.unusedVariables false in
theorem glyph_one (s : ByteArray) (i : Nat) (hi : i < s.size) (w : World) (hs : s.size ≤ 1048576) (hb : (s[i].toNat : Int) < 192 ∨ 248 ≤ (s[i].toNat : Int)) :
    Calls Tryd.prog 40 #[.string s, .int .i64 i] w fun e w' => e = .returned (.int .i64 1) ∧ Below w.heap.size w w' := by
  have hlt : (s[i].toNat : Int) < 256 := by have := s[i].toNat_lt; omega
  rcases hb with hb | hb
  all_goals
    go_enter Tryd.func40, Tryd.ntmps40
    go_wp2
    go_region
    go_wp2_with (first | (go_at_call 56; refine (in_yes _ _ _ _ (by omega)).mono ?_; rintro e w' ⟨rfl, rfl⟩) | (go_at_call 56; refine (in_no _ _ _ _ (by omega)).mono ?_; rintro e w' ⟨rfl, rfl⟩))
    refine wp_loop_rounds 1 ?_
    rw [rounds_succ]
    go_wp2_with (first | (go_at_call 56; refine (in_yes _ _ _ _ (by omega)).mono ?_; rintro e w' ⟨rfl, rfl⟩) | (go_at_call 56; refine (in_no _ _ _ _ (by omega)).mono ?_; rintro e w' ⟨rfl, rfl⟩))
    go_ret
    exact ⟨rfl, by repeat (first | exact Below.refl _ _ | apply Below.drew)⟩

set_option maxRecDepth 100000 in
set_option maxHeartbeats 1600000 in
set_option linter.unusedVariables false in
theorem glyph_two_short (s : ByteArray) (i : Nat) (hi : i < s.size) (w : World) (hs : s.size ≤ 1048576) (hb : 192 ≤ (s[i].toNat : Int)) (hb' : (s[i].toNat : Int) < 224) (h : s.size ≤ i + 1) :
    Calls Tryd.prog 40 #[.string s, .int .i64 i] w fun e w' => e = .returned (.int .i64 1) ∧ Below w.heap.size w w' := by
  go_enter Tryd.func40, Tryd.ntmps40
  go_wp2
  go_region
  go_wp2_with (first | (go_at_call 56; refine (in_yes _ _ _ _ (by omega)).mono ?_; rintro e w' ⟨rfl, rfl⟩) | (go_at_call 56; refine (in_no _ _ _ _ (by omega)).mono ?_; rintro e w' ⟨rfl, rfl⟩))
  go_ret
  exact ⟨rfl, by repeat (first | exact Below.refl _ _ | apply Below.drew)⟩

set_option maxRecDepth 100000 in
set_option maxHeartbeats 1600000 in
set_option linter.unusedVariables false in
theorem glyph_two_bad1a (s : ByteArray) (i : Nat) (hi : i < s.size) (w : World) (hs : s.size ≤ 1048576) (hb : 192 ≤ (s[i].toNat : Int)) (hb' : (s[i].toNat : Int) < 224) (hl : i + 1 < s.size) (hb1 : (s[i + 1].toNat : Int) < 128) :
    Calls Tryd.prog 40 #[.string s, .int .i64 i] w fun e w' => e = .returned (.int .i64 1) ∧ Below w.heap.size w w' := by
  have l1 : (s[i + 1].toNat : Int) < 256 := by have := s[i + 1].toNat_lt; omega
  go_enter Tryd.func40, Tryd.ntmps40
  go_wp2
  go_region
  go_wp2_with (first | (go_at_call 56; refine (in_yes _ _ _ _ (by omega)).mono ?_; rintro e w' ⟨rfl, rfl⟩) | (go_at_call 56; refine (in_no _ _ _ _ (by omega)).mono ?_; rintro e w' ⟨rfl, rfl⟩))
  refine wp_loop_rounds 1 ?_
  rw [rounds_succ]
  go_wp2_with (first | (go_at_call 56; refine (in_yes _ _ _ _ (by omega)).mono ?_; rintro e w' ⟨rfl, rfl⟩) | (go_at_call 56; refine (in_no _ _ _ _ (by omega)).mono ?_; rintro e w' ⟨rfl, rfl⟩))
  go_ret
  exact ⟨rfl, by repeat (first | exact Below.refl _ _ | apply Below.drew)⟩

set_option maxRecDepth 100000 in
set_option maxHeartbeats 1600000 in
set_option linter.unusedVariables false in
theorem glyph_two_bad1b (s : ByteArray) (i : Nat) (hi : i < s.size) (w : World) (hs : s.size ≤ 1048576) (hb : 192 ≤ (s[i].toNat : Int)) (hb' : (s[i].toNat : Int) < 224) (hl : i + 1 < s.size) (hb1 : 191 < (s[i + 1].toNat : Int)) :
    Calls Tryd.prog 40 #[.string s, .int .i64 i] w fun e w' => e = .returned (.int .i64 1) ∧ Below w.heap.size w w' := by
  have l1 : (s[i + 1].toNat : Int) < 256 := by have := s[i + 1].toNat_lt; omega
  go_enter Tryd.func40, Tryd.ntmps40
  go_wp2
  go_region
  go_wp2_with (first | (go_at_call 56; refine (in_yes _ _ _ _ (by omega)).mono ?_; rintro e w' ⟨rfl, rfl⟩) | (go_at_call 56; refine (in_no _ _ _ _ (by omega)).mono ?_; rintro e w' ⟨rfl, rfl⟩))
  refine wp_loop_rounds 1 ?_
  rw [rounds_succ]
  go_wp2_with (first | (go_at_call 56; refine (in_yes _ _ _ _ (by omega)).mono ?_; rintro e w' ⟨rfl, rfl⟩) | (go_at_call 56; refine (in_no _ _ _ _ (by omega)).mono ?_; rintro e w' ⟨rfl, rfl⟩))
  go_ret
  exact ⟨rfl, by repeat (first | exact Below.refl _ _ | apply Below.drew)⟩

set_option maxRecDepth 100000 in
set_option maxHeartbeats 1600000 in
set_option linter.unusedVariables false in
theorem glyph_two_small (s : ByteArray) (i : Nat) (hi : i < s.size) (w : World) (hs : s.size ≤ 1048576) (hb : 192 ≤ (s[i].toNat : Int)) (hb' : (s[i].toNat : Int) < 224) (hl : i + 1 < s.size) (h1 : 128 ≤ (s[i + 1].toNat : Int)) (g1 : (s[i + 1].toNat : Int) ≤ 191) (hv : (64 * ((s[i].toNat : Int) - 192) + (s[i + 1].toNat : Int) - 128) < 128) :
    Calls Tryd.prog 40 #[.string s, .int .i64 i] w fun e w' => e = .returned (.int .i64 1) ∧ Below w.heap.size w w' := by
  have l1 : (s[i + 1].toNat : Int) < 256 := by have := s[i + 1].toNat_lt; omega
  go_enter Tryd.func40, Tryd.ntmps40
  go_wp2
  go_region
  go_wp2_with (first | (go_at_call 56; refine (in_yes _ _ _ _ (by omega)).mono ?_; rintro e w' ⟨rfl, rfl⟩) | (go_at_call 56; refine (in_no _ _ _ _ (by omega)).mono ?_; rintro e w' ⟨rfl, rfl⟩))
  refine wp_loop_rounds 2 ?_
  rw [rounds_succ]
  go_wp2_with (first | (go_at_call 56; refine (in_yes _ _ _ _ (by omega)).mono ?_; rintro e w' ⟨rfl, rfl⟩) | (go_at_call 56; refine (in_no _ _ _ _ (by omega)).mono ?_; rintro e w' ⟨rfl, rfl⟩))
  rw [rounds_succ]
  go_wp2_with (first | (go_at_call 56; refine (in_yes _ _ _ _ (by omega)).mono ?_; rintro e w' ⟨rfl, rfl⟩) | (go_at_call 56; refine (in_no _ _ _ _ (by omega)).mono ?_; rintro e w' ⟨rfl, rfl⟩))
  go_ret
  exact ⟨rfl, by repeat (first | exact Below.refl _ _ | apply Below.drew)⟩

set_option maxRecDepth 100000 in
set_option maxHeartbeats 1600000 in
set_option linter.unusedVariables false in
theorem glyph_two_ok (s : ByteArray) (i : Nat) (hi : i < s.size) (w : World) (hs : s.size ≤ 1048576) (hb : 192 ≤ (s[i].toNat : Int)) (hb' : (s[i].toNat : Int) < 224) (hl : i + 1 < s.size) (h1 : 128 ≤ (s[i + 1].toNat : Int)) (g1 : (s[i + 1].toNat : Int) ≤ 191) (hv : 128 ≤ (64 * ((s[i].toNat : Int) - 192) + (s[i + 1].toNat : Int) - 128)) :
    Calls Tryd.prog 40 #[.string s, .int .i64 i] w fun e w' => e = .returned (.int .i64 2) ∧ Below w.heap.size w w' := by
  have l1 : (s[i + 1].toNat : Int) < 256 := by have := s[i + 1].toNat_lt; omega
  go_enter Tryd.func40, Tryd.ntmps40
  go_wp2
  go_region
  go_wp2_with (first | (go_at_call 56; refine (in_yes _ _ _ _ (by omega)).mono ?_; rintro e w' ⟨rfl, rfl⟩) | (go_at_call 56; refine (in_no _ _ _ _ (by omega)).mono ?_; rintro e w' ⟨rfl, rfl⟩))
  refine wp_loop_rounds 2 ?_
  rw [rounds_succ]
  go_wp2_with (first | (go_at_call 56; refine (in_yes _ _ _ _ (by omega)).mono ?_; rintro e w' ⟨rfl, rfl⟩) | (go_at_call 56; refine (in_no _ _ _ _ (by omega)).mono ?_; rintro e w' ⟨rfl, rfl⟩))
  rw [rounds_succ]
  go_wp2_with (first | (go_at_call 56; refine (in_yes _ _ _ _ (by omega)).mono ?_; rintro e w' ⟨rfl, rfl⟩) | (go_at_call 56; refine (in_no _ _ _ _ (by omega)).mono ?_; rintro e w' ⟨rfl, rfl⟩))
  go_ret
  exact ⟨rfl, by repeat (first | exact Below.refl _ _ | apply Below.drew)⟩
end Go.Proofs.YtdaemdomlmpfmaaDoor
