/- The width of the code point at a place: the model's own decoding. -/
import Derived.Test.YtdaemdomlmpfmaaDoorGlyphW
import Derived.Lib.DecodeN
import Derived.BigQuiet
import Derived.Deep.QuietTactic
namespace Go.Proofs.YtdaemdomlmpfmaaDoor
open Go.RowKit


set_option maxRecDepth 100000 in
set_option maxHeartbeats 1600000 in
set_option linter.unusedVariables false in
theorem glyph_three_short (s : ByteArray) (i : Nat) (hi : i < s.size) (w : World) (hs : s.size ≤ 1048576) (hb : 224 ≤ (s[i].toNat : Int)) (hb' : (s[i].toNat : Int) < 240) (h : s.size ≤ i + 2) :
    Calls Tryd.prog 40 #[.string s, .int .i64 i] w fun e w' => e = .returned (.int .i64 1) ∧ Below w.heap.size w w' := by
  go_enter Tryd.func40, Tryd.ntmps40
  go_wp2
  go_region
  go_wp2_with (first | (go_at_call 56; refine (in_yes _ _ _ _ (by omega)).mono ?_; rintro e w' ⟨rfl, rfl⟩) | (go_at_call 56; refine (in_no _ _ _ _ (by omega)).mono ?_; rintro e w' ⟨rfl, rfl⟩))
  go_ret
  exact ⟨rfl, by repeat (first | exact Below.refl _ _ | apply Below.drew)⟩

set_option maxRecDepth 100000 in
set_option maxHeartbeats 1600000 in
set_option linter.unusedVariables false in
theorem glyph_three_bad1a (s : ByteArray) (i : Nat) (hi : i < s.size) (w : World) (hs : s.size ≤ 1048576) (hb : 224 ≤ (s[i].toNat : Int)) (hb' : (s[i].toNat : Int) < 240) (hl : i + 2 < s.size) (hb1 : (s[i + 1].toNat : Int) < 128) :
    Calls Tryd.prog 40 #[.string s, .int .i64 i] w fun e w' => e = .returned (.int .i64 1) ∧ Below w.heap.size w w' := by
  have l1 : (s[i + 1].toNat : Int) < 256 := by have := s[i + 1].toNat_lt; omega
  have l2 : (s[i + 2].toNat : Int) < 256 := by have := s[i + 2].toNat_lt; omega
  go_enter Tryd.func40, Tryd.ntmps40
  go_wp2
  go_region
  go_wp2_with (first | (go_at_call 56; refine (in_yes _ _ _ _ (by omega)).mono ?_; rintro e w' ⟨rfl, rfl⟩) | (go_at_call 56; refine (in_no _ _ _ _ (by omega)).mono ?_; rintro e w' ⟨rfl, rfl⟩))
  refine wp_loop_rounds 1 ?_
  rw [rounds_succ]
  go_wp2_with (first | (go_at_call 56; refine (in_yes _ _ _ _ (by omega)).mono ?_; rintro e w' ⟨rfl, rfl⟩) | (go_at_call 56; refine (in_no _ _ _ _ (by omega)).mono ?_; rintro e w' ⟨rfl, rfl⟩))
  go_ret
  exact ⟨rfl, by repeat (first | exact Below.refl _ _ | apply Below.drew)⟩

set_option maxRecDepth 100000 in
set_option maxHeartbeats 1600000 in
set_option linter.unusedVariables false in
theorem glyph_three_bad1b (s : ByteArray) (i : Nat) (hi : i < s.size) (w : World) (hs : s.size ≤ 1048576) (hb : 224 ≤ (s[i].toNat : Int)) (hb' : (s[i].toNat : Int) < 240) (hl : i + 2 < s.size) (hb1 : 191 < (s[i + 1].toNat : Int)) :
    Calls Tryd.prog 40 #[.string s, .int .i64 i] w fun e w' => e = .returned (.int .i64 1) ∧ Below w.heap.size w w' := by
  have l1 : (s[i + 1].toNat : Int) < 256 := by have := s[i + 1].toNat_lt; omega
  have l2 : (s[i + 2].toNat : Int) < 256 := by have := s[i + 2].toNat_lt; omega
  go_enter Tryd.func40, Tryd.ntmps40
  go_wp2
  go_region
  go_wp2_with (first | (go_at_call 56; refine (in_yes _ _ _ _ (by omega)).mono ?_; rintro e w' ⟨rfl, rfl⟩) | (go_at_call 56; refine (in_no _ _ _ _ (by omega)).mono ?_; rintro e w' ⟨rfl, rfl⟩))
  refine wp_loop_rounds 1 ?_
  rw [rounds_succ]
  go_wp2_with (first | (go_at_call 56; refine (in_yes _ _ _ _ (by omega)).mono ?_; rintro e w' ⟨rfl, rfl⟩) | (go_at_call 56; refine (in_no _ _ _ _ (by omega)).mono ?_; rintro e w' ⟨rfl, rfl⟩))
  go_ret
  exact ⟨rfl, by repeat (first | exact Below.refl _ _ | apply Below.drew)⟩

set_option maxRecDepth 100000 in
set_option maxHeartbeats 1600000 in
set_option linter.unusedVariables false in
theorem glyph_three_bad2a (s : ByteArray) (i : Nat) (hi : i < s.size) (w : World) (hs : s.size ≤ 1048576) (hb : 224 ≤ (s[i].toNat : Int)) (hb' : (s[i].toNat : Int) < 240) (hl : i + 2 < s.size) (h1 : 128 ≤ (s[i + 1].toNat : Int)) (g1 : (s[i + 1].toNat : Int) ≤ 191) (hb2 : (s[i + 2].toNat : Int) < 128) :
    Calls Tryd.prog 40 #[.string s, .int .i64 i] w fun e w' => e = .returned (.int .i64 1) ∧ Below w.heap.size w w' := by
  have l1 : (s[i + 1].toNat : Int) < 256 := by have := s[i + 1].toNat_lt; omega
  have l2 : (s[i + 2].toNat : Int) < 256 := by have := s[i + 2].toNat_lt; omega
  go_enter Tryd.func40, Tryd.ntmps40
  go_wp2
  go_region
  go_wp2_with (first | (go_at_call 56; refine (in_yes _ _ _ _ (by omega)).mono ?_; rintro e w' ⟨rfl, rfl⟩) | (go_at_call 56; refine (in_no _ _ _ _ (by omega)).mono ?_; rintro e w' ⟨rfl, rfl⟩))
  refine wp_loop_rounds 2 ?_
  rw [rounds_succ]
  go_wp2_with (first | (go_at_call 56; refine (in_yes _ _ _ _ (by omega)).mono ?_; rintro e w' ⟨rfl, rfl⟩) | (go_at_call 56; refine (in_no _ _ _ _ (by omega)).mono ?_; rintro e w' ⟨rfl, rfl⟩))
  rw [rounds_succ]
  go_wp2_with (first | (go_at_call 56; refine (in_yes _ _ _ _ (by omega)).mono ?_; rintro e w' ⟨rfl, rfl⟩) | (go_at_call 56; refine (in_no _ _ _ _ (by omega)).mono ?_; rintro e w' ⟨rfl, rfl⟩))
  go_ret
  exact ⟨rfl, by repeat (first | exact Below.refl _ _ | apply Below.drew)⟩

set_option maxRecDepth 100000 in
set_option maxHeartbeats 1600000 in
set_option linter.unusedVariables false in
theorem glyph_three_bad2b (s : ByteArray) (i : Nat) (hi : i < s.size) (w : World) (hs : s.size ≤ 1048576) (hb : 224 ≤ (s[i].toNat : Int)) (hb' : (s[i].toNat : Int) < 240) (hl : i + 2 < s.size) (h1 : 128 ≤ (s[i + 1].toNat : Int)) (g1 : (s[i + 1].toNat : Int) ≤ 191) (hb2 : 191 < (s[i + 2].toNat : Int)) :
    Calls Tryd.prog 40 #[.string s, .int .i64 i] w fun e w' => e = .returned (.int .i64 1) ∧ Below w.heap.size w w' := by
  have l1 : (s[i + 1].toNat : Int) < 256 := by have := s[i + 1].toNat_lt; omega
  have l2 : (s[i + 2].toNat : Int) < 256 := by have := s[i + 2].toNat_lt; omega
  go_enter Tryd.func40, Tryd.ntmps40
  go_wp2
  go_region
  go_wp2_with (first | (go_at_call 56; refine (in_yes _ _ _ _ (by omega)).mono ?_; rintro e w' ⟨rfl, rfl⟩) | (go_at_call 56; refine (in_no _ _ _ _ (by omega)).mono ?_; rintro e w' ⟨rfl, rfl⟩))
  refine wp_loop_rounds 2 ?_
  rw [rounds_succ]
  go_wp2_with (first | (go_at_call 56; refine (in_yes _ _ _ _ (by omega)).mono ?_; rintro e w' ⟨rfl, rfl⟩) | (go_at_call 56; refine (in_no _ _ _ _ (by omega)).mono ?_; rintro e w' ⟨rfl, rfl⟩))
  rw [rounds_succ]
  go_wp2_with (first | (go_at_call 56; refine (in_yes _ _ _ _ (by omega)).mono ?_; rintro e w' ⟨rfl, rfl⟩) | (go_at_call 56; refine (in_no _ _ _ _ (by omega)).mono ?_; rintro e w' ⟨rfl, rfl⟩))
  go_ret
  exact ⟨rfl, by repeat (first | exact Below.refl _ _ | apply Below.drew)⟩

set_option maxRecDepth 100000 in
set_option maxHeartbeats 1600000 in
set_option linter.unusedVariables false in
theorem glyph_three_small (s : ByteArray) (i : Nat) (hi : i < s.size) (w : World) (hs : s.size ≤ 1048576) (hb : 224 ≤ (s[i].toNat : Int)) (hb' : (s[i].toNat : Int) < 240) (hl : i + 2 < s.size) (h1 : 128 ≤ (s[i + 1].toNat : Int)) (g1 : (s[i + 1].toNat : Int) ≤ 191) (h2 : 128 ≤ (s[i + 2].toNat : Int)) (g2 : (s[i + 2].toNat : Int) ≤ 191) (hv : (64 * (64 * ((s[i].toNat : Int) - 224) + (s[i + 1].toNat : Int) - 128) + (s[i + 2].toNat : Int) - 128) < 2048) :
    Calls Tryd.prog 40 #[.string s, .int .i64 i] w fun e w' => e = .returned (.int .i64 1) ∧ Below w.heap.size w w' := by
  have l1 : (s[i + 1].toNat : Int) < 256 := by have := s[i + 1].toNat_lt; omega
  have l2 : (s[i + 2].toNat : Int) < 256 := by have := s[i + 2].toNat_lt; omega
  go_enter Tryd.func40, Tryd.ntmps40
  go_wp2
  go_region
  go_wp2_with (first | (go_at_call 56; refine (in_yes _ _ _ _ (by omega)).mono ?_; rintro e w' ⟨rfl, rfl⟩) | (go_at_call 56; refine (in_no _ _ _ _ (by omega)).mono ?_; rintro e w' ⟨rfl, rfl⟩))
  refine wp_loop_rounds 3 ?_
  rw [rounds_succ]
  go_wp2_with (first | (go_at_call 56; refine (in_yes _ _ _ _ (by omega)).mono ?_; rintro e w' ⟨rfl, rfl⟩) | (go_at_call 56; refine (in_no _ _ _ _ (by omega)).mono ?_; rintro e w' ⟨rfl, rfl⟩))
  rw [rounds_succ]
  go_wp2_with (first | (go_at_call 56; refine (in_yes _ _ _ _ (by omega)).mono ?_; rintro e w' ⟨rfl, rfl⟩) | (go_at_call 56; refine (in_no _ _ _ _ (by omega)).mono ?_; rintro e w' ⟨rfl, rfl⟩))
  rw [rounds_succ]
  go_wp2_with (first | (go_at_call 56; refine (in_yes _ _ _ _ (by omega)).mono ?_; rintro e w' ⟨rfl, rfl⟩) | (go_at_call 56; refine (in_no _ _ _ _ (by omega)).mono ?_; rintro e w' ⟨rfl, rfl⟩))
  go_ret
  exact ⟨rfl, by repeat (first | exact Below.refl _ _ | apply Below.drew)⟩

set_option maxRecDepth 100000 in
set_option maxHeartbeats 1600000 in
set_option linter.unusedVariables false in
theorem glyph_three_sur (s : ByteArray) (i : Nat) (hi : i < s.size) (w : World) (hs : s.size ≤ 1048576) (hb : 224 ≤ (s[i].toNat : Int)) (hb' : (s[i].toNat : Int) < 240) (hl : i + 2 < s.size) (h1 : 128 ≤ (s[i + 1].toNat : Int)) (g1 : (s[i + 1].toNat : Int) ≤ 191) (h2 : 128 ≤ (s[i + 2].toNat : Int)) (g2 : (s[i + 2].toNat : Int) ≤ 191) (hv : 55296 ≤ (64 * (64 * ((s[i].toNat : Int) - 224) + (s[i + 1].toNat : Int) - 128) + (s[i + 2].toNat : Int) - 128)) (hv2 : (64 * (64 * ((s[i].toNat : Int) - 224) + (s[i + 1].toNat : Int) - 128) + (s[i + 2].toNat : Int) - 128) ≤ 57343) :
    Calls Tryd.prog 40 #[.string s, .int .i64 i] w fun e w' => e = .returned (.int .i64 1) ∧ Below w.heap.size w w' := by
  have l1 : (s[i + 1].toNat : Int) < 256 := by have := s[i + 1].toNat_lt; omega
  have l2 : (s[i + 2].toNat : Int) < 256 := by have := s[i + 2].toNat_lt; omega
  go_enter Tryd.func40, Tryd.ntmps40
  go_wp2
  go_region
  go_wp2_with (first | (go_at_call 56; refine (in_yes _ _ _ _ (by omega)).mono ?_; rintro e w' ⟨rfl, rfl⟩) | (go_at_call 56; refine (in_no _ _ _ _ (by omega)).mono ?_; rintro e w' ⟨rfl, rfl⟩))
  refine wp_loop_rounds 3 ?_
  rw [rounds_succ]
  go_wp2_with (first | (go_at_call 56; refine (in_yes _ _ _ _ (by omega)).mono ?_; rintro e w' ⟨rfl, rfl⟩) | (go_at_call 56; refine (in_no _ _ _ _ (by omega)).mono ?_; rintro e w' ⟨rfl, rfl⟩))
  rw [rounds_succ]
  go_wp2_with (first | (go_at_call 56; refine (in_yes _ _ _ _ (by omega)).mono ?_; rintro e w' ⟨rfl, rfl⟩) | (go_at_call 56; refine (in_no _ _ _ _ (by omega)).mono ?_; rintro e w' ⟨rfl, rfl⟩))
  rw [rounds_succ]
  go_wp2_with (first | (go_at_call 56; refine (in_yes _ _ _ _ (by omega)).mono ?_; rintro e w' ⟨rfl, rfl⟩) | (go_at_call 56; refine (in_no _ _ _ _ (by omega)).mono ?_; rintro e w' ⟨rfl, rfl⟩))
  go_ret
  exact ⟨rfl, by repeat (first | exact Below.refl _ _ | apply Below.drew)⟩

set_option maxRecDepth 100000 in
set_option maxHeartbeats 1600000 in
set_option linter.unusedVariables false in
theorem glyph_three_oka (s : ByteArray) (i : Nat) (hi : i < s.size) (w : World) (hs : s.size ≤ 1048576) (hb : 224 ≤ (s[i].toNat : Int)) (hb' : (s[i].toNat : Int) < 240) (hl : i + 2 < s.size) (h1 : 128 ≤ (s[i + 1].toNat : Int)) (g1 : (s[i + 1].toNat : Int) ≤ 191) (h2 : 128 ≤ (s[i + 2].toNat : Int)) (g2 : (s[i + 2].toNat : Int) ≤ 191) (hv : 2048 ≤ (64 * (64 * ((s[i].toNat : Int) - 224) + (s[i + 1].toNat : Int) - 128) + (s[i + 2].toNat : Int) - 128)) (hv2 : (64 * (64 * ((s[i].toNat : Int) - 224) + (s[i + 1].toNat : Int) - 128) + (s[i + 2].toNat : Int) - 128) < 55296) :
    Calls Tryd.prog 40 #[.string s, .int .i64 i] w fun e w' => e = .returned (.int .i64 3) ∧ Below w.heap.size w w' := by
  have l1 : (s[i + 1].toNat : Int) < 256 := by have := s[i + 1].toNat_lt; omega
  have l2 : (s[i + 2].toNat : Int) < 256 := by have := s[i + 2].toNat_lt; omega
  go_enter Tryd.func40, Tryd.ntmps40
  go_wp2
  go_region
  go_wp2_with (first | (go_at_call 56; refine (in_yes _ _ _ _ (by omega)).mono ?_; rintro e w' ⟨rfl, rfl⟩) | (go_at_call 56; refine (in_no _ _ _ _ (by omega)).mono ?_; rintro e w' ⟨rfl, rfl⟩))
  refine wp_loop_rounds 3 ?_
  rw [rounds_succ]
  go_wp2_with (first | (go_at_call 56; refine (in_yes _ _ _ _ (by omega)).mono ?_; rintro e w' ⟨rfl, rfl⟩) | (go_at_call 56; refine (in_no _ _ _ _ (by omega)).mono ?_; rintro e w' ⟨rfl, rfl⟩))
  rw [rounds_succ]
  go_wp2_with (first | (go_at_call 56; refine (in_yes _ _ _ _ (by omega)).mono ?_; rintro e w' ⟨rfl, rfl⟩) | (go_at_call 56; refine (in_no _ _ _ _ (by omega)).mono ?_; rintro e w' ⟨rfl, rfl⟩))
  rw [rounds_succ]
  go_wp2_with (first | (go_at_call 56; refine (in_yes _ _ _ _ (by omega)).mono ?_; rintro e w' ⟨rfl, rfl⟩) | (go_at_call 56; refine (in_no _ _ _ _ (by omega)).mono ?_; rintro e w' ⟨rfl, rfl⟩))
  go_ret
  exact ⟨rfl, by repeat (first | exact Below.refl _ _ | apply Below.drew)⟩

set_option maxRecDepth 100000 in
set_option maxHeartbeats 1600000 in
set_option linter.unusedVariables false in
theorem glyph_three_okb (s : ByteArray) (i : Nat) (hi : i < s.size) (w : World) (hs : s.size ≤ 1048576) (hb : 224 ≤ (s[i].toNat : Int)) (hb' : (s[i].toNat : Int) < 240) (hl : i + 2 < s.size) (h1 : 128 ≤ (s[i + 1].toNat : Int)) (g1 : (s[i + 1].toNat : Int) ≤ 191) (h2 : 128 ≤ (s[i + 2].toNat : Int)) (g2 : (s[i + 2].toNat : Int) ≤ 191) (hv : 57343 < (64 * (64 * ((s[i].toNat : Int) - 224) + (s[i + 1].toNat : Int) - 128) + (s[i + 2].toNat : Int) - 128)) :
    Calls Tryd.prog 40 #[.string s, .int .i64 i] w fun e w' => e = .returned (.int .i64 3) ∧ Below w.heap.size w w' := by
  have l1 : (s[i + 1].toNat : Int) < 256 := by have := s[i + 1].toNat_lt; omega
  have l2 : (s[i + 2].toNat : Int) < 256 := by have := s[i + 2].toNat_lt; omega
  go_enter Tryd.func40, Tryd.ntmps40
  go_wp2
  go_region
  go_wp2_with (first | (go_at_call 56; refine (in_yes _ _ _ _ (by omega)).mono ?_; rintro e w' ⟨rfl, rfl⟩) | (go_at_call 56; refine (in_no _ _ _ _ (by omega)).mono ?_; rintro e w' ⟨rfl, rfl⟩))
  refine wp_loop_rounds 3 ?_
  rw [rounds_succ]
  go_wp2_with (first | (go_at_call 56; refine (in_yes _ _ _ _ (by omega)).mono ?_; rintro e w' ⟨rfl, rfl⟩) | (go_at_call 56; refine (in_no _ _ _ _ (by omega)).mono ?_; rintro e w' ⟨rfl, rfl⟩))
  rw [rounds_succ]
  go_wp2_with (first | (go_at_call 56; refine (in_yes _ _ _ _ (by omega)).mono ?_; rintro e w' ⟨rfl, rfl⟩) | (go_at_call 56; refine (in_no _ _ _ _ (by omega)).mono ?_; rintro e w' ⟨rfl, rfl⟩))
  rw [rounds_succ]
  go_wp2_with (first | (go_at_call 56; refine (in_yes _ _ _ _ (by omega)).mono ?_; rintro e w' ⟨rfl, rfl⟩) | (go_at_call 56; refine (in_no _ _ _ _ (by omega)).mono ?_; rintro e w' ⟨rfl, rfl⟩))
  go_ret
  exact ⟨rfl, by repeat (first | exact Below.refl _ _ | apply Below.drew)⟩
end Go.Proofs.YtdaemdomlmpfmaaDoor
