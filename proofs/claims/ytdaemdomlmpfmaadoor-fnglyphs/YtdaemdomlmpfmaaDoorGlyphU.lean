/- The width of the code point at a place, all ways together; the count of all of them. -/
import Derived.Test.YtdaemdomlmpfmaaDoorGlyphW3
import Derived.Test.YtdaemdomlmpfmaaDoorGlyphW4
import Derived.Test.YtdaemdomlmpfmaaDoorWidP
namespace Go.Proofs.YtdaemdomlmpfmaaDoor
open Go.RowKit Go.Lib


set_option linter.unusedVariables false in
set_option maxHeartbeats 8000000 in
theorem glyph_any_two (s : ByteArray) (i : Nat) (hi : i < s.size) (w : World) (hs : s.size ≤ 1048576) (clo : 192 ≤ s[i].toNat) (chi : s[i].toNat < 224) :
    Calls Tryd.prog 40 #[.string s, .int .i64 i] w fun e w' => e = .returned (.int .i64 ((Utf8.decode s i).2 : Nat)) ∧ Below w.heap.size w w' := by
  have hd := dec_wid s i
  have e0 := get_byte s i hi
  have l0 : (s.get! i).toNat < 256 := (s.get! i).toNat_lt
  have l1 : (s.get! (i + 1)).toNat < 256 := (s.get! (i + 1)).toNat_lt
  have l2 : (s.get! (i + 2)).toNat < 256 := (s.get! (i + 2)).toNat_lt
  have l3 : (s.get! (i + 3)).toNat < 256 := (s.get! (i + 3)).toNat_lt
  rw [e0] at hd l0
  by_cases hl : s.size ≤ i + 1
  · refine (glyph_two_short s i hi w hs (by omega) (by omega) (by omega)).mono ?_; rintro e w' ⟨rfl, hb⟩; exact ⟨ret_int (by rw [hd, wid_two _ _ _ _ _ (by omega) (by omega) (by omega) ]; (repeat' split) <;> omega), hb⟩
  have e1 := get_byte s (i + 1) (by omega)
  rw [e1] at hd
  rw [e1] at l1
  by_cases a1 : s[i + 1].toNat < 128
  · refine (glyph_two_bad1a s i hi w hs (by omega) (by omega) (by omega)  (by omega)).mono ?_; rintro e w' ⟨rfl, hb⟩; exact ⟨ret_int (by rw [hd, wid_two _ _ _ _ _ (by omega) (by omega) (by omega) ]; (repeat' split) <;> omega), hb⟩
  by_cases g1 : 191 < s[i + 1].toNat
  · refine (glyph_two_bad1b s i hi w hs (by omega) (by omega) (by omega)  (by omega)).mono ?_; rintro e w' ⟨rfl, hb⟩; exact ⟨ret_int (by rw [hd, wid_two _ _ _ _ _ (by omega) (by omega) (by omega) ]; (repeat' split) <;> omega), hb⟩
  by_cases hv : (64 * (s[i].toNat - 192) + s[i + 1].toNat - 128) < 128
  · refine (glyph_two_small s i hi w hs (by omega) (by omega) (by omega) (by omega) (by omega) (by omega)).mono ?_; rintro e w' ⟨rfl, hb⟩; exact ⟨ret_int (by rw [hd, wid_two _ _ _ _ _ (by omega) (by omega) (by omega) ]; (repeat' split) <;> omega), hb⟩
  refine (glyph_two_ok s i hi w hs (by omega) (by omega) (by omega) (by omega) (by omega) (by omega)).mono ?_; rintro e w' ⟨rfl, hb⟩; exact ⟨ret_int (by rw [hd, wid_two _ _ _ _ _ (by omega) (by omega) (by omega) ]; (repeat' split) <;> omega), hb⟩

set_option linter.unusedVariables false in
set_option maxHeartbeats 8000000 in
theorem glyph_any_three (s : ByteArray) (i : Nat) (hi : i < s.size) (w : World) (hs : s.size ≤ 1048576) (clo : 224 ≤ s[i].toNat) (chi : s[i].toNat < 240) :
    Calls Tryd.prog 40 #[.string s, .int .i64 i] w fun e w' => e = .returned (.int .i64 ((Utf8.decode s i).2 : Nat)) ∧ Below w.heap.size w w' := by
  have hd := dec_wid s i
  have e0 := get_byte s i hi
  have l0 : (s.get! i).toNat < 256 := (s.get! i).toNat_lt
  have l1 : (s.get! (i + 1)).toNat < 256 := (s.get! (i + 1)).toNat_lt
  have l2 : (s.get! (i + 2)).toNat < 256 := (s.get! (i + 2)).toNat_lt
  have l3 : (s.get! (i + 3)).toNat < 256 := (s.get! (i + 3)).toNat_lt
  rw [e0] at hd l0
  by_cases hl : s.size ≤ i + 2
  · refine (glyph_three_short s i hi w hs (by omega) (by omega) (by omega)).mono ?_; rintro e w' ⟨rfl, hb⟩; exact ⟨ret_int (by rw [hd, wid_three _ _ _ _ _ (by omega) (by omega) (by omega) (by omega) ]; (repeat' split) <;> omega), hb⟩
  have e1 := get_byte s (i + 1) (by omega)
  have e2 := get_byte s (i + 2) (by omega)
  rw [e1, e2] at hd
  rw [e1] at l1; rw [e2] at l2
  by_cases a1 : s[i + 1].toNat < 128
  · refine (glyph_three_bad1a s i hi w hs (by omega) (by omega) (by omega)  (by omega)).mono ?_; rintro e w' ⟨rfl, hb⟩; exact ⟨ret_int (by rw [hd, wid_three _ _ _ _ _ (by omega) (by omega) (by omega) (by omega) ]; (repeat' split) <;> omega), hb⟩
  by_cases g1 : 191 < s[i + 1].toNat
  · refine (glyph_three_bad1b s i hi w hs (by omega) (by omega) (by omega)  (by omega)).mono ?_; rintro e w' ⟨rfl, hb⟩; exact ⟨ret_int (by rw [hd, wid_three _ _ _ _ _ (by omega) (by omega) (by omega) (by omega) ]; (repeat' split) <;> omega), hb⟩
  by_cases a2 : s[i + 2].toNat < 128
  · refine (glyph_three_bad2a s i hi w hs (by omega) (by omega) (by omega) (by omega) (by omega) (by omega)).mono ?_; rintro e w' ⟨rfl, hb⟩; exact ⟨ret_int (by rw [hd, wid_three _ _ _ _ _ (by omega) (by omega) (by omega) (by omega) ]; (repeat' split) <;> omega), hb⟩
  by_cases g2 : 191 < s[i + 2].toNat
  · refine (glyph_three_bad2b s i hi w hs (by omega) (by omega) (by omega) (by omega) (by omega) (by omega)).mono ?_; rintro e w' ⟨rfl, hb⟩; exact ⟨ret_int (by rw [hd, wid_three _ _ _ _ _ (by omega) (by omega) (by omega) (by omega) ]; (repeat' split) <;> omega), hb⟩
  by_cases hv : (64 * (64 * (s[i].toNat - 224) + s[i + 1].toNat - 128) + s[i + 2].toNat - 128) < 2048
  · refine (glyph_three_small s i hi w hs (by omega) (by omega) (by omega) (by omega) (by omega) (by omega) (by omega) (by omega)).mono ?_; rintro e w' ⟨rfl, hb⟩; exact ⟨ret_int (by rw [hd, wid_three _ _ _ _ _ (by omega) (by omega) (by omega) (by omega) ]; (repeat' split) <;> omega), hb⟩
  by_cases s1 : (64 * (64 * (s[i].toNat - 224) + s[i + 1].toNat - 128) + s[i + 2].toNat - 128) < 55296
  · refine (glyph_three_oka s i hi w hs (by omega) (by omega) (by omega) (by omega) (by omega) (by omega) (by omega) (by omega) (by omega)).mono ?_; rintro e w' ⟨rfl, hb⟩; exact ⟨ret_int (by rw [hd, wid_three _ _ _ _ _ (by omega) (by omega) (by omega) (by omega) ]; (repeat' split) <;> omega), hb⟩
  by_cases s2 : 57343 < (64 * (64 * (s[i].toNat - 224) + s[i + 1].toNat - 128) + s[i + 2].toNat - 128)
  · refine (glyph_three_okb s i hi w hs (by omega) (by omega) (by omega) (by omega) (by omega) (by omega) (by omega) (by omega)).mono ?_; rintro e w' ⟨rfl, hb⟩; exact ⟨ret_int (by rw [hd, wid_three _ _ _ _ _ (by omega) (by omega) (by omega) (by omega) ]; (repeat' split) <;> omega), hb⟩
  refine (glyph_three_sur s i hi w hs (by omega) (by omega) (by omega) (by omega) (by omega) (by omega) (by omega) (by omega) (by omega)).mono ?_; rintro e w' ⟨rfl, hb⟩; exact ⟨ret_int (by rw [hd, wid_three _ _ _ _ _ (by omega) (by omega) (by omega) (by omega) ]; (repeat' split) <;> omega), hb⟩

set_option linter.unusedVariables false in
set_option maxHeartbeats 8000000 in
theorem glyph_any_four (s : ByteArray) (i : Nat) (hi : i < s.size) (w : World) (hs : s.size ≤ 1048576) (clo : 240 ≤ s[i].toNat) (chi : s[i].toNat < 248) :
    Calls Tryd.prog 40 #[.string s, .int .i64 i] w fun e w' => e = .returned (.int .i64 ((Utf8.decode s i).2 : Nat)) ∧ Below w.heap.size w w' := by
  have hd := dec_wid s i
  have e0 := get_byte s i hi
  have l0 : (s.get! i).toNat < 256 := (s.get! i).toNat_lt
  have l1 : (s.get! (i + 1)).toNat < 256 := (s.get! (i + 1)).toNat_lt
  have l2 : (s.get! (i + 2)).toNat < 256 := (s.get! (i + 2)).toNat_lt
  have l3 : (s.get! (i + 3)).toNat < 256 := (s.get! (i + 3)).toNat_lt
  rw [e0] at hd l0
  by_cases hl : s.size ≤ i + 3
  · refine (glyph_four_short s i hi w hs (by omega) (by omega) (by omega)).mono ?_; rintro e w' ⟨rfl, hb⟩; exact ⟨ret_int (by rw [hd, wid_four _ _ _ _ _ (by omega) (by omega) (by omega) (by omega) (by omega) ]; (repeat' split) <;> omega), hb⟩
  have e1 := get_byte s (i + 1) (by omega)
  have e2 := get_byte s (i + 2) (by omega)
  have e3 := get_byte s (i + 3) (by omega)
  rw [e1, e2, e3] at hd
  rw [e1] at l1; rw [e2] at l2; rw [e3] at l3
  by_cases a1 : s[i + 1].toNat < 128
  · refine (glyph_four_bad1a s i hi w hs (by omega) (by omega) (by omega)  (by omega)).mono ?_; rintro e w' ⟨rfl, hb⟩; exact ⟨ret_int (by rw [hd, wid_four _ _ _ _ _ (by omega) (by omega) (by omega) (by omega) (by omega) ]; (repeat' split) <;> omega), hb⟩
  by_cases g1 : 191 < s[i + 1].toNat
  · refine (glyph_four_bad1b s i hi w hs (by omega) (by omega) (by omega)  (by omega)).mono ?_; rintro e w' ⟨rfl, hb⟩; exact ⟨ret_int (by rw [hd, wid_four _ _ _ _ _ (by omega) (by omega) (by omega) (by omega) (by omega) ]; (repeat' split) <;> omega), hb⟩
  by_cases a2 : s[i + 2].toNat < 128
  · refine (glyph_four_bad2a s i hi w hs (by omega) (by omega) (by omega) (by omega) (by omega) (by omega)).mono ?_; rintro e w' ⟨rfl, hb⟩; exact ⟨ret_int (by rw [hd, wid_four _ _ _ _ _ (by omega) (by omega) (by omega) (by omega) (by omega) ]; (repeat' split) <;> omega), hb⟩
  by_cases g2 : 191 < s[i + 2].toNat
  · refine (glyph_four_bad2b s i hi w hs (by omega) (by omega) (by omega) (by omega) (by omega) (by omega)).mono ?_; rintro e w' ⟨rfl, hb⟩; exact ⟨ret_int (by rw [hd, wid_four _ _ _ _ _ (by omega) (by omega) (by omega) (by omega) (by omega) ]; (repeat' split) <;> omega), hb⟩
  by_cases a3 : s[i + 3].toNat < 128
  · refine (glyph_four_bad3a s i hi w hs (by omega) (by omega) (by omega) (by omega) (by omega) (by omega) (by omega) (by omega)).mono ?_; rintro e w' ⟨rfl, hb⟩; exact ⟨ret_int (by rw [hd, wid_four _ _ _ _ _ (by omega) (by omega) (by omega) (by omega) (by omega) ]; (repeat' split) <;> omega), hb⟩
  by_cases g3 : 191 < s[i + 3].toNat
  · refine (glyph_four_bad3b s i hi w hs (by omega) (by omega) (by omega) (by omega) (by omega) (by omega) (by omega) (by omega)).mono ?_; rintro e w' ⟨rfl, hb⟩; exact ⟨ret_int (by rw [hd, wid_four _ _ _ _ _ (by omega) (by omega) (by omega) (by omega) (by omega) ]; (repeat' split) <;> omega), hb⟩
  by_cases hv : (64 * (64 * (64 * (s[i].toNat - 240) + s[i + 1].toNat - 128) + s[i + 2].toNat - 128) + s[i + 3].toNat - 128) < 65536
  · refine (glyph_four_small s i hi w hs (by omega) (by omega) (by omega) (by omega) (by omega) (by omega) (by omega) (by omega) (by omega) (by omega)).mono ?_; rintro e w' ⟨rfl, hb⟩; exact ⟨ret_int (by rw [hd, wid_four _ _ _ _ _ (by omega) (by omega) (by omega) (by omega) (by omega) ]; (repeat' split) <;> omega), hb⟩
  by_cases s1 : 1114111 < (64 * (64 * (64 * (s[i].toNat - 240) + s[i + 1].toNat - 128) + s[i + 2].toNat - 128) + s[i + 3].toNat - 128)
  · refine (glyph_four_big s i hi w hs (by omega) (by omega) (by omega) (by omega) (by omega) (by omega) (by omega) (by omega) (by omega) (by omega)).mono ?_; rintro e w' ⟨rfl, hb⟩; exact ⟨ret_int (by rw [hd, wid_four _ _ _ _ _ (by omega) (by omega) (by omega) (by omega) (by omega) ]; (repeat' split) <;> omega), hb⟩
  refine (glyph_four_ok s i hi w hs (by omega) (by omega) (by omega) (by omega) (by omega) (by omega) (by omega) (by omega) (by omega) (by omega) (by omega)).mono ?_; rintro e w' ⟨rfl, hb⟩; exact ⟨ret_int (by rw [hd, wid_four _ _ _ _ _ (by omega) (by omega) (by omega) (by omega) (by omega) ]; (repeat' split) <;> omega), hb⟩

theorem glyph_any (s : ByteArray) (i : Nat) (hi : i < s.size) (w : World) (hs : s.size ≤ 1048576) :
    Calls Tryd.prog 40 #[.string s, .int .i64 i] w fun e w' => e = .returned (.int .i64 ((Utf8.decode s i).2 : Nat)) ∧ Below w.heap.size w w' := by
  have hd := dec_wid s i
  have e0 := get_byte s i hi
  have l0 : (s.get! i).toNat < 256 := (s.get! i).toNat_lt
  rw [e0] at hd l0
  by_cases c0 : s[i].toNat < 192
  · refine (glyph_one s i hi w hs (.inl (by omega))).mono ?_; rintro e w' ⟨rfl, hb⟩; exact ⟨ret_int (by rw [hd, wid_low _ _ _ _ _ c0]; rfl), hb⟩
  by_cases c5 : 248 ≤ s[i].toNat
  · refine (glyph_one s i hi w hs (.inr (by omega))).mono ?_; rintro e w' ⟨rfl, hb⟩; exact ⟨ret_int (by rw [hd, wid_high _ _ _ _ _ c5 l0]; rfl), hb⟩
  by_cases c1 : s[i].toNat < 224
  · exact glyph_any_two s i hi w hs (by omega) c1
  by_cases c2 : s[i].toNat < 240
  · exact glyph_any_three s i hi w hs (by omega) c2
  exact glyph_any_four s i hi w hs (by omega) (by omega)
end Go.Proofs.YtdaemdomlmpfmaaDoor
