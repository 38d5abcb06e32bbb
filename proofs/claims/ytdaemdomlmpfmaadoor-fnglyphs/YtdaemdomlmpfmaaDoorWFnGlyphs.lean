/- The walk of FnGlyphs: it returns true. -/
import Derived.Test.YtdaemdomlmpfmaaDoorGlyphsD
import Derived.Test.YtdaemdomlmpfmaaDoorCodeA
import Derived.Test.YtdaemdomlmpfmaaDoorRows
import Derived.LaidMore
import Derived.Stop.Joined
import Derived.MakeChecks
namespace Go.Proofs.YtdaemdomlmpfmaaDoor.fnGlyphs
open Go.ChangeShapes Go.WideShapes Go.ChangeAt Go.RowKit

def laidL : List (String × DataW Unit) := [("math/bits.deBruijn32tab", Rows.laid_math_bits_deBruijn32tab), ("math/bits.deBruijn64tab", Rows.laid_math_bits_deBruijn64tab), ("internal/strconv.uint64pow10", Rows.laid_internal_strconv_uint64pow10)]

theorem tab_of {W : World} (h : laidMetH Tryd.prog laidL W) : Lib.TabIs Tryd.prog W "internal/strconv.uint64pow10" .u64 Lib.pow10Tab := by
  rw [MakeChecks.laidMetH_plain _ _ _ (by kernel_rfl)] at h
  obtain ⟨ps, ⟨g0, t0, cs0, f0, p0, q0, hg0, ht0, hv0, hd0, ⟨g1, t1, cs1, f1, p1, q1, hg1, ht1, hv1, hd1, ⟨g2, t2, cs2, f2, p2, q2, hg2, ht2, hv2, hd2, _, _⟩, _⟩, _⟩, _, _⟩ := h
  exact tab_of_read hg2 ht2 hv2 hd2
theorem below_iter (w : World) (s : ByteArray) (pos : Nat) : Below w.heap.size w (w.iter s pos) := (Below.refl _ _).alloc (Nat.le_refl _) _
theorem glyphs_impl' (s : ByteArray) (w : World) (hs : s.size ≤ 1048576) :
    Calls Tryd.prog 19 #[.string s] w fun e w' => e = .returned (.int .i64 (glyphs s : Nat)) ∧ Below w.heap.size w w' :=
  (glyphs_impl s w hs).mono (by rintro e w' ⟨rfl, pos, rfl⟩; exact ⟨rfl, below_iter w s pos⟩)
theorem glyphs_want (s : ByteArray) (w : World) (hs : s.size ≤ 1048576) (n : Nat) (hn : glyphs s = n) :
    Calls Tryd.prog 19 #[.string s] w fun e w' => e = .returned (.int .i64 (n : Int)) ∧ Below w.heap.size w w' := by
  subst hn; exact glyphs_impl' s w hs
theorem tab_later {w w' : World} (htab : Lib.TabIs Tryd.prog w "internal/strconv.uint64pow10" .u64 Lib.pow10Tab) (hb : Below w.heap.size w w') : Lib.TabIs Tryd.prog w' "internal/strconv.uint64pow10" .u64 Lib.pow10Tab :=
  var?_below hb gPow (var_lt gPow htab (by decide)) htab
set_option maxRecDepth 100000 in
set_option maxHeartbeats 1600000 in
theorem walk (a0 : Option Addr) (len cap : Nat) (w : World) (hc : IsCode w w.heap.size a0 len cap) (hL : laidMetH Tryd.prog laidL w) :
    Calls Tryd.prog 4 #[.slice a0 len cap] w fun e w' => e = .returned (.bool true) ∧ Below w.heap.size w w' := by
  have htab := tab_of hL
  have H : Hid (Lib.TabIs Tryd.prog w "internal/strconv.uint64pow10" .u64 Lib.pow10Tab) := htab
  clear htab hL
  have hsm := hc.small
  by_cases hbig : 1048576 < len
  · go_enter Tryd.func4, Tryd.ntmps4
    go_wp2
    go_ret
    exact ⟨rfl, Below.refl _ _⟩
  · have hbig' : len ≤ 1048576 := by omega
    go_enter Tryd.func4, Tryd.ntmps4
    go_wp2_with (go_at_call 7; go_in)
    refine (drawGlyphs_any a0 len cap w hc).mono ?_
    rintro e w1 ⟨s, rfl, hs, hb1⟩
    have hc1 : IsCode w1 w1.heap.size a0 len cap := ⟨hc.small, fun j hj => by
      obtain ⟨b, off, x, e, hb, hx, h0, h1⟩ := hc.cells j hj
      exact ⟨b, off, x, e, Nat.lt_of_lt_of_le hb hb1.size, by rw [hb1.cell (by exact hb)]; exact hx, h0, h1⟩⟩
    go_wp2_with fail
    refine (glyphs_impl' s w1 (by omega)).mono ?_
    rintro e w2 ⟨rfl, hb2⟩
    have hc2 : IsCode w2 w2.heap.size a0 len cap := ⟨hc1.small, fun j hj => by
      obtain ⟨b, off, x, e, hb, hx, h0, h1⟩ := hc1.cells j hj
      exact ⟨b, off, x, e, Nat.lt_of_lt_of_le hb hb2.size, by rw [hb2.cell (by exact hb)]; exact hx, h0, h1⟩⟩
    go_wp2_with fail
    refine (drawDec_any a0 len cap w2 hc2).mono ?_
    rintro e w3 ⟨d, rfl, hd0, hd1, hb3⟩
    have B3 : Below w.heap.size w w3 := (hb1.trans (hb2.mono hb1.size)).trans (hb3.mono (Nat.le_trans hb1.size hb2.size))
    have g1 := glyphs_le s
    have g2 := glyphs_pos s
    have ga : Hid (glyphs ((⟨#[97]⟩ : ByteArray) ++ s) = glyphs s + 1) := glyphs_a s
    have g3 : Hid (glyphs ((⟨#[230, 151, 165]⟩ : ByteArray) ++ s) = glyphs s + 1) := glyphs_three s
    have gs : Hid (glyphs (s ++ (⟨#[97]⟩ : ByteArray)) = glyphs s + 1) := glyphs_snoc s
    go_wp2_with fail
    refine (glyphs_spec s w3 (by omega)).mono ?_
    rintro e w4 ⟨rfl, hb4⟩
    have B4 := B3.trans (hb4.mono B3.size)
    generalize glyphs s = n at *
    have g5 : (0 < s.size ∧ 0 < n) ∨ (s.size = 0 ∧ n = 0) := by
      by_cases h : 0 < s.size
      · exact .inl ⟨h, g2.2 h⟩
      · exact .inr ⟨by omega, by omega⟩
    have hn : n ≤ 28 := by omega
    clear hc hc1 hc2 hb1 hb2 hb3 hb4 g2
    rcases g5 with ⟨hs0, hn0⟩ | ⟨hs0, hn0⟩
    all_goals
      go_wp2_with fail
      refine (glyphs_want _ w4 (by simp only [ByteArray.size_append]; show 1 + _ ≤ _; omega) (n + 1) ga.out).mono ?_
      rintro e w5 ⟨rfl, hb5⟩
      have B5 := B4.trans (hb5.mono B4.size)
      clear hb5 B4
      go_wp2_with fail
      refine (glyphs_want _ w5 (by simp only [ByteArray.size_append]; show 3 + _ ≤ _; omega) (n + 1) g3.out).mono ?_
      rintro e w6 ⟨rfl, hb6⟩
      have B6 := B5.trans (hb6.mono B5.size)
      clear hb6 B5
      go_wp2_with fail
      refine (glyphs_want _ w6 (by simp only [ByteArray.size_append]; show _ + 1 ≤ _; omega) (n + 1) gs.out).mono ?_
      rintro e w7 ⟨rfl, hb7⟩
      have B7 := B6.trans (hb7.mono B6.size)
      have hT := tab_later H.out B7
      clear hb7 B6
      have HT : Hid (Lib.TabIs Tryd.prog w7 "internal/strconv.uint64pow10" .u64 Lib.pow10Tab) := hT
      clear hT
      go_wp2_with fail
      refine (dec_impl d hd0 hd1 w7 HT.out).mono ?_
      rintro e w8 ⟨rfl, hb8⟩
      have B8 := B7.trans (hb8.mono B7.size)
      clear hb8 B7
      go_wp2_with fail
      refine (dec_spec d hd0 hd1 w8).mono ?_
      rintro e w9 ⟨rfl, rfl⟩
      go_wp2_with fail
      go_ret
      exact ⟨rfl, B8⟩

end Go.Proofs.YtdaemdomlmpfmaaDoor.fnGlyphs
