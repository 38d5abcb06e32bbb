/- The walk of FnExactMessages: it returns true. -/
import Derived.Test.YtadjhnaiphnpoaaDoorMsL
import Derived.Test.YtadjhnaiphnpoaaDoorMsS
import Derived.Test.YtadjhnaiphnpoaaDoorMsI
import Derived.Test.YtadjhnaiphnpoaaDoorLibP
import Derived.Test.YtadjhnaiphnpoaaDoorRows
import Derived.LaidMore
import Derived.Stop.Joined
import Derived.MakeChecks
namespace Go.Proofs.YtadjhnaiphnpoaaDoor.fnExactMessages
open Go.ChangeShapes Go.WideShapes Go.ChangeAt Go.RowKit

def laidL : List (String × DataW Unit) := [("math/bits.deBruijn32tab", Rows.laid_math_bits_deBruijn32tab), ("math/bits.deBruijn64tab", Rows.laid_math_bits_deBruijn64tab), ("internal/strconv.uint64pow10", Rows.laid_internal_strconv_uint64pow10), ("unicode/utf8.acceptRanges", Rows.laid_unicode_utf8_acceptRanges), ("strconv.ErrRange", Rows.laid_strconv_ErrRange), ("strconv.ErrSyntax", Rows.laid_strconv_ErrSyntax), ("unicode/utf8.first", Rows.laid_unicode_utf8_first)]

theorem lib_of {W : World} (h : laidMetH Tryd.prog laidL W) : LibOk W := by
  rw [MakeChecks.laidMetH_plain _ _ _ (by kernel_rfl)] at h
  have h3 := h.tail.tail
  exact ⟨pow_of h3, syn_of h3.tail.tail.tail, rng_of h3.tail.tail⟩
set_option maxRecDepth 100000 in
set_option maxHeartbeats 3200000 in
theorem walk (a0 : ByteArray) (w0 : a0.size ≤ maxLen) (w : World) (hL : laidMetH Tryd.prog laidL w) :
    Calls Tryd.prog 5 #[.string a0] w fun e w' => e = .returned (.bool true) ∧ Below w.heap.size w w' := by
  have H : Hid (LibOk w) := lib_of hL
  clear hL
  unfold maxLen at w0
  by_cases hbig : 1048576 < a0.size
  · have hb' : (1048576 : Int) < a0.size := by omega
    go_enter Tryd.func5, Tryd.ntmps5
    go_wp2_with fail
    go_ret
    exact ⟨rfl, Below.refl _ _⟩
  · have hb' : (a0.size : Int) ≤ 1048576 := by omega
    have hlen : (msgs a0).1.length ≤ 100 := by have := msgR_len a0 100 0 []; simpa [msgs] using this
    have HS : Hid (Calls Tryd.prog 14 #[.string a0] w fun e w' => (∃ v, e = .returned (.tuple #[v, .int .i64 (msgs a0).2.1, .int .i64 (msgs a0).2.2]) ∧ Ws w' w.heap.size v (msgs a0).1) ∧ Below w.heap.size w w') := msgs_spec a0 w (by omega)
    have HI : Hid (∀ u, LibOk u → Calls Tryd.prog 15 #[.string a0] u fun e w' => (∃ v, e = .returned (.tuple #[v, .int .i64 (msgs a0).2.1, .int .i64 (msgs a0).2.2]) ∧ Ws w' u.heap.size v (msgs a0).1) ∧ Below u.heap.size u w') := fun u hu => msgs_impl a0 u (by omega) hu
    generalize msgs a0 = R at *
    obtain ⟨ss, bn, kk⟩ := R
    simp only [] at HS HI hlen
    go_enter Tryd.func5, Tryd.ntmps5
    go_wp2_with fail
    refine Calls.mono HS.out ?_
    rintro e w1 ⟨⟨v0, rfl, S0⟩, hb1⟩
    obtain ⟨p0, q0, rfl⟩ := ws_len S0
    go_wp2_with fail
    refine Calls.mono (HI.out _ (H.out.below hb1)) ?_
    rintro e w2 ⟨⟨v1, rfl, S1⟩, hb2⟩
    obtain ⟨p1, q1, rfl⟩ := ws_len S1
    have L0 : Hid (Ls w2 p0 ss) := ls_below (ls_of S0) hb2
    have HS1 : Hid (Ws w2 w1.heap.size (.slice p1 ss.length q1) ss) := S1
    have B2 := hb1.trans (hb2.mono hb1.size)
    have HZ2 : Hid (w1.heap.size ≤ w2.heap.size) := hb2.size
    have HL0 : Hid (∀ g, p0 = some ⟨g, 0, none⟩ → 0 < ss.length → g < w1.heap.size) := fun g e hn => by
      obtain ⟨g', e', hg, _⟩ := ls_of S0 0 hn
      rw [e] at e'
      have := Option.some.inj e'
      injection this with e1
      omega
    have HW1 : Hid (w.heap.size ≤ w1.heap.size) := hb1.size
    clear S0 S1 hb1 hb2
    go_wp2_with fail
    refine (eqS_same ss p1 p0 q1 q0 _ (by omega) (ls_of HS1.out) L0.out).mono ?_
    rintro e w3 ⟨rfl, hb3⟩
    have HS3 : Hid (Ws w3 w1.heap.size (.slice p1 ss.length q1) ss) := ws_below HS1.out hb3
    have L3 : Hid (Ls w3 p0 ss) := ls_below L0.out hb3
    have B3 := B2.trans (hb3.mono B2.size)
    have HZ3 : Hid (w1.heap.size ≤ w3.heap.size) := Nat.le_trans HZ2.out hb3.size
    clear HS1 L0 B2 HZ2 hb3
    go_wp2_with fail
    refine (mkS_any HS3.out (by omega) HZ3.out).mono ?_
    rintro e w4 ⟨rfl, hb4, M4⟩
    have L4 : Hid (Ls w4 p0 ss) := fun j hj => by
      obtain ⟨g, e, hg, hc⟩ := L3.out j hj
      have hlt := HL0.out g e (by omega)
      exact ⟨g, e, Nat.lt_of_lt_of_le hg hb4.size, (hb4.cell (p := ⟨g, j, none⟩) hlt).trans hc⟩
    have HM4 : Hid (Ls w4 p1 (mkL 1 ss.length)) := M4
    have B4 : Below w.heap.size w w4 := B3.trans (hb4.mono HW1.out)
    clear HS3 L3 B3 HZ3 hb4 M4 HL0
    go_wp2_with fail
    refine (hdS_any ss.length p1 q1 _ HM4.out (by omega)).mono ?_
    rintro e w5 ⟨rfl, hb5⟩
    have HM5 : Hid (Ls w5 p1 (mkL 1 ss.length)) := ls_below HM4.out hb5
    have L5 : Hid (Ls w5 p0 ss) := ls_below L4.out hb5
    have B5 := B4.trans (hb5.mono B4.size)
    clear HM4 L4 B4 hb5
    go_wp2_with fail
    refine Calls.mono (HI.out _ (H.out.below B5)) ?_
    rintro e w6 ⟨⟨v2, rfl, S6⟩, hb6⟩
    obtain ⟨p2, q2, rfl⟩ := ws_len S6
    have HM6 : Hid (Ls w6 p1 (mkL 1 ss.length)) := ls_below HM5.out hb6
    have L6 : Hid (Ls w6 p0 ss) := ls_below L5.out hb6
    have G6 : Hid (Ls w6 p2 ss) := ls_of S6
    have B6 := B5.trans (hb6.mono B5.size)
    clear HM5 L5 B5 hb6 S6
    go_wp2_with fail
    refine (eqS_same ss p2 p0 q2 q0 _ (by omega) G6.out L6.out).mono ?_
    rintro e w7 ⟨rfl, hb7⟩
    have HM7 : Hid (Ls w7 p1 (mkL 1 ss.length)) := ls_below HM6.out hb7
    have B7 := B6.trans (hb7.mono B6.size)
    clear HM6 L6 G6 B6 hb7
    go_wp2_with fail
    refine (hdS_any ss.length p1 q1 _ HM7.out (by omega)).mono ?_
    rintro e w8 ⟨rfl, hb8⟩
    have B8 := B7.trans (hb8.mono B7.size)
    clear HM7 B7 hb8
    go_wp2_with fail
    go_ret
    exact ⟨rfl, B8⟩

end Go.Proofs.YtadjhnaiphnpoaaDoor.fnExactMessages
