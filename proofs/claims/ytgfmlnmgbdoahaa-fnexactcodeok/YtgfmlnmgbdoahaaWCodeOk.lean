/- The walk of FnExactCodeOk: it returns true. -/
import Derived.Test.YtgfmlnmgbdoahaaCodT
import Derived.Test.YtgfmlnmgbdoahaaCodJ
import Derived.Test.YtgfmlnmgbdoahaaDatE
namespace Go.Proofs.Ytgfmlnmgbdoahaa
open Go.RowKit

set_option maxRecDepth 100000 in
set_option maxHeartbeats 3200000 in
theorem exact_codeok (ps : List ProtoD) (a : Option Addr) (ca : Nat) (w : World) (hn : ps.length ≤ maxLen) (hS : RowAt 5 ProtoC w 0 w.heap.size ps a) :
    Calls Try.prog 3 #[.slice a ps.length ca] w fun e w' => e = .returned (.bool true) ∧ Below w.heap.size w w' := by
  go_enter Try.func3, Try.ntmps3
  go_wp2_with fail
  refine (szProtoS_any ps a ca 0 w.heap.size 1048576 w (Nat.le_refl _) hn hS (by decide) (by decide)).mono ?_
  rintro e w1 ⟨⟨r, rfl, hr⟩, hb1⟩
  by_cases hneg : r < 0
  · go_wp2_with fail
    go_ret
    exact ⟨rfl, hb1⟩
  · have hw : wtR ProtoD.wt ps ≤ 1048576 := by omega
    clear hr
    have hS1 := hS.below ProtoC_keeps hb1 (Nat.le_refl _)
    go_wp2_with fail
    refine (toProtoS_any ps a ca 0 w.heap.size w1 hb1.size hw hS1).mono ?_
    rintro e w2 ⟨⟨b, cb, rfl, hT⟩, hb2⟩
    have B2 := hb1.trans (hb2.mono hb1.size)
    go_wp2_with fail
    refine (code_spec ps b cb _ _ w2 (Nat.le_refl _) hw hT).mono ?_
    rintro e w3 ⟨rfl, hb3⟩
    have B3 := B2.trans (hb3.mono B2.size)
    have hS3 := hS.below ProtoC_keeps B3 (Nat.le_refl _)
    go_wp2_with fail
    refine (toProtoS_any ps a ca 0 w.heap.size w3 B3.size hw hS3).mono ?_
    rintro e w4 ⟨⟨b2, cb2, rfl, hT2⟩, hb4⟩
    have B4 := B3.trans (hb4.mono B3.size)
    go_wp2_with fail
    refine (code_impl ps b2 cb2 _ _ w4 (Nat.le_refl _) hw hT2).mono ?_
    rintro e w5 ⟨rfl, hb5⟩
    have B5 := B4.trans (hb5.mono B4.size)
    have hS5 := hS.below ProtoC_keeps B5 (Nat.le_refl _)
    have hT5 := hT2.below ProtoC_keeps hb5 (Nat.le_refl _)
    go_wp2_with fail
    refine (toProtoS_any ps a ca 0 w.heap.size w5 B5.size hw hS5).mono ?_
    rintro e w6 ⟨⟨b3, cb3, rfl, hT3⟩, hb6⟩
    have B6 := B5.trans (hb6.mono B5.size)
    have hT6 := hT5.below ProtoC_keeps hb6 hb5.size
    go_wp2_with fail
    refine (eqProtoS_same ps b2 b3 cb2 cb3 _ _ _ _ w6 (Nat.le_trans hb5.size hb6.size) (Nat.le_refl _) (by omega) hT6 hT3).mono ?_
    rintro e w7 ⟨rfl, hb7⟩
    go_wp2_with fail
    go_ret
    exact ⟨rfl, B6.trans (hb7.mono B6.size)⟩
end Go.Proofs.Ytgfmlnmgbdoahaa
