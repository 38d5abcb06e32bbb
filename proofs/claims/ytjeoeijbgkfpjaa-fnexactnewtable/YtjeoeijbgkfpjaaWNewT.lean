/- The walk of FnExactNewTable: it returns true. -/
import Derived.Test.YtjeoeijbgkfpjaaNewG
import Derived.Test.YtjeoeijbgkfpjaaWNewC
namespace Go.Proofs.Ytjeoeijbgkfpjaa
open Go.RowKit

theorem two_vars {W : World} {B L : Nat} {g : Hp} {a a' : Option Addr} {n c n' c' : Nat} {ss : List Sl} {k m : Int} (ho : OwnH W B g ⟨a, n, c⟩ ⟨a', n', c'⟩ ss) (hL : L ≤ B) (hW : L ≤ W.heap.size) :
    Keep ((W.alloc (Obj.cells #[.slice a n c, .slice a' n' c'] 30)).alloc (Obj.cells #[.int .i64 k, .int .i64 m, .string ⟨#[]⟩] 32)) W.heap.size L ((W.alloc (Obj.cells #[.slice a n c, .slice a' n' c'] 30)).alloc (Obj.cells #[.int .i64 k, .int .i64 m, .string ⟨#[]⟩] 32)).heap.size g ⟨a, n, c⟩ ⟨a', n', c'⟩ ss ∧ VV ((W.alloc (Obj.cells #[.slice a n c, .slice a' n' c'] 30)).alloc (Obj.cells #[.int .i64 k, .int .i64 m, .string ⟨#[]⟩] 32)) (W.heap.size + 1) k m ∧ Below W.heap.size W ((W.alloc (Obj.cells #[.slice a n c, .slice a' n' c'] 30)).alloc (Obj.cells #[.int .i64 k, .int .i64 m, .string ⟨#[]⟩] 32)) := by
  refine ⟨fin_keep ho ((Below.heap_alloc _ _ _ (by simp)).trans (heap_alloc_new _ _)) (fun x _ h2 => (Below.heap_alloc _ _ _ (by simp; omega)).trans (Below.heap_alloc _ _ _ h2)) (by simp; omega) hL hW, alloc_at _ _ _, (bel_alloc _ _).trans ((bel_alloc _ _).mono (by simp))⟩
theorem VV.row {W : World} {b : Nat} {k n : Int} (h : VV W b k n) : W.heap[b]? = some (.cells #[.int .i64 k, .int .i64 n, .string ⟨#[]⟩] 32 (0, 0)) := h
set_option maxRecDepth 100000 in
set_option maxHeartbeats 3200000 in
theorem exact_newTable (h : Hp) (v : List Value) (w : World) (hN : HAt w 0 w.heap.size h v) :
    Calls Try.prog 3 #[.agg v.toArray] w fun e w' => e = .returned (.bool true) ∧ Below w.heap.size w w' := by
  have hN' := hN
  obtain ⟨ha, hca, hb0, hcb, rfl, _⟩ := hN'
  obtain ⟨W0, hW0⟩ : ∃ W0, W0 = w.alloc (Obj.cells #[.slice ha h.ts.length hca, .slice hb0 h.vs.length hcb] 25) := ⟨_, rfl⟩
  have rA := heap_alloc_new w (Obj.cells #[.slice ha h.ts.length hca, .slice hb0 h.vs.length hcb] 25)
  have hs0 := size_alloc w (Obj.cells #[.slice ha h.ts.length hca, .slice hb0 h.vs.length hcb] 25)
  have B0 := bel_alloc w (Obj.cells #[.slice ha h.ts.length hca, .slice hb0 h.vs.length hcb] 25)
  rw [← hW0] at rA hs0 B0
  have x0 := cell_of_row _ _ 0 _ _ _ rA
  have x1 := cell_of_row _ _ 1 _ _ _ rA
  simp only [List.getElem?_toArray, List.getElem?_cons_zero, List.getElem?_cons_succ] at x0 x1
  clear rA
  go_enter Try.func3, Try.ntmps3
  go_wp2_with fail
  rw [← hW0]
  clear hW0
  refine (szH_any h [.slice ha h.ts.length hca, .slice hb0 h.vs.length hcb] 0 w.heap.size 1048576 W0 (by omega) (hN.below B0 (Nat.le_refl _)) (by decide) (by decide)).mono ?_
  rintro e w1 ⟨⟨r, rfl, hr⟩, hb1⟩
  have hs1 := hb1.size
  have Q1 : Below W0.heap.size W0 w1 := hb1
  have B1 := B0.trans (Q1.mono B0.size)
  have a0 := (Q1.cell (p := ⟨w.heap.size, 0, none⟩) (by show w.heap.size < _; omega)).trans x0
  have a1 := (Q1.cell (p := ⟨w.heap.size, 1, none⟩) (by show w.heap.size < _; omega)).trans x1
  by_cases hneg : r < 0
  · go_wp2_with fail
    go_ret
    exact ⟨rfl, B1⟩
  · skip
    have hsmH : h.Sm := by rcases hr with h | h; exact absurd h (by omega); exact h.2.2
    have hwt : h.wt ≤ 1048576 := by rcases hr with h | h; exact absurd h (by omega); omega
    clear hr
    have hok : h.table.Ok := table_ok (ok_of_hat hN)
    have hgw : h.table.wt ≤ 2097152 := by have := table_wt h; omega
    have hokh : h.Ok := ok_of_hat hN
    have HS0 : ∀ (W : World) (a b : Option Addr) (ca cb lo : Nat), TV W lo h a b → Calls Try.prog 8 #[.agg #[.slice a h.ts.length ca, .slice b h.vs.length cb]] W fun e w' => (∃ pa pn pc ua un uc ss, e = .returned (.tuple #[.agg #[.slice pa pn pc, .slice ua un uc], .agg #[.int .i64 (tabK h.ts.length), .int .i64 (tabI h.ts.length), .string ⟨#[]⟩]]) ∧ OwnH w' W.heap.size h.table ⟨pa, pn, pc⟩ ⟨ua, un, uc⟩ ss) ∧ Below W.heap.size W w' := fun W a b ca cb lo hT => by
      refine (newTable_spec h a b ca cb lo W.heap.size W (Nat.le_refl _) hwt hT.1 hT.2).mono ?_
      rintro e w' ⟨⟨⟨pa, pn, pc⟩, ⟨ua, un, uc⟩, ss, he, hO⟩, hb⟩
      exact ⟨⟨pa, pn, pc, ua, un, uc, ss, he, hO⟩, hb⟩
    have HI0 : ∀ (W : World) (a b : Option Addr) (ca cb lo : Nat), TV W lo h a b → Calls Try.prog 10 #[.agg #[.slice a h.ts.length ca, .slice b h.vs.length cb]] W fun e w' => (∃ pa pn pc ua un uc ss, e = .returned (.tuple #[.agg #[.slice pa pn pc, .slice ua un uc], .agg #[.int .i64 (tabK h.ts.length), .int .i64 (tabI h.ts.length), .string ⟨#[]⟩]]) ∧ OwnH w' W.heap.size h.table ⟨pa, pn, pc⟩ ⟨ua, un, uc⟩ ss) ∧ Below W.heap.size W w' := fun W a b ca cb lo hT => by
      refine (newTable_impl h a b ca cb lo W.heap.size W (Nat.le_refl _) hwt hsmH hT.1 hT.2).mono ?_
      rintro e w' ⟨⟨⟨pa, pn, pc⟩, ⟨ua, un, uc⟩, ss, he, hO⟩, hb⟩
      exact ⟨⟨pa, pn, pc, ua, un, uc, ss, he, hO⟩, hb⟩
    generalize tabK h.ts.length = kk at HS0 HI0
    generalize tabI h.ts.length = nn at HS0 HI0
    generalize h.table = g at HS0 HI0 hok hgw
    have HG : Hid (g.Ok ∧ g.wt ≤ 2097152) := ⟨hok, hgw⟩
    clear hok hgw
    have HS : Hid (∀ (W : World) (a b : Option Addr) (ca cb lo : Nat), TV W lo h a b → Calls Try.prog 8 #[.agg #[.slice a h.ts.length ca, .slice b h.vs.length cb]] W fun e w' => (∃ pa pn pc ua un uc ss, e = .returned (.tuple #[.agg #[.slice pa pn pc, .slice ua un uc], .agg #[.int .i64 kk, .int .i64 nn, .string ⟨#[]⟩]]) ∧ OwnH w' W.heap.size g ⟨pa, pn, pc⟩ ⟨ua, un, uc⟩ ss) ∧ Below W.heap.size W w') := HS0
    have HII : Hid (∀ (W : World) (a b : Option Addr) (ca cb lo : Nat), TV W lo h a b → Calls Try.prog 10 #[.agg #[.slice a h.ts.length ca, .slice b h.vs.length cb]] W fun e w' => (∃ pa pn pc ua un uc ss, e = .returned (.tuple #[.agg #[.slice pa pn pc, .slice ua un uc], .agg #[.int .i64 kk, .int .i64 nn, .string ⟨#[]⟩]]) ∧ OwnH w' W.heap.size g ⟨pa, pn, pc⟩ ⟨ua, un, uc⟩ ss) ∧ Below W.heap.size W w') := HI0
    clear HS0 HI0
    have HTO : Hid (∀ W, Below w1.heap.size w1 W → Calls Try.prog 9 #[.agg #[.slice ha h.ts.length hca, .slice hb0 h.vs.length hcb]] W fun e w' => (∃ b cb d cd, e = .returned (.agg #[.slice b h.ts.length cb, .slice d h.vs.length cd]) ∧ TV w' W.heap.size h b d) ∧ Below W.heap.size W w') := fun W hW => toH_any h _ 0 w.heap.size W ((hN.below B1 (Nat.le_refl _)).below hW (by omega)) (by have := hW.size; omega) hwt
    have HTW : Hid (∀ W, Below w1.heap.size w1 W → Calls Try.prog 9 #[.agg #[.slice ha h.ts.length hca, .slice hb0 h.vs.length hcb]] W fun e w' => (∃ pa pc ua uc ss, e = .returned (.agg #[.slice pa h.ts.length pc, .slice ua h.vs.length uc]) ∧ HLay w' W.heap.size w'.heap.size ⟨pa, h.ts.length, pc⟩ ⟨ua, h.vs.length, uc⟩ ss h.xss (flatV h.vs)) ∧ Below W.heap.size W w') := fun W hW => by
      refine (toH_own h _ 0 w.heap.size W ((hN.below B1 (Nat.le_refl _)).below hW (by omega)) (by have := hW.size; omega) hwt).mono ?_
      rintro e w' ⟨⟨⟨pa, pn, pc⟩, ⟨ua, un, uc⟩, ss, he, h1, h2, hL⟩, hb⟩
      dsimp only at h1 h2
      subst h1
      subst h2
      exact ⟨⟨pa, pc, ua, uc, ss, he, hL⟩, hb⟩
    have HB2 : Hid (Below w.heap.size w w1) := B1
    have KEEP : Hid (∀ W' : World, Below w1.heap.size w1 W' → (fun w' => Below w1.heap.size w1 w' ∧ w'.cell? ⟨w.heap.size, 0, none⟩ = some (.slice ha h.ts.length hca) ∧ w'.cell? ⟨w.heap.size, 1, none⟩ = some (.slice hb0 h.vs.length hcb)) W') := fun W' hB => ⟨hB, (hB.cell (p := ⟨w.heap.size, 0, none⟩) (by show w.heap.size < _; omega)).trans a0, (hB.cell (p := ⟨w.heap.size, 1, none⟩) (by show w.heap.size < _; omega)).trans a1⟩
    have hq0 : Below w1.heap.size w1 w1.drew := (Below.refl _ _).drew
    clear hN B1 Q1 B0 x0 x1 hb1
    have zw : w.heap.size < w1.heap.size := by omega
    go_wp2_with fail
    refine (HTO.out _ (Below.refl _ _)).mono ?_
    rintro e wR ⟨⟨tb, tcb, vd, vcd, rfl, hTn⟩, hbR⟩
    clear a0 a1 hq0
    go_wp2_with fail
    refine (HS.out wR _ _ _ _ _ hTn).mono ?_
    rintro e wS ⟨⟨ea, en, ec, fa, fn, fc, ss0, rfl, hOw⟩, hbS⟩
    have hqS : Below w1.heap.size w1 wS := hbR.trans (hbS.mono hbR.size)
    obtain ⟨wA, hwA⟩ : ∃ x, x = (wS.alloc (Obj.cells #[.slice ea en ec, .slice fa fn fc] 30)).alloc (Obj.cells #[.int .i64 kk, .int .i64 nn, .string ⟨#[]⟩] 32) := ⟨_, rfl⟩
    obtain ⟨K0, V0, hbA⟩ : Keep wA wS.heap.size w1.heap.size wA.heap.size g ⟨ea, en, ec⟩ ⟨fa, fn, fc⟩ ss0 ∧ VV wA (wS.heap.size + 1) kk nn ∧ Below wS.heap.size wS wA := by rw [hwA]; exact two_vars hOw hbR.size hqS.size
    have HwA : Hid (wA = (wS.alloc (Obj.cells #[.slice ea en ec, .slice fa fn fc] 30)).alloc (Obj.cells #[.int .i64 kk, .int .i64 nn, .string ⟨#[]⟩] 32)) := hwA
    have hqA : Below w1.heap.size w1 wA := hqS.trans (hbA.mono hqS.size)
    have q0 := (KEEP.out _ hqS).2.1
    have q1 := (KEEP.out _ hqS).2.2
    have hzS := hqS.size
    have qq : ∀ (O P : Obj) (j : Nat), (((wS.alloc O).alloc P)).cell? ⟨w.heap.size, j, none⟩ = wS.cell? ⟨w.heap.size, j, none⟩ := fun O P j => ((bel_alloc wS O).trans ((bel_alloc _ P).mono (by simp))).cell (p := ⟨w.heap.size, j, none⟩) (by show w.heap.size < _; omega)
    clear hwA hTn hOw hbR hbS hbA HS
    go_wp2_with fail
    rw [← HwA.out]
    refine (HTW.out _ hqA).mono ?_
    rintro e w5 ⟨⟨xa, xc, ya, yc, ss1, rfl, hL1⟩, hb5⟩
    clear q0 q1 qq HwA
    have HX : Hid (∀ W6 : World, W6 = w5.alloc (Obj.cells #[.slice xa h.ts.length xc, .slice ya h.vs.length yc] 30) → Keep W6 w5.heap.size wA.heap.size W6.heap.size h ⟨xa, h.ts.length, xc⟩ ⟨ya, h.vs.length, yc⟩ ss1 ∧ Keep W6 wS.heap.size w1.heap.size wA.heap.size g ⟨ea, en, ec⟩ ⟨fa, fn, fc⟩ ss0 ∧ VV W6 (wS.heap.size + 1) kk nn ∧ Below wA.heap.size wA W6) := fun W6 hW6 => by
      subst hW6
      have ha := bel_alloc w5 (Obj.cells #[.slice xa h.ts.length xc, .slice ya h.vs.length yc] 30)
      have hb6 : Below wA.heap.size wA (w5.alloc (Obj.cells #[.slice xa h.ts.length xc, .slice ya h.vs.length yc] 30)) := hb5.trans (ha.mono hb5.size)
      exact ⟨⟨heap_alloc_new _ _, hb5.size, by simp, Nat.le_refl _, (hL1.below ha).wide (Nat.le_refl _) (by simp)⟩, K0.below hb6, V0.below hb6, hb6⟩
    have hc6 := V0.lt
    clear hL1 K0 V0
    go_wp2_with fail
    obtain ⟨W6, hW6⟩ : ∃ W6, W6 = w5.alloc (Obj.cells #[.slice xa h.ts.length xc, .slice ya h.vs.length yc] 30) := ⟨_, rfl⟩
    obtain ⟨K1, K0, V0, hb6⟩ := HX.out W6 hW6
    rw [← hW6]
    clear hW6 HX
    have Q6 : Below w1.heap.size w1 W6 := hqA.trans (hb6.mono hqA.size)
    have z6 := hb6.size
    have zA := hqA.size
    clear hb5
    have hTV : TV W6 wA.heap.size h xa ya := tv_of_lay K1.lay hokh K1.hiw hwt
    have HK1 : Hid (Keep W6 w5.heap.size wA.heap.size W6.heap.size h ⟨xa, h.ts.length, xc⟩ ⟨ya, h.vs.length, yc⟩ ss1) := K1
    have HK0 : Hid (Keep W6 wS.heap.size w1.heap.size wA.heap.size g ⟨ea, en, ec⟩ ⟨fa, fn, fc⟩ ss0) := K0
    have HV0 : Hid (VV W6 (wS.heap.size + 1) kk nn) := V0
    clear K1 K0 V0
    refine (HII.out W6 _ _ _ _ _ hTV).mono ?_
    rintro e wT ⟨⟨ga, gn, gc, ka, kn, kc, ss2, rfl, hOw⟩, hqT⟩
    obtain ⟨wB, hwB⟩ : ∃ x, x = (wT.alloc (Obj.cells #[.slice ga gn gc, .slice ka kn kc] 30)).alloc (Obj.cells #[.int .i64 kk, .int .i64 nn, .string ⟨#[]⟩] 32) := ⟨_, rfl⟩
    obtain ⟨K2, V2, hbB⟩ : Keep wB wT.heap.size W6.heap.size wB.heap.size g ⟨ga, gn, gc⟩ ⟨ka, kn, kc⟩ ss2 ∧ VV wB (wT.heap.size + 1) kk nn ∧ Below wT.heap.size wT wB := by rw [hwB]; exact two_vars hOw (Nat.le_refl _) hqT.size
    have HwB : Hid (wB = (wT.alloc (Obj.cells #[.slice ga gn gc, .slice ka kn kc] 30)).alloc (Obj.cells #[.int .i64 kk, .int .i64 nn, .string ⟨#[]⟩] 32)) := hwB
    have hqB : Below W6.heap.size W6 wB := hqT.trans (hbB.mono hqT.size)
    have hlo9 : W6.heap.size ≤ wT.heap.size + 1 := Nat.le_succ_of_le hqT.size
    have zT := hqT.size
    have KT0 := HK0.out.below hqT
    have z0 := cell_of_row _ _ 0 _ _ _ KT0.var
    have z1 := cell_of_row _ _ 1 _ _ _ KT0.var
    simp only [List.getElem?_toArray, List.getElem?_cons_zero, List.getElem?_cons_succ, Sl.v] at z0 z1
    have zS := KT0.hib
    have qq : ∀ (O P : Obj) (j : Nat), (((wT.alloc O).alloc P)).cell? ⟨wS.heap.size, j, none⟩ = wT.cell? ⟨wS.heap.size, j, none⟩ := fun O P j => ((bel_alloc wT O).trans ((bel_alloc _ P).mono (by simp))).cell (p := ⟨wS.heap.size, j, none⟩) (by show wS.heap.size < _; omega)
    have K1 := HK1.out.below hqB
    have K0 := HK0.out.below hqB
    have V0 := HV0.out.below hqB
    clear hwB hOw hTV HK1 HK0 HV0 KT0 hbB
    have QB : Below w1.heap.size w1 wB := Q6.trans (hqB.mono Q6.size)
    have zB := hqB.size
    have HE : Hid (Calls Try.prog 11 #[.agg #[.slice ga gn gc, .slice ka kn kc], .agg #[.slice ea en ec, .slice fa fn fc]] wB fun e w' => e = .returned (.bool true) ∧ Below wB.heap.size wB w') := by have q := eqK_same K2 K0 HG.out.1 HG.out.2; dsimp only [Sl.v] at q; exact q
    have HK0 : Hid (Keep wB wS.heap.size w1.heap.size wA.heap.size g ⟨ea, en, ec⟩ ⟨fa, fn, fc⟩ ss0) := K0
    have HK1 : Hid (Keep wB w5.heap.size wA.heap.size W6.heap.size h ⟨xa, h.ts.length, xc⟩ ⟨ya, h.vs.length, yc⟩ ss1) := K1
    have HK2 : Hid (Keep wB wT.heap.size W6.heap.size wB.heap.size g ⟨ga, gn, gc⟩ ⟨ka, kn, kc⟩ ss2) := K2
    have HV0 : Hid (VV wB (wS.heap.size + 1) kk nn) := V0
    have HV2 : Hid (VV wB (wT.heap.size + 1) kk nn) := V2
    clear K0 K1 K2 V0 V2
    go_wp2_with fail
    rw [← HwB.out]
    refine HE.out.mono ?_
    rintro e wC0 ⟨rfl, hwC0⟩
    have K0 := HK0.out.below hwC0
    have K1 := HK1.out.below hwC0
    have K2 := HK2.out.below hwC0
    have V0 := HV0.out.below hwC0
    have V2 := HV2.out.below hwC0
    clear z0 z1 qq HE HwB HK0 HK1 HK2 HV0 HV2
    have v0 := cell_of_row _ _ 0 _ _ _ (VV.row V2)
    have v1 := cell_of_row _ _ 1 _ _ _ (VV.row V2)
    have v2 := cell_of_row _ _ 2 _ _ _ (VV.row V2)
    have z0 := cell_of_row _ _ 0 _ _ _ (VV.row V0)
    have z1 := cell_of_row _ _ 1 _ _ _ (VV.row V0)
    have z2 := cell_of_row _ _ 2 _ _ _ (VV.row V0)
    simp only [List.getElem?_toArray, List.getElem?_cons_zero, List.getElem?_cons_succ] at v0 v1 v2 z0 z1 z2
    have HK0 : Hid (Keep wC0 wS.heap.size w1.heap.size wA.heap.size g ⟨ea, en, ec⟩ ⟨fa, fn, fc⟩ ss0) := K0
    have HK1 : Hid (Keep wC0 w5.heap.size wA.heap.size W6.heap.size h ⟨xa, h.ts.length, xc⟩ ⟨ya, h.vs.length, yc⟩ ss1) := K1
    have HK2 : Hid (Keep wC0 wT.heap.size W6.heap.size wB.heap.size g ⟨ga, gn, gc⟩ ⟨ka, kn, kc⟩ ss2) := K2
    have HV0 : Hid (VV wC0 (wS.heap.size + 1) kk nn) := V0
    have HV2 : Hid (VV wC0 (wT.heap.size + 1) kk nn) := V2
    clear K0 K1 K2 V0 V2
    go_wp2_with fail
    refine (eqV_same kk nn ⟨#[]⟩ _).mono ?_
    rintro e wC ⟨rfl, hwC⟩
    have K0 := HK0.out.below hwC
    have K1 := HK1.out.below hwC
    have K2 := HK2.out.below hwC
    have V0 := HV0.out.below hwC
    have V2 := HV2.out.below hwC
    clear v0 v1 v2 z0 z1 z2 HK0 HK1 HK2 HV0 HV2
    have QC : Below w1.heap.size w1 wC := QB.trans ((hwC0.trans (hwC.mono hwC0.size)).mono QB.size)
    have HEQ : Hid (∀ (W W' : World) (b : Option Addr) (cb : Nat) (d : Option Addr) (cd : Nat), Below wC.heap.size wC W → TV W' W.heap.size h b d → Below W.heap.size W W' → Calls Try.prog 11 #[.agg #[.slice xa h.ts.length xc, .slice ya h.vs.length yc], .agg #[.slice b h.ts.length cb, .slice d h.vs.length cd]] W' fun e w' => e = .returned (.bool true) ∧ Below W'.heap.size W' w') := fun W W' b cb d cd h1 h2 h3 => by
      have q := K1.below (h1.trans (h3.mono h1.size))
      have hlen := len_wtT h.ts
      unfold Hp.wt at hwt
      exact eqH_same h [.slice xa h.ts.length xc, .slice ya h.vs.length yc] [.slice b h.ts.length cb, .slice d h.vs.length cd] _ _ W.heap.size W'.heap.size W' (q.hat hokh (by unfold Hp.wt; omega)) ⟨b, cb, d, cd, rfl, by unfold maxLen; omega, by unfold maxLen; omega, h2.1, h2.2⟩ q.hiw (Nat.le_refl _) (by unfold Hp.wt; omega)
    have HTO9 : Hid (∀ W, Below wC.heap.size wC W → Calls Try.prog 9 #[.agg #[.slice ha h.ts.length hca, .slice hb0 h.vs.length hcb]] W fun e w' => (∃ b cb d cd, e = .returned (.agg #[.slice b h.ts.length cb, .slice d h.vs.length cd]) ∧ TV w' W.heap.size h b d) ∧ Below W.heap.size W w') := fun W hW => HTO.out W (QC.trans (hW.mono QC.size))
    have HK0 : Hid (Keep wC wS.heap.size w1.heap.size wA.heap.size g ⟨ea, en, ec⟩ ⟨fa, fn, fc⟩ ss0) := K0
    have HK1 : Hid (Keep wC w5.heap.size wA.heap.size W6.heap.size h ⟨xa, h.ts.length, xc⟩ ⟨ya, h.vs.length, yc⟩ ss1) := K1
    have HK2 : Hid (Keep wC wT.heap.size W6.heap.size wB.heap.size g ⟨ga, gn, gc⟩ ⟨ka, kn, kc⟩ ss2) := K2
    have HV0 : Hid (VV wC (wS.heap.size + 1) kk nn) := V0
    have HV2 : Hid (VV wC (wT.heap.size + 1) kk nn) := V2
    clear K0 K1 K2 V0 V2
    have KEEP9 : Hid (∀ W' : World, Below wC.heap.size wC W' → (fun w' => Below wC.heap.size wC w' ∧ w'.cell? ⟨w5.heap.size, 0, none⟩ = some (.slice xa h.ts.length xc) ∧ w'.cell? ⟨w5.heap.size, 1, none⟩ = some (.slice ya h.vs.length yc) ∧ w'.cell? ⟨w.heap.size, 0, none⟩ = some (.slice ha h.ts.length hca) ∧ w'.cell? ⟨w.heap.size, 1, none⟩ = some (.slice hb0 h.vs.length hcb)) W') := fun W' hB => ⟨hB, cell_of_row _ _ 0 _ _ _ (HK1.out.below hB).var, cell_of_row _ _ 1 _ _ _ (HK1.out.below hB).var, (KEEP.out _ (QC.trans (hB.mono QC.size))).2.1, (KEEP.out _ (QC.trans (hB.mono QC.size))).2.2⟩
    have hq0 : Below wC.heap.size wC wC.drew := (Below.refl _ _).drew
    go_wp2_with fail
    go_region_held3 (fun w' => Below wC.heap.size wC w' ∧ w'.cell? ⟨w5.heap.size, 0, none⟩ = some (.slice xa h.ts.length xc) ∧ w'.cell? ⟨w5.heap.size, 1, none⟩ = some (.slice ya h.vs.length yc) ∧ w'.cell? ⟨w.heap.size, 0, none⟩ = some (.slice ha h.ts.length hca) ∧ w'.cell? ⟨w.heap.size, 1, none⟩ = some (.slice hb0 h.vs.length hcb)) (first | (with_reducible assumption) | exact KEEP9.out _ (by with_reducible assumption)) (first | (go_at_call 9; refine (HTO9.out _ (bel_of (by assumption))).mono ?_; rintro e w' ⟨⟨tb2, tcb2, vd2, vcd2, rfl, hTn⟩, hb'⟩; have hq' := bel_step (by assumption) hb') | (go_at_call 11; refine (HEQ.out _ _ _ _ _ _ (Below.refl _ _).drew hTn hb').mono ?_; rintro e wD ⟨rfl, hb''⟩; have hqD := bel_step (by assumption) hb''))
    clear KEEP9 HTO9 HEQ hq0
    have K0 := HK0.out.below hqD
    have K1 := HK1.out.below hqD
    have K2 := HK2.out.below hqD
    have V0 := HV0.out.below hqD
    have V2 := HV2.out.below hqD
    clear HK0 HK1 HK2 HV0 HV2
    have QD : Below w1.heap.size w1 wD := QC.trans (hqD.mono QC.size)
    have x0 := cell_of_row _ _ 0 _ _ _ K1.var
    have x1 := cell_of_row _ _ 1 _ _ _ K1.var
    simp only [List.getElem?_toArray, List.getElem?_cons_zero, List.getElem?_cons_succ, Sl.v] at x0 x1
    have zD : W6.heap.size ≤ wD.heap.size := K1.hiw
    have HM : Hid (Calls Try.prog 13 #[.agg #[.slice xa h.ts.length xc, .slice ya h.vs.length yc], .int .i64 1] wD fun e w' => e = .returned (.int .i64 ((markN 1 ss1 ⟨ya, h.vs.length, yc⟩ : Nat) : Int)) ∧ Out wD w' wA.heap.size W6.heap.size) := by have q := markK_any K1 (by omega); dsimp only [Sl.v] at q; exact q.mono fun e w' hx => ⟨hx.1, hx.2.2.1⟩
    generalize markN 1 ss1 ⟨ya, h.vs.length, yc⟩ = m1 at HM
    clear K1
    have HK0 : Hid (Keep wD wS.heap.size w1.heap.size wA.heap.size g ⟨ea, en, ec⟩ ⟨fa, fn, fc⟩ ss0) := K0
    have HK2 : Hid (Keep wD wT.heap.size W6.heap.size wB.heap.size g ⟨ga, gn, gc⟩ ⟨ka, kn, kc⟩ ss2) := K2
    have HV0 : Hid (VV wD (wS.heap.size + 1) kk nn) := V0
    have HV2 : Hid (VV wD (wT.heap.size + 1) kk nn) := V2
    clear K0 K2 V0 V2
    go_wp2_with fail
    refine HM.out.mono ?_
    rintro e wE ⟨rfl, hoE⟩
    have K0 := HK0.out.out hoE (.inl (Nat.le_refl _))
    have K2 := HK2.out.out hoE (.inr (Nat.le_refl _))
    have V0 := HV0.out.out hoE (.inl hc6)
    have V2 := HV2.out.out hoE (.inr hlo9)
    have QE : Below w1.heap.size w1 wE := QD.trans ((hoE.below (by omega)).mono zA)
    clear HM HK0 HK2 HV0 HV2 x0 x1 hoE
    have hm1 : ¬ ((m1 : Int) < 0) := by omega
    have v0 := cell_of_row _ _ 0 _ _ _ K2.var
    have v1 := cell_of_row _ _ 1 _ _ _ K2.var
    simp only [List.getElem?_toArray, List.getElem?_cons_zero, List.getElem?_cons_succ, Sl.v] at v0 v1
    have z0 := cell_of_row _ _ 0 _ _ _ K0.var
    have z1 := cell_of_row _ _ 1 _ _ _ K0.var
    simp only [List.getElem?_toArray, List.getElem?_cons_zero, List.getElem?_cons_succ, Sl.v] at z0 z1
    have HE : Hid (Calls Try.prog 11 #[.agg #[.slice ga gn gc, .slice ka kn kc], .agg #[.slice ea en ec, .slice fa fn fc]] wE fun e w' => e = .returned (.bool true) ∧ Below wE.heap.size wE w') := by have q := eqK_same K2 K0 HG.out.1 HG.out.2; dsimp only [Sl.v] at q; exact q
    have HK0 : Hid (Keep wE wS.heap.size w1.heap.size wA.heap.size g ⟨ea, en, ec⟩ ⟨fa, fn, fc⟩ ss0) := K0
    have HK2 : Hid (Keep wE wT.heap.size W6.heap.size wB.heap.size g ⟨ga, gn, gc⟩ ⟨ka, kn, kc⟩ ss2) := K2
    have HV0 : Hid (VV wE (wS.heap.size + 1) kk nn) := V0
    have HV2 : Hid (VV wE (wT.heap.size + 1) kk nn) := V2
    clear K0 K2 V0 V2
    go_wp2_with fail
    refine HE.out.mono ?_
    rintro e wF0 ⟨rfl, hwF0⟩
    have K0 := HK0.out.below hwF0
    have K2 := HK2.out.below hwF0
    have V0 := HV0.out.below hwF0
    have V2 := HV2.out.below hwF0
    clear v0 v1 z0 z1 HE HK0 HK2 HV0 HV2
    have v0 := cell_of_row _ _ 0 _ _ _ (VV.row V2)
    have v1 := cell_of_row _ _ 1 _ _ _ (VV.row V2)
    have v2 := cell_of_row _ _ 2 _ _ _ (VV.row V2)
    have z0 := cell_of_row _ _ 0 _ _ _ (VV.row V0)
    have z1 := cell_of_row _ _ 1 _ _ _ (VV.row V0)
    have z2 := cell_of_row _ _ 2 _ _ _ (VV.row V0)
    simp only [List.getElem?_toArray, List.getElem?_cons_zero, List.getElem?_cons_succ] at v0 v1 v2 z0 z1 z2
    have HK0 : Hid (Keep wF0 wS.heap.size w1.heap.size wA.heap.size g ⟨ea, en, ec⟩ ⟨fa, fn, fc⟩ ss0) := K0
    have HK2 : Hid (Keep wF0 wT.heap.size W6.heap.size wB.heap.size g ⟨ga, gn, gc⟩ ⟨ka, kn, kc⟩ ss2) := K2
    have HV0 : Hid (VV wF0 (wS.heap.size + 1) kk nn) := V0
    have HV2 : Hid (VV wF0 (wT.heap.size + 1) kk nn) := V2
    clear K0 K2 V0 V2
    go_wp2_with fail
    refine (eqV_same kk nn ⟨#[]⟩ _).mono ?_
    rintro e wF ⟨rfl, hwF⟩
    have K0 := HK0.out.below hwF
    have K2 := HK2.out.below hwF
    have V0 := HV0.out.below hwF
    have V2 := HV2.out.below hwF
    clear v0 v1 v2 z0 z1 z2 HK0 HK2 HV0 HV2
    have QF : Below w1.heap.size w1 wF := QE.trans ((hwF0.trans (hwF.mono hwF0.size)).mono QE.size)
    clear V2
    have v0 := cell_of_row _ _ 0 _ _ _ K2.var
    have v1 := cell_of_row _ _ 1 _ _ _ K2.var
    simp only [List.getElem?_toArray, List.getElem?_cons_zero, List.getElem?_cons_succ, Sl.v] at v0 v1
    have HM : Hid (Calls Try.prog 13 #[.agg #[.slice ga gn gc, .slice ka kn kc], .int .i64 1] wF fun e w' => e = .returned (.int .i64 ((markN 1 ss2 ⟨ka, kn, kc⟩ : Nat) : Int)) ∧ Marked w' wT.heap.size W6.heap.size wB.heap.size ⟨ga, gn, gc⟩ ⟨ka, kn, kc⟩ ss2 ∧ Out wF w' W6.heap.size wB.heap.size) := by have q := markK_any K2 HG.out.2; dsimp only [Sl.v] at q; exact q.mono fun e w' hx => ⟨hx.1, hx.2.1, hx.2.2.1⟩
    have zF : wB.heap.size ≤ wF.heap.size := K2.hiw
    have HMM : Hid (∀ W : World, Marked W wT.heap.size W6.heap.size wB.heap.size ⟨ga, gn, gc⟩ ⟨ka, kn, kc⟩ ss2 → Calls Try.prog 14 #[.agg #[.slice ga gn gc, .slice ka kn kc], .int .i64 1] W fun e w' => e = .returned (.int .i64 ((markN 1 ss2 ⟨ka, kn, kc⟩ : Nat) : Int)) ∧ Below W.heap.size W w') := fun W hW => by have q := heldK_any hW; dsimp only [Sl.v] at q; exact q
    generalize markN 1 ss2 ⟨ka, kn, kc⟩ = m2 at HM HMM
    clear K2
    have HK0 : Hid (Keep wF wS.heap.size w1.heap.size wA.heap.size g ⟨ea, en, ec⟩ ⟨fa, fn, fc⟩ ss0) := K0
    have HV0 : Hid (VV wF (wS.heap.size + 1) kk nn) := V0
    clear K0 V0
    go_wp2_with fail
    refine HM.out.mono ?_
    rintro e wG ⟨rfl, M2, hoG⟩
    have K0 := HK0.out.out hoG (.inl z6)
    have V0 := HV0.out.out hoG (.inl (by omega))
    have QG : Below w1.heap.size w1 wG := QF.trans ((hoG.below (by omega)).mono (Nat.le_trans zA z6))
    clear HM HK0 HV0 v0 v1 hoG
    have hm2 : ¬ ((m2 : Int) < 0) := by omega
    have v0 := cell_of_row _ _ 0 _ _ _ M2.var
    have v1 := cell_of_row _ _ 1 _ _ _ M2.var
    simp only [List.getElem?_toArray, List.getElem?_cons_zero, List.getElem?_cons_succ, Sl.v] at v0 v1
    have HK0 : Hid (Keep wG wS.heap.size w1.heap.size wA.heap.size g ⟨ea, en, ec⟩ ⟨fa, fn, fc⟩ ss0) := K0
    have HM2 : Hid (Marked wG wT.heap.size W6.heap.size wB.heap.size ⟨ga, gn, gc⟩ ⟨ka, kn, kc⟩ ss2) := M2
    have HV0 : Hid (VV wG (wS.heap.size + 1) kk nn) := V0
    clear K0 M2 V0
    go_wp2_with fail
    refine (HMM.out _ HM2.out).mono ?_
    rintro e wH ⟨rfl, hwH⟩
    have K0 := HK0.out.below hwH
    have M2 := HM2.out.below hwH
    have V0 := HV0.out.below hwH
    clear HK0 HM2 HV0 v0 v1
    have QH : Below w1.heap.size w1 wH := QG.trans (hwH.mono QG.size)
    have HK0 : Hid (Keep wH wS.heap.size w1.heap.size wA.heap.size g ⟨ea, en, ec⟩ ⟨fa, fn, fc⟩ ss0) := K0
    have HM2 : Hid (Marked wH wT.heap.size W6.heap.size wB.heap.size ⟨ga, gn, gc⟩ ⟨ka, kn, kc⟩ ss2) := M2
    have HV0 : Hid (VV wH (wS.heap.size + 1) kk nn) := V0
    clear K0 M2 V0
    have HTO7 : Hid (∀ W, Below wH.heap.size wH W → Calls Try.prog 9 #[.agg #[.slice ha h.ts.length hca, .slice hb0 h.vs.length hcb]] W fun e w' => (∃ b cb d cd, e = .returned (.agg #[.slice b h.ts.length cb, .slice d h.vs.length cd]) ∧ TV w' W.heap.size h b d) ∧ Below W.heap.size W w') := fun W hW => HTO.out W (QH.trans (hW.mono QH.size))
    have q0 := (KEEP.out _ QH).2.1
    have q1 := (KEEP.out _ QH).2.2
    go_wp2_with fail
    refine (HTO7.out _ (Below.refl _ _)).mono ?_
    rintro e wR2 ⟨⟨tb2, tcb2, vd2, vcd2, rfl, hTn⟩, hbR⟩
    clear q0 q1 HTO7
    go_wp2_with fail
    refine (HII.out wR2 _ _ _ _ _ hTn).mono ?_
    rintro e wU ⟨⟨ia, im, ic, ja, jn, jc, ss3, rfl, hOw⟩, hbU⟩
    have hqU : Below wH.heap.size wH wU := hbR.trans (hbU.mono hbR.size)
    obtain ⟨wI, hwI⟩ : ∃ x, x = (wU.alloc (Obj.cells #[.slice ia im ic, .slice ja jn jc] 30)).alloc (Obj.cells #[.int .i64 kk, .int .i64 nn, .string ⟨#[]⟩] 32) := ⟨_, rfl⟩
    obtain ⟨K3, V3, hbI⟩ : Keep wI wU.heap.size wH.heap.size wI.heap.size g ⟨ia, im, ic⟩ ⟨ja, jn, jc⟩ ss3 ∧ VV wI (wU.heap.size + 1) kk nn ∧ Below wU.heap.size wU wI := by rw [hwI]; exact two_vars hOw hbR.size hqU.size
    have HwI : Hid (wI = (wU.alloc (Obj.cells #[.slice ia im ic, .slice ja jn jc] 30)).alloc (Obj.cells #[.int .i64 kk, .int .i64 nn, .string ⟨#[]⟩] 32)) := hwI
    have hqI : Below wH.heap.size wH wI := hqU.trans (hbI.mono hqU.size)
    have KT0 := HK0.out.below hqU
    have z0 := cell_of_row _ _ 0 _ _ _ KT0.var
    have z1 := cell_of_row _ _ 1 _ _ _ KT0.var
    simp only [List.getElem?_toArray, List.getElem?_cons_zero, List.getElem?_cons_succ, Sl.v] at z0 z1
    have zU := KT0.hiw
    have qq : ∀ (O P : Obj) (j : Nat), (((wU.alloc O).alloc P)).cell? ⟨wS.heap.size, j, none⟩ = wU.cell? ⟨wS.heap.size, j, none⟩ := fun O P j => ((bel_alloc wU O).trans ((bel_alloc _ P).mono (by simp))).cell (p := ⟨wS.heap.size, j, none⟩) (by show wS.heap.size < _; omega)
    have K0 := HK0.out.below hqI
    have M2 := HM2.out.below hqI
    have V0 := HV0.out.below hqI
    clear hwI hOw hTn HK0 HM2 HV0 KT0 hbI
    have QI : Below w1.heap.size w1 wI := QH.trans (hqI.mono QH.size)
    have HE : Hid (Calls Try.prog 11 #[.agg #[.slice ia im ic, .slice ja jn jc], .agg #[.slice ea en ec, .slice fa fn fc]] wI fun e w' => e = .returned (.bool true) ∧ Below wI.heap.size wI w') := by have q := eqK_same K3 K0 HG.out.1 HG.out.2; dsimp only [Sl.v] at q; exact q
    clear K3 K0
    have HM2 : Hid (Marked wI wT.heap.size W6.heap.size wB.heap.size ⟨ga, gn, gc⟩ ⟨ka, kn, kc⟩ ss2) := M2
    have HV0 : Hid (VV wI (wS.heap.size + 1) kk nn) := V0
    have HV3 : Hid (VV wI (wU.heap.size + 1) kk nn) := V3
    clear M2 V0 V3
    go_wp2_with fail
    rw [← HwI.out]
    refine HE.out.mono ?_
    rintro e wJ0 ⟨rfl, hwJ0⟩
    have M2 := HM2.out.below hwJ0
    have V0 := HV0.out.below hwJ0
    have V3 := HV3.out.below hwJ0
    clear z0 z1 qq HwI HE HM2 HV0 HV3
    have v0 := cell_of_row _ _ 0 _ _ _ (VV.row V3)
    have v1 := cell_of_row _ _ 1 _ _ _ (VV.row V3)
    have v2 := cell_of_row _ _ 2 _ _ _ (VV.row V3)
    have z0 := cell_of_row _ _ 0 _ _ _ (VV.row V0)
    have z1 := cell_of_row _ _ 1 _ _ _ (VV.row V0)
    have z2 := cell_of_row _ _ 2 _ _ _ (VV.row V0)
    simp only [List.getElem?_toArray, List.getElem?_cons_zero, List.getElem?_cons_succ] at v0 v1 v2 z0 z1 z2
    have HM2 : Hid (Marked wJ0 wT.heap.size W6.heap.size wB.heap.size ⟨ga, gn, gc⟩ ⟨ka, kn, kc⟩ ss2) := M2
    have HV0 : Hid (VV wJ0 (wS.heap.size + 1) kk nn) := V0
    have HV3 : Hid (VV wJ0 (wU.heap.size + 1) kk nn) := V3
    clear M2 V0 V3
    go_wp2_with fail
    refine (eqV_same kk nn ⟨#[]⟩ _).mono ?_
    rintro e wJ ⟨rfl, hwJ⟩
    have M2 := HM2.out.below hwJ
    have V0 := HV0.out.below hwJ
    have V3 := HV3.out.below hwJ
    clear v0 v1 v2 z0 z1 z2 HM2 HV0 HV3
    have hwJ := hwJ0.trans (hwJ.mono hwJ0.size)
    clear V0 V3
    have v0 := cell_of_row _ _ 0 _ _ _ M2.var
    have v1 := cell_of_row _ _ 1 _ _ _ M2.var
    simp only [List.getElem?_toArray, List.getElem?_cons_zero, List.getElem?_cons_succ, Sl.v] at v0 v1
    have HM2 : Hid (Marked wJ wT.heap.size W6.heap.size wB.heap.size ⟨ga, gn, gc⟩ ⟨ka, kn, kc⟩ ss2) := M2
    clear M2
    go_wp2_with fail
    refine (HMM.out _ HM2.out).mono ?_
    rintro e wK ⟨rfl, hwK⟩
    have QJ : Below w1.heap.size w1 wJ := QI.trans (hwJ.mono QI.size)
    have BK : Below w.heap.size w wK := HB2.out.trans ((QJ.trans (hwK.mono QJ.size)).mono HB2.out.size)
    go_wp2_with fail
    go_ret
    exact ⟨rfl, BK⟩
end Go.Proofs.Ytjeoeijbgkfpjaa
