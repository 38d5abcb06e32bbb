/- The walk of FnExactNewCell: it returns true. -/
import Derived.Test.YtjeoeijbgkfpjaaNewF
namespace Go.Proofs.Ytjeoeijbgkfpjaa
open Go.RowKit

theorem tv_of_lay {w : World} {lo hi : Nat} {sp cl : Sl} {ss : List Sl} {h : Hp} (hL : HLay w lo hi sp cl ss h.xss (flatV h.vs)) (hok : h.Ok) (hh : hi ≤ w.heap.size) (hw : h.wt ≤ 1048576) : TV w lo h sp.a cl.a := by
  have hl := len_wtT h.ts
  unfold Hp.wt at hw
  obtain ⟨a, ca, b, cb, e, _, _, hT, hV⟩ := hat_of_lay hL hok (by unfold maxLen; omega) (by unfold maxLen; omega)
  simp only [Sl.v, List.cons.injEq, Value.slice.injEq, and_true] at e
  obtain ⟨⟨e1, _⟩, ⟨e2, _⟩⟩ := e
  rw [e1, e2]
  exact ⟨hT.later (Nat.le_refl _) hh fun _ _ _ => rfl, hV.later (Nat.le_refl _) hh fun _ _ _ => rfl⟩
theorem bel_s2 {W0 W : World} {b i j : Nat} {x y : Value} (h : Below W0.heap.size W0 W) (hb : W0.heap.size ≤ b) : Below W0.heap.size W0 ((W.setCell ⟨b, i, none⟩ x).setCell ⟨b, j, none⟩ y) := (h.setCell hb _).setCell hb _
set_option maxRecDepth 100000 in
set_option maxHeartbeats 3200000 in
theorem exact_newCell (h : Hp) (v : List Value) (k n : Int) (s : ByteArray) (w : World) (hN : HAt w 0 w.heap.size h v) (hv : ValOk k n s) :
    Calls Try.prog 4 #[.agg v.toArray, .agg #[.int .i64 k, .int .i64 n, .string s]] w fun e w' => e = .returned (.bool true) ∧ Below w.heap.size w w' := by
  have hN' := hN
  obtain ⟨ha, hca, hb0, hcb, rfl, _⟩ := hN'
  obtain ⟨W0, hW0⟩ : ∃ W0, W0 = (w.alloc (Obj.cells #[.slice ha h.ts.length hca, .slice hb0 h.vs.length hcb] 25)).alloc (Obj.cells #[.int .i64 k, .int .i64 n, .string s] 40) := ⟨_, rfl⟩
  obtain ⟨rA, rB, hs0, B0⟩ := rows2 w (Obj.cells #[.slice ha h.ts.length hca, .slice hb0 h.vs.length hcb] 25) (Obj.cells #[.int .i64 k, .int .i64 n, .string s] 40)
  rw [← hW0] at rA rB hs0 B0
  have x0 := cell_of_row _ _ 0 _ _ _ rA
  have x1 := cell_of_row _ _ 1 _ _ _ rA
  have y0 := cell_of_row _ _ 0 _ _ _ rB
  have y1 := cell_of_row _ _ 1 _ _ _ rB
  have y2 := cell_of_row _ _ 2 _ _ _ rB
  simp only [List.getElem?_toArray, List.getElem?_cons_zero, List.getElem?_cons_succ] at x0 x1 y0 y1 y2
  clear rA rB
  go_enter Try.func4, Try.ntmps4
  go_wp2_with fail
  rw [← hW0]
  clear hW0
  refine (szH_any h [.slice ha h.ts.length hca, .slice hb0 h.vs.length hcb] 0 w.heap.size 1048576 W0 (by omega) (hN.below B0 (Nat.le_refl _)) (by decide) (by decide)).mono ?_
  rintro e w1 ⟨⟨r, rfl, hr⟩, hb1⟩
  have hs1 := hb1.size
  have Q1 : Below W0.heap.size W0 w1 := hb1
  have B1 := B0.trans (Q1.mono B0.size)
  have a0 := (Q1.cell (p := ⟨w.heap.size, 0, none⟩) (by show w.heap.size < _; omega)).trans x0
  have a1 := (Q1.cell (p := ⟨w.heap.size, 1, none⟩) (by show w.heap.size < _; omega)).trans x1
  have k0 := (Q1.cell (p := ⟨w.heap.size + 1, 0, none⟩) (by show w.heap.size + 1 < _; omega)).trans y0
  have k1 := (Q1.cell (p := ⟨w.heap.size + 1, 1, none⟩) (by show w.heap.size + 1 < _; omega)).trans y1
  have k2 := (Q1.cell (p := ⟨w.heap.size + 1, 2, none⟩) (by show w.heap.size + 1 < _; omega)).trans y2
  by_cases hneg : r < 0
  · go_wp2_with fail
    go_ret
    exact ⟨rfl, B1⟩
  · skip
    have hsmH : h.Sm := by rcases hr with h | h; exact absurd h (by omega); exact h.2.2
    have hwt : h.wt ≤ 1048576 := by rcases hr with h | h; exact absurd h (by omega); omega
    go_wp2_with fail
    refine (szV_any k n s r w1 hv.s1 (by omega) (by omega)).mono ?_
    rintro e w2 ⟨⟨r2, rfl, hr2⟩, hb2⟩
    clear a0 a1 k0 k1 k2
    have hs2 := hb2.size
    have Q2 : Below W0.heap.size W0 w2 := Q1.trans (hb2.mono Q1.size)
    have B2 := B0.trans (Q2.mono B0.size)
    have a0 := (Q2.cell (p := ⟨w.heap.size, 0, none⟩) (by show w.heap.size < _; omega)).trans x0
    have a1 := (Q2.cell (p := ⟨w.heap.size, 1, none⟩) (by show w.heap.size < _; omega)).trans x1
    have k0 := (Q2.cell (p := ⟨w.heap.size + 1, 0, none⟩) (by show w.heap.size + 1 < _; omega)).trans y0
    have k1 := (Q2.cell (p := ⟨w.heap.size + 1, 1, none⟩) (by show w.heap.size + 1 < _; omega)).trans y1
    have k2 := (Q2.cell (p := ⟨w.heap.size + 1, 2, none⟩) (by show w.heap.size + 1 < _; omega)).trans y2
    by_cases hneg2 : r2 < 0
    · go_wp2_with fail
      go_ret
      exact ⟨rfl, B2⟩
    · skip
      have hss : s.size ≤ 1048576 := by omega
      clear hr hr2 hneg hb1 hb2
      have hok : (h.cell ⟨k, n, s⟩).Ok := cell_ok (ok_of_hat hN) ⟨hv⟩
      have hgw : (h.cell ⟨k, n, s⟩).wt ≤ 2097152 := by have := cell_wt h ⟨k, n, s⟩; omega
      have hokh : h.Ok := ok_of_hat hN
      have HS0 : ∀ (W : World) (a b : Option Addr) (ca cb lo L : Nat), L ≤ W.heap.size → TV W lo h a b → Calls Try.prog 16 #[.agg #[.slice a h.ts.length ca, .slice b h.vs.length cb], .agg #[.int .i64 k, .int .i64 n, .string s]] W fun e w' => (∃ pa pn pc ua un uc ss, e = .returned (.tuple #[.agg #[.slice pa pn pc, .slice ua un uc], .int .i64 (addN h.vs.length)]) ∧ OwnH w' L (h.cell ⟨k, n, s⟩) ⟨pa, pn, pc⟩ ⟨ua, un, uc⟩ ss) ∧ Below W.heap.size W w' := fun W a b ca cb lo L hL hT => by
        refine (newCell_spec h a b ca cb lo W.heap.size k n s W (Nat.le_refl _) hwt hT.1 hT.2).mono ?_
        rintro e w' ⟨⟨⟨pa, pn, pc⟩, ⟨ua, un, uc⟩, ss, he, hO⟩, hb⟩
        exact ⟨⟨pa, pn, pc, ua, un, uc, ss, he, hO.1, hO.2.1, hO.2.2.base hL⟩, hb⟩
      have HI0 : ∀ (W : World) (a b : Option Addr) (ca cb lo L : Nat), L ≤ W.heap.size → TV W lo h a b → Calls Try.prog 18 #[.agg #[.slice a h.ts.length ca, .slice b h.vs.length cb], .agg #[.int .i64 k, .int .i64 n, .string s]] W fun e w' => (∃ pa pn pc ua un uc ss, e = .returned (.tuple #[.agg #[.slice pa pn pc, .slice ua un uc], .int .i64 (addN h.vs.length)]) ∧ OwnH w' L (h.cell ⟨k, n, s⟩) ⟨pa, pn, pc⟩ ⟨ua, un, uc⟩ ss) ∧ Below W.heap.size W w' := fun W a b ca cb lo L hL hT => by
        refine (newCell_impl h a b ca cb lo W.heap.size k n s W (Nat.le_refl _) hwt hsmH hss hT.1 hT.2).mono ?_
        rintro e w' ⟨⟨⟨pa, pn, pc⟩, ⟨ua, un, uc⟩, ss, he, hO⟩, hb⟩
        exact ⟨⟨pa, pn, pc, ua, un, uc, ss, he, hO.1, hO.2.1, hO.2.2.base hL⟩, hb⟩
      generalize addN h.vs.length = N at HS0 HI0
      generalize h.cell ⟨k, n, s⟩ = g at HS0 HI0 hok hgw
      have HG : Hid (g.Ok ∧ g.wt ≤ 2097152) := ⟨hok, hgw⟩
      clear hok hgw
      have HS : Hid (∀ (W : World) (a b : Option Addr) (ca cb lo : Nat), Below w2.heap.size w2 W → TV W lo h a b → Calls Try.prog 16 #[.agg #[.slice a h.ts.length ca, .slice b h.vs.length cb], .agg #[.int .i64 k, .int .i64 n, .string s]] W fun e w' => (∃ pa pn pc ua un uc ss, e = .returned (.tuple #[.agg #[.slice pa pn pc, .slice ua un uc], .int .i64 N]) ∧ OwnH w' w2.heap.size g ⟨pa, pn, pc⟩ ⟨ua, un, uc⟩ ss) ∧ Below W.heap.size W w') := fun W a b ca cb lo hW hT => HS0 W a b ca cb lo _ hW.size hT
      have HI : Hid (∀ (W : World) (a b : Option Addr) (ca cb lo : Nat), Below w2.heap.size w2 W → TV W lo h a b → Calls Try.prog 18 #[.agg #[.slice a h.ts.length ca, .slice b h.vs.length cb], .agg #[.int .i64 k, .int .i64 n, .string s]] W fun e w' => (∃ pa pn pc ua un uc ss, e = .returned (.tuple #[.agg #[.slice pa pn pc, .slice ua un uc], .int .i64 N]) ∧ OwnH w' w2.heap.size g ⟨pa, pn, pc⟩ ⟨ua, un, uc⟩ ss) ∧ Below W.heap.size W w') := fun W a b ca cb lo hW hT => HI0 W a b ca cb lo _ hW.size hT
      have HII : Hid (∀ (W : World) (a b : Option Addr) (ca cb lo L : Nat), L ≤ W.heap.size → TV W lo h a b → Calls Try.prog 18 #[.agg #[.slice a h.ts.length ca, .slice b h.vs.length cb], .agg #[.int .i64 k, .int .i64 n, .string s]] W fun e w' => (∃ pa pn pc ua un uc ss, e = .returned (.tuple #[.agg #[.slice pa pn pc, .slice ua un uc], .int .i64 N]) ∧ OwnH w' L g ⟨pa, pn, pc⟩ ⟨ua, un, uc⟩ ss) ∧ Below W.heap.size W w') := HI0
      clear HS0 HI0
      have HTO : Hid (∀ W, Below w2.heap.size w2 W → Calls Try.prog 9 #[.agg #[.slice ha h.ts.length hca, .slice hb0 h.vs.length hcb]] W fun e w' => (∃ b cb d cd, e = .returned (.agg #[.slice b h.ts.length cb, .slice d h.vs.length cd]) ∧ TV w' W.heap.size h b d) ∧ Below W.heap.size W w') := fun W hW => toH_any h _ 0 w.heap.size W ((hN.below B2 (Nat.le_refl _)).below hW (by omega)) (by have := hW.size; omega) hwt
      have HTW : Hid (∀ W, Below w2.heap.size w2 W → Calls Try.prog 9 #[.agg #[.slice ha h.ts.length hca, .slice hb0 h.vs.length hcb]] W fun e w' => (∃ pa pc ua uc ss, e = .returned (.agg #[.slice pa h.ts.length pc, .slice ua h.vs.length uc]) ∧ HLay w' W.heap.size w'.heap.size ⟨pa, h.ts.length, pc⟩ ⟨ua, h.vs.length, uc⟩ ss h.xss (flatV h.vs)) ∧ Below W.heap.size W w') := fun W hW => by
        refine (toH_own h _ 0 w.heap.size W ((hN.below B2 (Nat.le_refl _)).below hW (by omega)) (by have := hW.size; omega) hwt).mono ?_
        rintro e w' ⟨⟨⟨pa, pn, pc⟩, ⟨ua, un, uc⟩, ss, he, h1, h2, hL⟩, hb⟩
        dsimp only at h1 h2
        subst h1
        subst h2
        exact ⟨⟨pa, pc, ua, uc, ss, he, hL⟩, hb⟩
      have HB2 : Hid (Below w.heap.size w w2) := B2
      have KEEP : Hid (∀ W' : World, Below w2.heap.size w2 W' → (fun w' => Below w2.heap.size w2 w' ∧ w'.cell? ⟨w.heap.size, 0, none⟩ = some (.slice ha h.ts.length hca) ∧ w'.cell? ⟨w.heap.size, 1, none⟩ = some (.slice hb0 h.vs.length hcb) ∧ w'.cell? ⟨w.heap.size + 1, 0, none⟩ = some (.int .i64 k) ∧ w'.cell? ⟨w.heap.size + 1, 1, none⟩ = some (.int .i64 n) ∧ w'.cell? ⟨w.heap.size + 1, 2, none⟩ = some (.string s)) W') := fun W' hB => ⟨hB, (hB.cell (p := ⟨w.heap.size, 0, none⟩) (by show w.heap.size < _; omega)).trans a0, (hB.cell (p := ⟨w.heap.size, 1, none⟩) (by show w.heap.size < _; omega)).trans a1, (hB.cell (p := ⟨w.heap.size + 1, 0, none⟩) (by show w.heap.size + 1 < _; omega)).trans k0, (hB.cell (p := ⟨w.heap.size + 1, 1, none⟩) (by show w.heap.size + 1 < _; omega)).trans k1, (hB.cell (p := ⟨w.heap.size + 1, 2, none⟩) (by show w.heap.size + 1 < _; omega)).trans k2⟩
      have hq0 : Below w2.heap.size w2 w2.drew := (Below.refl _ _).drew
      clear a0 a1 k0 k1 k2
      clear hN B1 B2 Q1 Q2 B0 x0 x1 y0 y1 y2 hv
      go_wp2_with fail
      go_cut [6, 7] from 16 (fun p6 u7 wx => ∃ b sp cl ss, p6 = .pointer (some ⟨b, 0, none⟩) ∧ u7 = .int .i64 N ∧ Below w2.heap.size w2 wx ∧ Keep wx b w2.heap.size wx.heap.size g sp cl ss)
      case first =>
        clear HI HII HTW HG
        go_region_held3 (fun w' => Below w2.heap.size w2 w' ∧ w'.cell? ⟨w.heap.size, 0, none⟩ = some (.slice ha h.ts.length hca) ∧ w'.cell? ⟨w.heap.size, 1, none⟩ = some (.slice hb0 h.vs.length hcb) ∧ w'.cell? ⟨w.heap.size + 1, 0, none⟩ = some (.int .i64 k) ∧ w'.cell? ⟨w.heap.size + 1, 1, none⟩ = some (.int .i64 n) ∧ w'.cell? ⟨w.heap.size + 1, 2, none⟩ = some (.string s)) (first | (with_reducible assumption) | exact KEEP.out _ (by with_reducible assumption) | exact KEEP.out _ (bel_al (by with_reducible assumption) _) | exact KEEP.out _ (bel_s2 (by with_reducible assumption) (by first | exact bel_sz (by assumption) | omega))) (first | (go_at_call 9; refine (HTO.out _ (bel_of (by assumption))).mono ?_; rintro e w' ⟨⟨tb, tcb, vd, vcd, rfl, hTn⟩, hb'⟩; have hq' := bel_step (by assumption) hb'; obtain ⟨hc', hf'⟩ := bcell hb'; have ht' := fun (b : Nat) h => Nat.lt_of_lt_of_le (n := b) h hb'.size; (first | (have hu' := fun (b : Nat) h => ht' b (hu' b h)) | (have hu' := ht')); (first | (have hzh' := zh_b hzh' hb') | (have hzh' := zh_first hb') | (have hzh' := zh_first' hb') | skip); have hs' := hb'.size; (try simp at hs')) | (go_at_call 17; refine (toV_any _ _ _ _).mono ?_; rintro e w' ⟨rfl, hb'⟩; (first | (have hTn := tv_b hTn hb') | (have hTn := tv_b (tv_b hTn (bel_alloc _ _)) hb') | skip); have hq' := bel_step (by assumption) hb'; obtain ⟨hc', hf'⟩ := bcell hb'; have ht' := fun (b : Nat) h => Nat.lt_of_lt_of_le (n := b) h hb'.size; (first | (have hu' := fun (b : Nat) h => ht' b (hu' b h)) | (have hu' := ht')); (first | (have hzh' := zh_b hzh' hb') | (have hzh' := zh_first hb') | (have hzh' := zh_first' hb') | skip); have hs' := hb'.size; (try simp at hs')) | (go_at_call 16; (first | refine (HS.out _ _ _ _ _ _ (by with_reducible assumption) hTn).mono ?_ | refine (HS.out _ _ _ _ _ _ (bel_of (by with_reducible assumption)) hTn).mono ?_ | refine (HS.out _ _ _ _ _ _ (bel_al (by with_reducible assumption) _) (tv_b hTn (bel_alloc _ _))).mono ?_ | refine (HS.out _ _ _ _ _ _ (bel_of (by with_reducible assumption)) (tv_b hTn (bel_alloc _ _))).mono ?_); rintro e w' ⟨⟨pa, pn, pc, ua, un, uc, ss, rfl, hOw⟩, hb'⟩; have hq' := bel_step (by assumption) hb'; obtain ⟨hc', hf'⟩ := bcell hb'; have ht' := fun (b : Nat) h => Nat.lt_of_lt_of_le (n := b) h hb'.size; (first | (have hu' := fun (b : Nat) h => ht' b (hu' b h)) | (have hu' := ht')); (first | (have hzh' := zh_b hzh' hb') | (have hzh' := zh_first hb') | (have hzh' := zh_first' hb') | skip); have hs' := hb'.size; (try simp at hs')))
        all_goals
          go_wp2_with fail
          go_meet
          case rel =>
            refine ⟨_, ⟨pa, pn, pc⟩, ⟨ua, un, uc⟩, ss, rfl, rfl, ?_, ?_⟩
            · (first | (with_reducible assumption) | exact bel_of (by with_reducible assumption))
            · (first | exact keep_al hOw (Nat.le_refl _) (by first | exact bel_sz (by assumption) | omega) | exact keep_set hOw hzh' (Nat.le_refl _) (by first | exact Nat.le_refl _ | exact bel_sz (by assumption) | omega))
      case rest =>
        rename World => wA
        obtain ⟨b6, sp0, cl0, ss0, rfl, rfl, hqA, K0⟩ := hcut
        obtain ⟨ea, en, ec⟩ := sp0
        obtain ⟨fa, fn, fc⟩ := cl0
        have q0 := (KEEP.out _ hqA).2.1
        have q1 := (KEEP.out _ hqA).2.2.1
        have q2 := (KEEP.out _ hqA).2.2.2.1
        have q3 := (KEEP.out _ hqA).2.2.2.2.1
        have q4 := (KEEP.out _ hqA).2.2.2.2.2
        clear q2 q3 q4
        go_wp2_with fail
        refine (HTW.out _ hqA).mono ?_
        rintro e w5 ⟨⟨xa, xc, ya, yc, ss1, rfl, hL1⟩, hb5⟩
        clear q0 q1 HS
        have HX : Hid (∀ W6 : World, W6 = w5.alloc (Obj.cells #[.slice xa h.ts.length xc, .slice ya h.vs.length yc] 30) → Keep W6 w5.heap.size wA.heap.size W6.heap.size h ⟨xa, h.ts.length, xc⟩ ⟨ya, h.vs.length, yc⟩ ss1 ∧ Keep W6 b6 w2.heap.size wA.heap.size g ⟨ea, en, ec⟩ ⟨fa, fn, fc⟩ ss0 ∧ Below wA.heap.size wA W6) := fun W6 hW6 => by
          subst hW6
          have ha := bel_alloc w5 (Obj.cells #[.slice xa h.ts.length xc, .slice ya h.vs.length yc] 30)
          have hb6 : Below wA.heap.size wA (w5.alloc (Obj.cells #[.slice xa h.ts.length xc, .slice ya h.vs.length yc] 30)) := hb5.trans (ha.mono hb5.size)
          exact ⟨⟨heap_alloc_new _ _, hb5.size, by simp, Nat.le_refl _, (hL1.below ha).wide (Nat.le_refl _) (by simp)⟩, K0.below hb6, hb6⟩
        clear hL1 K0
        go_wp2_with fail
        obtain ⟨W6, hW6⟩ : ∃ W6, W6 = w5.alloc (Obj.cells #[.slice xa h.ts.length xc, .slice ya h.vs.length yc] 30) := ⟨_, rfl⟩
        obtain ⟨K1, K0, hb6⟩ := HX.out W6 hW6
        rw [← hW6]
        clear hW6 HX
        have Q6 : Below w2.heap.size w2 W6 := hqA.trans (hb6.mono hqA.size)
        have z6 := hb6.size
        have zA := hqA.size
        clear hb5
        have hTV : TV W6 wA.heap.size h xa ya := tv_of_lay K1.lay hokh K1.hiw hwt
        have HI6 : Hid (∀ W, Below W6.heap.size W6 W → Calls Try.prog 18 #[.agg #[.slice xa h.ts.length xc, .slice ya h.vs.length yc], .agg #[.int .i64 k, .int .i64 n, .string s]] W fun e w' => (∃ pa pn pc ua un uc ss, e = .returned (.tuple #[.agg #[.slice pa pn pc, .slice ua un uc], .int .i64 N]) ∧ OwnH w' W6.heap.size g ⟨pa, pn, pc⟩ ⟨ua, un, uc⟩ ss) ∧ Below W.heap.size W w') := fun W hW => HII.out W xa ya xc yc _ _ hW.size (tv_b hTV hW)
        have HK1 : Hid (Keep W6 w5.heap.size wA.heap.size W6.heap.size h ⟨xa, h.ts.length, xc⟩ ⟨ya, h.vs.length, yc⟩ ss1) := K1
        have HK0 : Hid (Keep W6 b6 w2.heap.size wA.heap.size g ⟨ea, en, ec⟩ ⟨fa, fn, fc⟩ ss0) := K0
        have KEEP6 : Hid (∀ W' : World, Below W6.heap.size W6 W' → (fun w' => Below W6.heap.size W6 w' ∧ w'.cell? ⟨w5.heap.size, 0, none⟩ = some (.slice xa h.ts.length xc) ∧ w'.cell? ⟨w5.heap.size, 1, none⟩ = some (.slice ya h.vs.length yc) ∧ w'.cell? ⟨w.heap.size + 1, 0, none⟩ = some (.int .i64 k) ∧ w'.cell? ⟨w.heap.size + 1, 1, none⟩ = some (.int .i64 n) ∧ w'.cell? ⟨w.heap.size + 1, 2, none⟩ = some (.string s)) W') := fun W' hB => ⟨hB, cell_of_row _ _ 0 _ _ _ (HK1.out.below hB).var, cell_of_row _ _ 1 _ _ _ (HK1.out.below hB).var, (KEEP.out _ (Q6.trans (hB.mono Q6.size))).2.2.2.1, (KEEP.out _ (Q6.trans (hB.mono Q6.size))).2.2.2.2.1, (KEEP.out _ (Q6.trans (hB.mono Q6.size))).2.2.2.2.2⟩
        have hq0 : Below W6.heap.size W6 W6.drew := (Below.refl _ _).drew
        clear hTV K1 K0
        go_wp2_with fail
        go_cut [9, 10] from 16 (fun p9 u10 wx => ∃ b sp cl ss, p9 = .pointer (some ⟨b, 0, none⟩) ∧ u10 = .int .i64 N ∧ Below W6.heap.size W6 wx ∧ Keep wx b W6.heap.size wx.heap.size g sp cl ss)
        case first =>
          clear HI HII HTW HTO HG KEEP HK1 HK0 HB2
          go_region_held3 (fun w' => Below W6.heap.size W6 w' ∧ w'.cell? ⟨w5.heap.size, 0, none⟩ = some (.slice xa h.ts.length xc) ∧ w'.cell? ⟨w5.heap.size, 1, none⟩ = some (.slice ya h.vs.length yc) ∧ w'.cell? ⟨w.heap.size + 1, 0, none⟩ = some (.int .i64 k) ∧ w'.cell? ⟨w.heap.size + 1, 1, none⟩ = some (.int .i64 n) ∧ w'.cell? ⟨w.heap.size + 1, 2, none⟩ = some (.string s)) (first | (with_reducible assumption) | exact KEEP6.out _ (by with_reducible assumption) | exact KEEP6.out _ (bel_al (by with_reducible assumption) _) | exact KEEP6.out _ (bel_s2 (by with_reducible assumption) (by first | exact bel_sz (by assumption) | omega))) (first | (go_at_call 17; refine (toV_any _ _ _ _).mono ?_; rintro e w' ⟨rfl, hb'⟩; have hq' := bel_step (by assumption) hb'; obtain ⟨hc', hf'⟩ := bcell hb'; have ht' := fun (b : Nat) h => Nat.lt_of_lt_of_le (n := b) h hb'.size; (first | (have hu' := fun (b : Nat) h => ht' b (hu' b h)) | (have hu' := ht')); (first | (have hzh' := zh_b hzh' hb') | (have hzh' := zh_first hb') | (have hzh' := zh_first' hb') | skip); have hs' := hb'.size; (try simp at hs')) | (go_at_call 18; (first | refine (HI6.out _ (by with_reducible assumption)).mono ?_ | refine (HI6.out _ (bel_of (by with_reducible assumption))).mono ?_ | refine (HI6.out _ (bel_al (by with_reducible assumption) _)).mono ?_); rintro e w' ⟨⟨pa, pn, pc, ua, un, uc, ss, rfl, hOw⟩, hb'⟩; have hq' := bel_step (by assumption) hb'; obtain ⟨hc', hf'⟩ := bcell hb'; have ht' := fun (b : Nat) h => Nat.lt_of_lt_of_le (n := b) h hb'.size; (first | (have hu' := fun (b : Nat) h => ht' b (hu' b h)) | (have hu' := ht')); (first | (have hzh' := zh_b hzh' hb') | (have hzh' := zh_first hb') | (have hzh' := zh_first' hb') | skip); have hs' := hb'.size; (try simp at hs')))
          all_goals
            go_wp2_with fail
            go_meet
            case rel =>
              refine ⟨_, ⟨pa, pn, pc⟩, ⟨ua, un, uc⟩, ss, rfl, rfl, ?_, ?_⟩
              · (first | (with_reducible assumption) | exact bel_of (by with_reducible assumption))
              · (first | exact keep_al hOw (Nat.le_refl _) (by first | exact bel_sz (by assumption) | omega) | exact keep_set hOw hzh' (Nat.le_refl _) (by first | exact Nat.le_refl _ | exact bel_sz (by assumption) | omega))
        case rest =>
          rename World => wB
          obtain ⟨b9, sp2, cl2, ss2, rfl, rfl, hqB, K2⟩ := hcut
          obtain ⟨ga, gn, gc⟩ := sp2
          obtain ⟨ka, kn, kc⟩ := cl2
          clear HI6 hq0
          have K1 := HK1.out.below hqB
          have K0 := HK0.out.below hqB
          clear KEEP6 HK1 HK0
          have QB : Below w2.heap.size w2 wB := Q6.trans (hqB.mono Q6.size)
          have zB := hqB.size
          have v0 := cell_of_row _ _ 0 _ _ _ K2.var
          have v1 := cell_of_row _ _ 1 _ _ _ K2.var
          simp only [List.getElem?_toArray, List.getElem?_cons_zero, List.getElem?_cons_succ, Sl.v] at v0 v1
          have z0 := cell_of_row _ _ 0 _ _ _ K0.var
          have z1 := cell_of_row _ _ 1 _ _ _ K0.var
          simp only [List.getElem?_toArray, List.getElem?_cons_zero, List.getElem?_cons_succ, Sl.v] at z0 z1
          have HE : Hid (Calls Try.prog 11 #[.agg #[.slice ga gn gc, .slice ka kn kc], .agg #[.slice ea en ec, .slice fa fn fc]] wB fun e w' => e = .returned (.bool true) ∧ Below wB.heap.size wB w') := by have q := eqK_same K2 K0 HG.out.1 HG.out.2; dsimp only [Sl.v] at q; exact q
          have HK0 : Hid (Keep wB b6 w2.heap.size wA.heap.size g ⟨ea, en, ec⟩ ⟨fa, fn, fc⟩ ss0) := K0
          have HK1 : Hid (Keep wB w5.heap.size wA.heap.size W6.heap.size h ⟨xa, h.ts.length, xc⟩ ⟨ya, h.vs.length, yc⟩ ss1) := K1
          have HK2 : Hid (Keep wB b9 W6.heap.size wB.heap.size g ⟨ga, gn, gc⟩ ⟨ka, kn, kc⟩ ss2) := K2
          clear K0 K1 K2
          go_wp2_with fail
          refine HE.out.mono ?_
          rintro e wC ⟨rfl, hwC⟩
          have K0 := HK0.out.below hwC
          have K1 := HK1.out.below hwC
          have K2 := HK2.out.below hwC
          clear v0 v1 z0 z1 HE HK0 HK1 HK2
          have QC : Below w2.heap.size w2 wC := QB.trans (hwC.mono QB.size)
          have HEQ : Hid (∀ (W W' : World) (b : Option Addr) (cb : Nat) (d : Option Addr) (cd : Nat), Below wC.heap.size wC W → TV W' W.heap.size h b d → Below W.heap.size W W' → Calls Try.prog 11 #[.agg #[.slice xa h.ts.length xc, .slice ya h.vs.length yc], .agg #[.slice b h.ts.length cb, .slice d h.vs.length cd]] W' fun e w' => e = .returned (.bool true) ∧ Below W'.heap.size W' w') := fun W W' b cb d cd h1 h2 h3 => by
            have q := K1.below (h1.trans (h3.mono h1.size))
            have hlen := len_wtT h.ts
            unfold Hp.wt at hwt
            exact eqH_same h [.slice xa h.ts.length xc, .slice ya h.vs.length yc] [.slice b h.ts.length cb, .slice d h.vs.length cd] _ _ W.heap.size W'.heap.size W' (q.hat hokh (by unfold Hp.wt; omega)) ⟨b, cb, d, cd, rfl, by unfold maxLen; omega, by unfold maxLen; omega, h2.1, h2.2⟩ q.hiw (Nat.le_refl _) (by unfold Hp.wt; omega)
          have HTO9 : Hid (∀ W, Below wC.heap.size wC W → Calls Try.prog 9 #[.agg #[.slice ha h.ts.length hca, .slice hb0 h.vs.length hcb]] W fun e w' => (∃ b cb d cd, e = .returned (.agg #[.slice b h.ts.length cb, .slice d h.vs.length cd]) ∧ TV w' W.heap.size h b d) ∧ Below W.heap.size W w') := fun W hW => HTO.out W (QC.trans (hW.mono QC.size))
          have HK0 : Hid (Keep wC b6 w2.heap.size wA.heap.size g ⟨ea, en, ec⟩ ⟨fa, fn, fc⟩ ss0) := K0
          have HK1 : Hid (Keep wC w5.heap.size wA.heap.size W6.heap.size h ⟨xa, h.ts.length, xc⟩ ⟨ya, h.vs.length, yc⟩ ss1) := K1
          have HK2 : Hid (Keep wC b9 W6.heap.size wB.heap.size g ⟨ga, gn, gc⟩ ⟨ka, kn, kc⟩ ss2) := K2
          clear K0 K1 K2
          have KEEP9 : Hid (∀ W' : World, Below wC.heap.size wC W' → (fun w' => Below wC.heap.size wC w' ∧ w'.cell? ⟨w5.heap.size, 0, none⟩ = some (.slice xa h.ts.length xc) ∧ w'.cell? ⟨w5.heap.size, 1, none⟩ = some (.slice ya h.vs.length yc) ∧ w'.cell? ⟨w.heap.size, 0, none⟩ = some (.slice ha h.ts.length hca) ∧ w'.cell? ⟨w.heap.size, 1, none⟩ = some (.slice hb0 h.vs.length hcb)) W') := fun W' hB => ⟨hB, cell_of_row _ _ 0 _ _ _ (HK1.out.below hB).var, cell_of_row _ _ 1 _ _ _ (HK1.out.below hB).var, (KEEP.out _ (QC.trans (hB.mono QC.size))).2.1, (KEEP.out _ (QC.trans (hB.mono QC.size))).2.2.1⟩
          have hq0 : Below wC.heap.size wC wC.drew := (Below.refl _ _).drew
          go_wp2_with fail
          go_region_held3 (fun w' => Below wC.heap.size wC w' ∧ w'.cell? ⟨w5.heap.size, 0, none⟩ = some (.slice xa h.ts.length xc) ∧ w'.cell? ⟨w5.heap.size, 1, none⟩ = some (.slice ya h.vs.length yc) ∧ w'.cell? ⟨w.heap.size, 0, none⟩ = some (.slice ha h.ts.length hca) ∧ w'.cell? ⟨w.heap.size, 1, none⟩ = some (.slice hb0 h.vs.length hcb)) (first | (with_reducible assumption) | exact KEEP9.out _ (by with_reducible assumption)) (first | (go_at_call 9; refine (HTO9.out _ (bel_of (by assumption))).mono ?_; rintro e w' ⟨⟨tb2, tcb2, vd2, vcd2, rfl, hTn⟩, hb'⟩; have hq' := bel_step (by assumption) hb') | (go_at_call 11; refine (HEQ.out _ _ _ _ _ _ (Below.refl _ _).drew hTn hb').mono ?_; rintro e wD ⟨rfl, hb''⟩; have hqD := bel_step (by assumption) hb''))
          clear KEEP9 HTO9 HEQ hq0
          have K0 := HK0.out.below hqD
          have K1 := HK1.out.below hqD
          have K2 := HK2.out.below hqD
          clear HK0 HK1 HK2
          have QD : Below w2.heap.size w2 wD := QC.trans (hqD.mono QC.size)
          have x0 := cell_of_row _ _ 0 _ _ _ K1.var
          have x1 := cell_of_row _ _ 1 _ _ _ K1.var
          simp only [List.getElem?_toArray, List.getElem?_cons_zero, List.getElem?_cons_succ, Sl.v] at x0 x1
          have zD : W6.heap.size ≤ wD.heap.size := K1.hiw
          have HM : Hid (Calls Try.prog 13 #[.agg #[.slice xa h.ts.length xc, .slice ya h.vs.length yc], .int .i64 1] wD fun e w' => e = .returned (.int .i64 ((markN 1 ss1 ⟨ya, h.vs.length, yc⟩ : Nat) : Int)) ∧ Out wD w' wA.heap.size W6.heap.size) := by have q := markK_any K1 (by omega); dsimp only [Sl.v] at q; exact q.mono fun e w' hx => ⟨hx.1, hx.2.2.1⟩
          generalize markN 1 ss1 ⟨ya, h.vs.length, yc⟩ = m1 at HM
          clear K1
          have HK0 : Hid (Keep wD b6 w2.heap.size wA.heap.size g ⟨ea, en, ec⟩ ⟨fa, fn, fc⟩ ss0) := K0
          have HK2 : Hid (Keep wD b9 W6.heap.size wB.heap.size g ⟨ga, gn, gc⟩ ⟨ka, kn, kc⟩ ss2) := K2
          clear K0 K2
          go_wp2_with fail
          refine HM.out.mono ?_
          rintro e wE ⟨rfl, hoE⟩
          have K0 := HK0.out.out hoE (.inl (Nat.le_refl _))
          have K2 := HK2.out.out hoE (.inr (Nat.le_refl _))
          have QE : Below w2.heap.size w2 wE := QD.trans ((hoE.below (by omega)).mono zA)
          clear HM HK0 HK2 x0 x1 hoE
          have hm1 : ¬ ((m1 : Int) < 0) := by omega
          have v0 := cell_of_row _ _ 0 _ _ _ K2.var
          have v1 := cell_of_row _ _ 1 _ _ _ K2.var
          simp only [List.getElem?_toArray, List.getElem?_cons_zero, List.getElem?_cons_succ, Sl.v] at v0 v1
          have z0 := cell_of_row _ _ 0 _ _ _ K0.var
          have z1 := cell_of_row _ _ 1 _ _ _ K0.var
          simp only [List.getElem?_toArray, List.getElem?_cons_zero, List.getElem?_cons_succ, Sl.v] at z0 z1
          have HE : Hid (Calls Try.prog 11 #[.agg #[.slice ga gn gc, .slice ka kn kc], .agg #[.slice ea en ec, .slice fa fn fc]] wE fun e w' => e = .returned (.bool true) ∧ Below wE.heap.size wE w') := by have q := eqK_same K2 K0 HG.out.1 HG.out.2; dsimp only [Sl.v] at q; exact q
          have HK0 : Hid (Keep wE b6 w2.heap.size wA.heap.size g ⟨ea, en, ec⟩ ⟨fa, fn, fc⟩ ss0) := K0
          have HK2 : Hid (Keep wE b9 W6.heap.size wB.heap.size g ⟨ga, gn, gc⟩ ⟨ka, kn, kc⟩ ss2) := K2
          clear K0 K2
          go_wp2_with fail
          refine HE.out.mono ?_
          rintro e wF ⟨rfl, hwF⟩
          have K0 := HK0.out.below hwF
          have K2 := HK2.out.below hwF
          clear v0 v1 z0 z1 HE HK0 HK2
          have QF : Below w2.heap.size w2 wF := QE.trans (hwF.mono QE.size)
          have v0 := cell_of_row _ _ 0 _ _ _ K2.var
          have v1 := cell_of_row _ _ 1 _ _ _ K2.var
          simp only [List.getElem?_toArray, List.getElem?_cons_zero, List.getElem?_cons_succ, Sl.v] at v0 v1
          have HM : Hid (Calls Try.prog 13 #[.agg #[.slice ga gn gc, .slice ka kn kc], .int .i64 1] wF fun e w' => e = .returned (.int .i64 ((markN 1 ss2 ⟨ka, kn, kc⟩ : Nat) : Int)) ∧ Marked w' b9 W6.heap.size wB.heap.size ⟨ga, gn, gc⟩ ⟨ka, kn, kc⟩ ss2 ∧ Out wF w' W6.heap.size wB.heap.size) := by have q := markK_any K2 HG.out.2; dsimp only [Sl.v] at q; exact q.mono fun e w' hx => ⟨hx.1, hx.2.1, hx.2.2.1⟩
          have zF : wB.heap.size ≤ wF.heap.size := K2.hiw
          have HMM : Hid (∀ W : World, Marked W b9 W6.heap.size wB.heap.size ⟨ga, gn, gc⟩ ⟨ka, kn, kc⟩ ss2 → Calls Try.prog 14 #[.agg #[.slice ga gn gc, .slice ka kn kc], .int .i64 1] W fun e w' => e = .returned (.int .i64 ((markN 1 ss2 ⟨ka, kn, kc⟩ : Nat) : Int)) ∧ Below W.heap.size W w') := fun W hW => by have q := heldK_any hW; dsimp only [Sl.v] at q; exact q
          generalize markN 1 ss2 ⟨ka, kn, kc⟩ = m2 at HM HMM
          clear K2
          have HK0 : Hid (Keep wF b6 w2.heap.size wA.heap.size g ⟨ea, en, ec⟩ ⟨fa, fn, fc⟩ ss0) := K0
          clear K0
          go_wp2_with fail
          refine HM.out.mono ?_
          rintro e wG ⟨rfl, M2, hoG⟩
          have K0 := HK0.out.out hoG (.inl z6)
          have QG : Below w2.heap.size w2 wG := QF.trans ((hoG.below (by omega)).mono (Nat.le_trans zA z6))
          clear HM HK0 v0 v1 hoG
          have hm2 : ¬ ((m2 : Int) < 0) := by omega
          have v0 := cell_of_row _ _ 0 _ _ _ M2.var
          have v1 := cell_of_row _ _ 1 _ _ _ M2.var
          simp only [List.getElem?_toArray, List.getElem?_cons_zero, List.getElem?_cons_succ, Sl.v] at v0 v1
          have HK0 : Hid (Keep wG b6 w2.heap.size wA.heap.size g ⟨ea, en, ec⟩ ⟨fa, fn, fc⟩ ss0) := K0
          have HM2 : Hid (Marked wG b9 W6.heap.size wB.heap.size ⟨ga, gn, gc⟩ ⟨ka, kn, kc⟩ ss2) := M2
          clear K0 M2
          go_wp2_with fail
          refine (HMM.out _ HM2.out).mono ?_
          rintro e wH ⟨rfl, hwH⟩
          have K0 := HK0.out.below hwH
          have M2 := HM2.out.below hwH
          clear HK0 HM2 v0 v1
          have QH : Below w2.heap.size w2 wH := QG.trans (hwH.mono QG.size)
          have HK0 : Hid (Keep wH b6 w2.heap.size wA.heap.size g ⟨ea, en, ec⟩ ⟨fa, fn, fc⟩ ss0) := K0
          have HM2 : Hid (Marked wH b9 W6.heap.size wB.heap.size ⟨ga, gn, gc⟩ ⟨ka, kn, kc⟩ ss2) := M2
          clear K0 M2
          have HI7 : Hid (∀ (W : World) (a b : Option Addr) (ca cb lo : Nat), Below wH.heap.size wH W → TV W lo h a b → Calls Try.prog 18 #[.agg #[.slice a h.ts.length ca, .slice b h.vs.length cb], .agg #[.int .i64 k, .int .i64 n, .string s]] W fun e w' => (∃ pa pn pc ua un uc ss, e = .returned (.tuple #[.agg #[.slice pa pn pc, .slice ua un uc], .int .i64 N]) ∧ OwnH w' wH.heap.size g ⟨pa, pn, pc⟩ ⟨ua, un, uc⟩ ss) ∧ Below W.heap.size W w') := fun W a b ca cb lo hW hT => HII.out W a b ca cb lo _ hW.size hT
          have HTO7 : Hid (∀ W, Below wH.heap.size wH W → Calls Try.prog 9 #[.agg #[.slice ha h.ts.length hca, .slice hb0 h.vs.length hcb]] W fun e w' => (∃ b cb d cd, e = .returned (.agg #[.slice b h.ts.length cb, .slice d h.vs.length cd]) ∧ TV w' W.heap.size h b d) ∧ Below W.heap.size W w') := fun W hW => HTO.out W (QH.trans (hW.mono QH.size))
          have KEEP7 : Hid (∀ W' : World, Below wH.heap.size wH W' → (fun w' => Below wH.heap.size wH w' ∧ w'.cell? ⟨w.heap.size, 0, none⟩ = some (.slice ha h.ts.length hca) ∧ w'.cell? ⟨w.heap.size, 1, none⟩ = some (.slice hb0 h.vs.length hcb) ∧ w'.cell? ⟨w.heap.size + 1, 0, none⟩ = some (.int .i64 k) ∧ w'.cell? ⟨w.heap.size + 1, 1, none⟩ = some (.int .i64 n) ∧ w'.cell? ⟨w.heap.size + 1, 2, none⟩ = some (.string s)) W') := fun W' hB => ⟨hB, (KEEP.out _ (QH.trans (hB.mono QH.size))).2.1, (KEEP.out _ (QH.trans (hB.mono QH.size))).2.2.1, (KEEP.out _ (QH.trans (hB.mono QH.size))).2.2.2.1, (KEEP.out _ (QH.trans (hB.mono QH.size))).2.2.2.2.1, (KEEP.out _ (QH.trans (hB.mono QH.size))).2.2.2.2.2⟩
          have hq0 : Below wH.heap.size wH wH.drew := (Below.refl _ _).drew
          go_wp2_with fail
          go_cut [14, 15] from 16 (fun p14 u15 wx => ∃ b sp cl ss, p14 = .pointer (some ⟨b, 0, none⟩) ∧ u15 = .int .i64 N ∧ Below wH.heap.size wH wx ∧ Keep wx b wH.heap.size wx.heap.size g sp cl ss)
          case first =>
            clear HI HII HTW HTO HG KEEP HK0 HM2 HMM HB2 hm1 hm2
            go_region_held3 (fun w' => Below wH.heap.size wH w' ∧ w'.cell? ⟨w.heap.size, 0, none⟩ = some (.slice ha h.ts.length hca) ∧ w'.cell? ⟨w.heap.size, 1, none⟩ = some (.slice hb0 h.vs.length hcb) ∧ w'.cell? ⟨w.heap.size + 1, 0, none⟩ = some (.int .i64 k) ∧ w'.cell? ⟨w.heap.size + 1, 1, none⟩ = some (.int .i64 n) ∧ w'.cell? ⟨w.heap.size + 1, 2, none⟩ = some (.string s)) (first | (with_reducible assumption) | exact KEEP7.out _ (by with_reducible assumption) | exact KEEP7.out _ (bel_al (by with_reducible assumption) _) | exact KEEP7.out _ (bel_s2 (by with_reducible assumption) (by first | exact bel_sz (by assumption) | omega))) (first | (go_at_call 9; refine (HTO7.out _ (bel_of (by assumption))).mono ?_; rintro e w' ⟨⟨tb, tcb, vd, vcd, rfl, hTn⟩, hb'⟩; have hq' := bel_step (by assumption) hb'; obtain ⟨hc', hf'⟩ := bcell hb'; have ht' := fun (b : Nat) h => Nat.lt_of_lt_of_le (n := b) h hb'.size; (first | (have hu' := fun (b : Nat) h => ht' b (hu' b h)) | (have hu' := ht')); (first | (have hzh' := zh_b hzh' hb') | (have hzh' := zh_first hb') | (have hzh' := zh_first' hb') | skip); have hs' := hb'.size; (try simp at hs')) | (go_at_call 17; refine (toV_any _ _ _ _).mono ?_; rintro e w' ⟨rfl, hb'⟩; (first | (have hTn := tv_b hTn hb') | (have hTn := tv_b (tv_b hTn (bel_alloc _ _)) hb') | skip); have hq' := bel_step (by assumption) hb'; obtain ⟨hc', hf'⟩ := bcell hb'; have ht' := fun (b : Nat) h => Nat.lt_of_lt_of_le (n := b) h hb'.size; (first | (have hu' := fun (b : Nat) h => ht' b (hu' b h)) | (have hu' := ht')); (first | (have hzh' := zh_b hzh' hb') | (have hzh' := zh_first hb') | (have hzh' := zh_first' hb') | skip); have hs' := hb'.size; (try simp at hs')) | (go_at_call 18; (first | refine (HI7.out _ _ _ _ _ _ (by with_reducible assumption) hTn).mono ?_ | refine (HI7.out _ _ _ _ _ _ (bel_of (by with_reducible assumption)) hTn).mono ?_ | refine (HI7.out _ _ _ _ _ _ (bel_al (by with_reducible assumption) _) (tv_b hTn (bel_alloc _ _))).mono ?_ | refine (HI7.out _ _ _ _ _ _ (bel_of (by with_reducible assumption)) (tv_b hTn (bel_alloc _ _))).mono ?_); rintro e w' ⟨⟨pa, pn, pc, ua, un, uc, ss, rfl, hOw⟩, hb'⟩; have hq' := bel_step (by assumption) hb'; obtain ⟨hc', hf'⟩ := bcell hb'; have ht' := fun (b : Nat) h => Nat.lt_of_lt_of_le (n := b) h hb'.size; (first | (have hu' := fun (b : Nat) h => ht' b (hu' b h)) | (have hu' := ht')); (first | (have hzh' := zh_b hzh' hb') | (have hzh' := zh_first hb') | (have hzh' := zh_first' hb') | skip); have hs' := hb'.size; (try simp at hs')))
            all_goals
              go_wp2_with fail
              go_meet
              case rel =>
                refine ⟨_, ⟨pa, pn, pc⟩, ⟨ua, un, uc⟩, ss, rfl, rfl, ?_, ?_⟩
                · (first | (with_reducible assumption) | exact bel_of (by with_reducible assumption))
                · (first | exact keep_al hOw (Nat.le_refl _) (by first | exact bel_sz (by assumption) | omega) | exact keep_set hOw hzh' (Nat.le_refl _) (by first | exact Nat.le_refl _ | exact bel_sz (by assumption) | omega))
          case rest =>
            rename World => wI
            obtain ⟨b14, sp3, cl3, ss3, rfl, rfl, hqI, K3⟩ := hcut
            obtain ⟨ia, im, ic⟩ := sp3
            obtain ⟨ja, jn, jc⟩ := cl3
            clear HI7 HTO7 KEEP7 hq0
            have K0 := HK0.out.below hqI
            have M2 := HM2.out.below hqI
            clear HK0 HM2
            have QI : Below w2.heap.size w2 wI := QH.trans (hqI.mono QH.size)
            have v0 := cell_of_row _ _ 0 _ _ _ K3.var
            have v1 := cell_of_row _ _ 1 _ _ _ K3.var
            simp only [List.getElem?_toArray, List.getElem?_cons_zero, List.getElem?_cons_succ, Sl.v] at v0 v1
            have z0 := cell_of_row _ _ 0 _ _ _ K0.var
            have z1 := cell_of_row _ _ 1 _ _ _ K0.var
            simp only [List.getElem?_toArray, List.getElem?_cons_zero, List.getElem?_cons_succ, Sl.v] at z0 z1
            have HE : Hid (Calls Try.prog 11 #[.agg #[.slice ia im ic, .slice ja jn jc], .agg #[.slice ea en ec, .slice fa fn fc]] wI fun e w' => e = .returned (.bool true) ∧ Below wI.heap.size wI w') := by have q := eqK_same K3 K0 HG.out.1 HG.out.2; dsimp only [Sl.v] at q; exact q
            clear K3 K0
            have HM2 : Hid (Marked wI b9 W6.heap.size wB.heap.size ⟨ga, gn, gc⟩ ⟨ka, kn, kc⟩ ss2) := M2
            clear M2
            go_wp2_with fail
            refine HE.out.mono ?_
            rintro e wJ ⟨rfl, hwJ⟩
            have M2 := HM2.out.below hwJ
            clear v0 v1 z0 z1 HE HM2
            have v0 := cell_of_row _ _ 0 _ _ _ M2.var
            have v1 := cell_of_row _ _ 1 _ _ _ M2.var
            simp only [List.getElem?_toArray, List.getElem?_cons_zero, List.getElem?_cons_succ, Sl.v] at v0 v1
            have HM2 : Hid (Marked wJ b9 W6.heap.size wB.heap.size ⟨ga, gn, gc⟩ ⟨ka, kn, kc⟩ ss2) := M2
            clear M2
            go_wp2_with fail
            refine (HMM.out _ HM2.out).mono ?_
            rintro e wK ⟨rfl, hwK⟩
            have QJ : Below w2.heap.size w2 wJ := QI.trans (hwJ.mono QI.size)
            have BK : Below w.heap.size w wK := HB2.out.trans ((QJ.trans (hwK.mono QJ.size)).mono HB2.out.size)
            go_wp2_with fail
            go_ret
            exact ⟨rfl, BK⟩
end Go.Proofs.Ytjeoeijbgkfpjaa
