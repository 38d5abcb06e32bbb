/- A heap is drawn. -/
import Derived.Test.YtbdpfmkpjeleaaaHpF
namespace Go.Proofs.Ytbdpfmkpjeleaaa
open Go.RowKit

theorem wrap_rng (x : Int) : -9223372036854775808 ≤ IntKind.wrap .i64 x ∧ IntKind.wrap .i64 x ≤ 9223372036854775807 := by
  rw [IntKind.wrap_i64]; omega
theorem no_text : (⟨#[]⟩ : ByteArray).size = 0 := rfl
theorem key_ok (k n : Int) (hk : -1 ≤ k) (hk' : k ≤ 7) (h0 : -9223372036854775808 ≤ n) (h1 : n ≤ 9223372036854775807) : (⟨k, n, ⟨#[]⟩⟩ : Vl).Ok ∧ (⟨k, n, ⟨#[]⟩⟩ : Vl).Sm :=
  ⟨⟨⟨by dsimp only; omega, by dsimp only; omega, h0, h1, by dsimp only; rw [no_text]; exact Nat.zero_le _⟩⟩, by unfold Vl.Sm; dsimp only; rw [no_text]; exact Nat.zero_le _⟩
theorem key6 (j : Nat) (r : Int) (hj : j < 4) (h0 : 0 ≤ r) (h1 : r < 2) : IntKind.wrap .i64 (IntKind.wrap .i64 ((j : Int) + 1) + r) ≤ 6 := by
  rw [wrap_mid ((j : Int) + 1) (by omega) (by omega), wrap_mid _ (by omega) (by omega)]
  omega
theorem table_pos (h : Hp) : 0 < h.table.ts.length := by
  unfold Hp.table
  by_cases hf : 500 ≤ h.ts.length
  · simp only [if_pos hf]; omega
  · simp only [if_neg hf, List.length_append, List.length_singleton]; omega
theorem draw_ok {k n : Int} {s : ByteArray} (h : VDraw k n s) : (⟨k, n, s⟩ : Vl).Ok ∧ (⟨k, n, s⟩ : Vl).Sm :=
  ⟨⟨vdraw_ok h⟩, by unfold Vl.Sm; have := h.s1; dsimp only; omega⟩
set_option maxRecDepth 100000 in
set_option maxHeartbeats 6400000 in
theorem heap_draw (B c : Nat) (w : World) (hC : Cur w B c) :
    Calls Try.prog 45 #[.pointer (some ⟨c, 0, none⟩)] w fun e w' => (∃ (h : Hp) (sp cl : Sl) (ss : List Sl), e = .returned (.agg #[sp.v, cl.v]) ∧ HGood h ∧ h.ts.length ≤ 600 ∧ h.vs.length ≤ 4000 ∧ OwnH w' w.heap.size h sp cl ss) ∧ Drawn B c w w' := by
  have hc := cur_lt hC
  obtain ⟨rR, rH, hs0, B0⟩ := rows2 w (Obj.cells #[.slice none 0 0, .slice none 0 0] 30) (Obj.cells #[.slice none 0 0, .slice none 0 0] 30)
  obtain ⟨W0, hW0⟩ : ∃ W0, W0 = (w.alloc (Obj.cells #[.slice none 0 0, .slice none 0 0] 30)).alloc (Obj.cells #[.slice none 0 0, .slice none 0 0] 30) := ⟨_, rfl⟩
  have D0 : DS B c w W0 ⟨[], []⟩ ⟨none, 0, 0⟩ ⟨none, 0, 0⟩ [] := by
    rw [← hW0] at rR rH B0
    exact ⟨(Drawn.refl hC).later B0, ⟨rH, World.ownsRow_nil _ _ _ _, Tabs.nil _ B0.size, World.ownsRow_nil _ _ _ _⟩, rR, rfl, rfl⟩
  have G0 : HLow ⟨[], []⟩ := ⟨⟨⟨fun _ hi => absurd hi (Nat.not_lt_zero _), fun _ hi => absurd hi (Nat.not_lt_zero _)⟩, ⟨fun _ hi => absurd hi (Nat.not_lt_zero _), fun _ hi => absurd hi (Nat.not_lt_zero _)⟩, fun _ hi => absurd hi (Nat.not_lt_zero _), fun _ hi => absurd hi (Nat.not_lt_zero _)⟩, fun _ hi => absurd hi (Nat.not_lt_zero _)⟩
  clear rR rH hs0 B0
  go_enter Try.func45, Try.ntmps45
  go_wp2_with fail
  rw [← hW0]
  clear hW0
  refine (below_any B c 3 _ D0.dr.cur (by decide)).mono ?_
  rintro e w1 ⟨n, rfl, hn0, _, hn3, hd1⟩
  have hn2 : n < 3 := hn3 (by decide)
  have D1 := D0.drawn hd1 hc
  clear D0 hd1 hn3
  obtain ⟨N, rfl⟩ : ∃ N : Nat, n = N := ⟨n.toNat, by omega⟩
  go_wp2_with fail
  go_loopw [5] (fun x wr => ∃ (i : Nat) (h : Hp) (sp cl : Sl) (ss : List Sl), x = .int .i64 i ∧ i ≤ N ∧ h.ts.length ≤ 2 * i ∧ i ≤ h.ts.length + 0 * i + 1000000 ∧ Hid (h.vs.length < 1) ∧ HLow h ∧ Hid (0 < i → 0 < h.ts.length) ∧ DS B c w wr h sp cl ss) (fun x _ => N - (intOf x).toNat)
  case atStart => exact ⟨0, ⟨[], []⟩, _, _, _, rfl, Nat.zero_le _, Nat.le_refl _, by simp, Nat.zero_lt_one, G0, fun h => absurd h (Nat.lt_irrefl _), D1⟩
  case round =>
    obtain ⟨i, h, ⟨pa, pn, pc⟩, ⟨ua, un, uc⟩, ss, rfl, hil, hts, _, HVS, hg, HP, d⟩ := hrel
    have hpn := d.n1
    have hun := d.n2
    dsimp only at hpn hun
    subst hpn
    subst hun
    obtain ⟨c0, c1, f0, f1⟩ := d.cells
    simp only [Sl.v] at c0 c1
    have hd : Hid (DS B c w wr h ⟨pa, h.ts.length, pc⟩ ⟨ua, h.vs.length, uc⟩ ss) := d
    have nlt := d.lt
    by_cases hlt : i < N
    · have hTV := d.tv hg.good (by omega) (by have := HVS.out; omega)
      have hwt : h.wt ≤ 1048576 := by have := good_wt hg.good; have := HVS.out; omega
      clear d
      go_wp2_with fail
      refine (newTable_spec h pa ua pc uc w.heap.size wr.heap.size wr (Nat.le_refl _) hwt hTV.1 hTV.2).mono ?_
      rintro e w2 ⟨⟨⟨qa, qn, qc⟩, ⟨va, vn, vc⟩, ss2, rfl, hO⟩, hb2⟩
      have D2 := hd.out.later hb2
      obtain ⟨e0, e1, g0, g1⟩ := D2.cells
      simp only [Sl.v] at e0 e1
      have D3 := D2.put hO nlt hc
      have HD3 : Hid (DS B c w ((w2.setCell ⟨w.heap.size + 1, 0, none⟩ (.slice qa qn qc)).setCell ⟨w.heap.size + 1, 1, none⟩ (.slice va vn vc)) h.table ⟨qa, qn, qc⟩ ⟨va, vn, vc⟩ ss2) := D3
      have nlt2 := D2.lt
      clear c0 c1 f0 f1 D2 D3 hO hb2 hTV
      dsimp only [Sl.v]
      go_wp2_with fail
      refine (below_any B c 5 _ HD3.out.dr.cur (by decide)).mono ?_
      rintro e w3 ⟨m, rfl, hm0, _, hm5, hdm⟩
      have hm4 : m < 5 := hm5 (by decide)
      obtain ⟨M, rfl⟩ : ∃ M : Nat, m = M := ⟨m.toNat, by omega⟩
      have D4 := HD3.out.drawn hdm hc
      have G1 := low_table hg
      have L1 := table_lens h
      clear e0 e1 g0 g1 HD3 hdm hm5 nlt2
      go_wp2_with fail
      go_loopw [7] (fun x wx => ∃ (j : Nat) (h2 : Hp) (sp cl : Sl) (ss : List Sl), x = .int .i64 j ∧ j ≤ M ∧ Hid (h2.ts.length = h.table.ts.length ∧ h2.vs.length < 1) ∧ HLow h2 ∧ DS B c w wx h2 sp cl ss) (fun x _ => M - (intOf x).toNat)
      case atStart => exact ⟨0, h.table, _, _, _, rfl, Nat.zero_le _, ⟨rfl, by have := HVS.out; omega⟩, G1, D4⟩
      case round =>
        rename World => wx
        clear D4 G1
        obtain ⟨j, h2, ⟨ea, en, ec⟩, ⟨fa, fn, fc⟩, ss3, rfl, hjm, HL2, hg2, d2⟩ := hrel
        have hen := d2.n1
        have hfn := d2.n2
        dsimp only at hen hfn
        subst hen
        subst hfn
        have hd2 : Hid (DS B c w wx h2 ⟨ea, h2.ts.length, ec⟩ ⟨fa, h2.vs.length, fc⟩ ss3) := d2
        have nlt2 := d2.lt
        by_cases hjt : j < M
        · have hwt2 : Hid (h2.wt ≤ 1048576) := by show _ ≤ _; have := good_wt hg2.good; have := HL2.out; omega
          have HB2 : Hid (h2.ts.length ≤ 600 ∧ h2.vs.length ≤ 4000) := by show _ ∧ _; have := HL2.out; omega
          have X := d2.later ((Below.refl _ _).drew)
          clear d2
          obtain ⟨c0, c1, f0, f1⟩ := X.cells
          simp only [Sl.v] at c0 c1
          go_wp2_with fail
          go_region_law (first
            | (go_simp; go_at_call 76; refine (below_any B c 2 _ X.dr.cur (by decide)).mono ?_; rintro e w' ⟨r2, rfl, hr0, _, hr2, hd'⟩; have hr3 : r2 < 2 := hr2 (by decide); clear hr2; have X := X.drawn hd' hc; obtain ⟨c0, c1, f0, f1⟩ := X.cells; simp only [Sl.v] at c0 c1)
            | (go_simp; go_at_call 67; refine (intV_any _ _).mono ?_; rintro e w' ⟨rfl, hb'⟩; have X := X.later hb'; obtain ⟨c0, c1, f0, f1⟩ := X.cells; simp only [Sl.v] at c0 c1)
            | (go_simp; go_at_call 46; refine (value_any B c _ X.dr.cur).mono ?_; rintro e w' ⟨k2, n2, s2, rfl, hVD, hd'⟩; have X := X.drawn hd' hc; obtain ⟨c0, c1, f0, f1⟩ := X.cells; simp only [Sl.v] at c0 c1)
            | (go_simp; go_at_call 21; have hTV := X.tv hg2.good HB2.out.1 HB2.out.2; refine (setAt_spec h2 ea fa ec fc w.heap.size _ _ _ _ _ _ _ _ _ _ _ (Nat.le_refl _) hwt2.out hTV.1 hTV.2).mono ?_; rintro e w' ⟨⟨⟨qa, qn, qc⟩, ⟨va, vn, vc⟩, ss4, rfl, hO⟩, hb'⟩; have hltX := X.lt; have X := X.later hb'; obtain ⟨c0, c1, f0, f1⟩ := X.cells; simp only [Sl.v] at c0 c1; dsimp only [Sl.v]))
          all_goals
            go_wp2_with fail
            go_roundw
            case rel =>
              refine ⟨j + 1, _, _, _, ss4, by go_num, by omega, ?_, ?_, X.put hO hltX hc⟩
              · have q := setAt_len h2
                exact ⟨(q _ _ _ _).1.trans HL2.out.1, by rw [(q _ _ _ _).2]; exact HL2.out.2⟩
              · exact low_setAt hg2 (key_ok _ _ (by decide) (by decide) (by first | omega | exact (wrap_rng _).1) (by first | omega | exact (wrap_rng _).2)) (draw_ok hVD) (key6 j r2 (by omega) (by omega) (by omega))
            case measure => simp [intOf]; omega
        · obtain rfl : j = M := by omega
          clear d2 nlt2
          go_wp2_with fail
          go_roundw
          case rel =>
            have h1 := HL2.out
            exact ⟨i + 1, h2, _, _, ss3, by go_num, by omega, by omega, by omega, h1.2, hg2, fun _ => by rw [h1.1]; exact table_pos h, hd2.out⟩
          case measure => simp [intOf]; omega
    · obtain rfl : i = N := by omega
      clear c0 c1 f0 f1 nlt
      go_wp2_with fail
      refine (below_any B c 4 _ d.dr.cur (by decide)).mono ?_
      rintro e w3 ⟨m, rfl, hm0, _, hm5, hdm⟩
      have hm4 : m < 4 := hm5 (by decide)
      obtain ⟨M, rfl⟩ : ∃ M : Nat, m = M := ⟨m.toNat, by omega⟩
      have D4 := d.drawn hdm hc
      clear hdm hm5 d hd
      go_wp2_with fail
      go_loopw [9] (fun x wx => ∃ (j : Nat) (h2 : Hp) (sp cl : Sl) (ss : List Sl), x = .int .i64 j ∧ j ≤ M ∧ Hid (h2.ts.length = h.ts.length ∧ h2.vs.length ≤ j) ∧ HLow h2 ∧ DS B c w wx h2 sp cl ss) (fun x _ => M - (intOf x).toNat)
      case atStart => exact ⟨0, h, _, _, _, rfl, Nat.zero_le _, ⟨rfl, by have := HVS.out; omega⟩, hg, D4⟩
      case round =>
        rename World => wx
        clear D4
        obtain ⟨j, h2, ⟨ea, en, ec⟩, ⟨fa, fn, fc⟩, ss3, rfl, hjm, HL2, hg2, d2⟩ := hrel
        have hen := d2.n1
        have hfn := d2.n2
        dsimp only at hen hfn
        subst hen
        subst hfn
        have hd2 : Hid (DS B c w wx h2 ⟨ea, h2.ts.length, ec⟩ ⟨fa, h2.vs.length, fc⟩ ss3) := d2
        by_cases hjt : j < M
        · have hwt2 : Hid (h2.wt ≤ 1048576) := by show _ ≤ _; have := good_wt hg2.good; have := HL2.out; omega
          have HB2 : Hid (h2.ts.length ≤ 600 ∧ h2.vs.length ≤ 4000) := by show _ ∧ _; have := HL2.out; omega
          have X := d2.later ((Below.refl _ _).drew)
          clear d2
          obtain ⟨c0, c1, f0, f1⟩ := X.cells
          simp only [Sl.v] at c0 c1
          go_wp2_with fail
          go_region_law (first
            | (go_simp; go_at_call 46; refine (value_any B c _ X.dr.cur).mono ?_; rintro e w' ⟨k2, n2, s2, rfl, hVD, hd'⟩; have X := X.drawn hd' hc; obtain ⟨c0, c1, f0, f1⟩ := X.cells; simp only [Sl.v] at c0 c1)
            | (go_simp; go_at_call 15; have hTV := X.tv hg2.good HB2.out.1 HB2.out.2; refine (newCell_spec h2 ea fa ec fc w.heap.size _ _ _ _ _ (Nat.le_refl _) hwt2.out hTV.1 hTV.2).mono ?_; rintro e w' ⟨⟨⟨qa, qn, qc⟩, ⟨va, vn, vc⟩, ss4, rfl, hO⟩, hb'⟩; have hltX := X.lt; have X := X.later hb'; obtain ⟨c0, c1, f0, f1⟩ := X.cells; simp only [Sl.v] at c0 c1; dsimp only [Sl.v]))
          all_goals
            go_wp2_with fail
            go_roundw
            case rel =>
              refine ⟨j + 1, _, _, _, ss4, by go_num, by omega, ?_, ?_, X.put hO hltX hc⟩
              · have q := cell_lens h2
                exact ⟨(q _).1.trans HL2.out.1, Nat.le_trans (q _).2 (Nat.succ_le_succ HL2.out.2)⟩
              · exact low_cell hg2 (draw_ok hVD).1 (draw_ok hVD).2
            case measure => simp [intOf]; omega
        · obtain rfl : j = M := by omega
          clear d2
          have hg2 := hg2.good
          have HL3 : Hid (h2.ts.length ≤ 4 ∧ h2.vs.length ≤ 3 ∧ (0 < i → 0 < h2.ts.length)) := by
            have := HL2.out
            have q := HP.out
            refine ⟨by omega, by omega, fun h => by have := q h; omega⟩
          clear HL2 HP HVS hg hts
          have d2' := hd2.out
          clear hd2
          by_cases hN : i = 0
          · subst hN
            go_wp2_with fail
            refine (once_any B c 40 _ d2'.dr.cur (by decide)).mono ?_
            rintro e wo ⟨x, rfl, hdo⟩
            have dO := d2'.drawn hdo hc
            clear d2' hdo
            cases x
            · have HB5 : Hid (h2.ts.length ≤ 600 ∧ h2.vs.length ≤ 4000) := by show _ ∧ _; have := HL3.out; omega
              have HD : Hid (DS B c w wo h2 ⟨ea, h2.ts.length, ec⟩ ⟨fa, h2.vs.length, fc⟩ ss3) := dO
              obtain ⟨c0, c1, f0, f1⟩ := HD.out.cells
              have e0 := cell_of_row _ _ 0 _ _ _ HD.out.rv
              have e1 := cell_of_row _ _ 1 _ _ _ HD.out.rv
              have g0 := frozen_of_row _ _ 0 _ _ HD.out.rv
              have g1 := frozen_of_row _ _ 1 _ _ HD.out.rv
              simp only [List.getElem?_toArray, List.getElem?_cons_zero, List.getElem?_cons_succ, Sl.v] at c0 c1 e0 e1
              have nlt := HD.out.lt
              clear dO
              go_wp2_with fail
              refine bodyPost_ret (v := .agg #[.slice ea h2.ts.length ec, .slice fa h2.vs.length fc]) (by simp [results, Try.results45, go_sem, *]) rfl ⟨⟨h2, ⟨ea, h2.ts.length, ec⟩, ⟨fa, h2.vs.length, fc⟩, ss3, rfl, hg2, HB5.out.1, HB5.out.2, HD.out.n1, HD.out.n2, ?_⟩, ?_⟩
              · have H25 := HD.out.va.own
                have ne : ∀ b cs T, wo.heap[b]? = some (.cells cs T (0, 0)) → 30 ≠ T → b ≠ w.heap.size := fun b cs T h1 h2 e => by
                  subst e; rw [HD.out.rv] at h1; simp only [Option.some.injEq, Obj.cells.injEq] at h1; exact h2 h1.2.1
                refine H25.stored HD.out.rv (by decide) (fun b hb => ?_) (by simp)
                repeat (first | (with_reducible refine (drew_at _ _).trans ?_) | (with_reducible refine (heap_setCell_other _ _ _ _ (by dsimp only; omega)).trans ?_))
                with_reducible rfl
              · have H26 := HD.out.dr
                repeat (first | (with_reducible exact H26) | (with_reducible refine Drawn.drew ?_) | (with_reducible refine Drawn.put ?_ hc (by simp) ))
            · go_wp2_with fail
              go_loopw [91] (fun _ wy => ∃ (h3 : Hp) (sp cl : Sl) (ss : List Sl), Hid (h3.ts.length ≤ 501 ∧ h3.vs.length ≤ 3) ∧ HGood h3 ∧ DS B c w wy h3 sp cl ss) (fun _ W => mT W ⟨w.heap.size + 1, 0, none⟩ 501)
              case atStart => exact ⟨h2, _, _, _, by show _ ∧ _; have := HL3.out; omega, hg2, dO⟩
              case round =>
                rename World => wy
                clear dO
                obtain ⟨h3, ⟨ka, kn, kc⟩, ⟨la, ln, lc⟩, ss5, HL5, hg3, d3⟩ := hrel
                have hkn := d3.n1
                have hln := d3.n2
                dsimp only at hkn hln
                subst hkn
                subst hln
                have HY : Hid (DS B c w wy h3 ⟨ka, h3.ts.length, kc⟩ ⟨la, h3.vs.length, lc⟩ ss5) := d3
                have X := d3.later ((Below.refl _ _).drew)
                clear d3
                obtain ⟨c0, c1, f0, f1⟩ := X.cells
                simp only [Sl.v] at c0 c1
                go_wp2_with fail
                go_region_law (first
                  | (go_simp; go_at_call 76; refine (below_any B c 2 _ X.dr.cur (by decide)).mono ?_; rintro e w' ⟨r2, rfl, hr0, _, hr2, hd'⟩; have hr3 : r2 < 2 := hr2 (by decide); clear hr2; have X := X.drawn hd' hc; obtain ⟨c0, c1, f0, f1⟩ := X.cells; simp only [Sl.v] at c0 c1))
                all_goals
                  have hwr : IntKind.wrap .i64 (499 + r2) = 499 + r2 := wrap_mid _ (by omega) (by omega)
                  by_cases hgo : (h3.ts.length : Int) < 499 + r2
                  · obtain ⟨i2, hi2, hx0, hx1, hx2⟩ := info_parts info_prs
                    have hb4 := bel_alloc w' (Obj.cells #[] 61)
                    have REMP := row_empty w' 61 6
                    have OWN : (w'.alloc (Obj.cells #[] 61)).ownsRow w.heap.size 59 1 (.slice ka h3.ts.length kc) h3.ts.length (ss5.map Sl.v) := own_below X.va.own.spine hb4
                    have NB : ∀ j u, [Value.slice (some ⟨w'.heap.size, 0, none⟩) 0 0][j]? = some u → ∃ ad, some (⟨w'.heap.size + 1, 0, none⟩ : Addr) = some ad ∧ ((w'.alloc (Obj.cells #[] 61)).alloc (Obj.cells #[.slice (some ⟨w'.heap.size, 0, none⟩) 0 0] 59)).cell? (ad.add j) = some u := fun j u hu => ⟨_, rfl, World.news_of_block (by have := heap_alloc_new (w'.alloc (Obj.cells #[] 61)) (Obj.cells #[.slice (some ⟨w'.heap.size, 0, none⟩) 0 0] 59); rwa [size_alloc] at this) j u hu⟩
                    have K5 : Hid (∀ (w5 : World) (O : Obj), ((w'.alloc (Obj.cells #[] 61)).alloc O).grownBy w5 (Value.slice ka h3.ts.length kc).ownBlock → w5.cell? ⟨w.heap.size + 1, 0, none⟩ = some (.slice ka h3.ts.length kc) ∧ w5.frozen? ⟨w.heap.size + 1, 0, none⟩ = false) := fun w5 O h2 => by
                      have x := VarH.table_store X.va hb4 O h2
                      exact ⟨cell_of_row _ _ 0 _ _ _ x, frozen_of_row _ _ 0 _ _ x⟩
                    have HX : Hid (DS B c w w' h3 ⟨ka, h3.ts.length, kc⟩ ⟨la, h3.vs.length, lc⟩ ss5) := X
                    have hxl := X.lt
                    have qC : ∀ O : Obj, (w'.alloc O).cell? ⟨w.heap.size + 1, 0, none⟩ = w'.cell? ⟨w.heap.size + 1, 0, none⟩ := fun O => (bel_alloc w' O).cell hxl
                    have hl5 : h3.ts.length ≤ 501 := HL5.out.1
                    have hsl : w.heap.size ≤ w'.heap.size := by omega
                    clear X
                    go_wp2_with (at_builtin; go_must (refine wpList_append_any _ rfl _ _ 27 rfl w.heap.size 59 i2 _ 1 24 Try.underlying27 hi2 hx0 hx1 hx2 rfl (by decide) _ _ _ rfl (World.ownsRow.alloc OWN _) (some ⟨w'.heap.size + 1, 0, none⟩) 1 1 [.slice (some ⟨w'.heap.size, 0, none⟩) 0 0] rfl rfl NB (by simp [Value.oneCell']) (by unfold maxLen; omega) (by omega) (by rw [size_alloc, size_alloc]; omega) _ rfl ?_; intro b5 c5 w5 own5 gr5 at5; obtain ⟨c05, f05⟩ := K5.out w5 _ gr5))
                    have DN := HX.out.tab hb4 (s4 := ⟨some ⟨w'.heap.size, 0, none⟩, 0, 0⟩) REMP _ gr5 b5 c5 own5 hc
                    go_roundw
                    case rel => exact ⟨_, _, _, _, by show _ ∧ _; simp only [List.length_append, List.length_singleton]; exact ⟨by omega, HL5.out.2⟩, good_tab hg3, DN⟩
                    case measure =>
                      have q1 : mT _ _ 501 = _ := mT_eq (M := 501) (show _ = some (Value.slice b5 (h3.ts.length + 1) c5) from DN.cells.1)
                      have q2 : mT _ _ 501 = _ := mT_eq (M := 501) (show _ = some (Value.slice ka h3.ts.length kc) from HY.out.cells.1)
                      rw [q2]
                      refine Nat.lt_of_le_of_lt (Nat.le_of_eq q1) ?_
                      omega
                  · have hgo' : ¬ ((h3.ts.length : Int) < 499 + r2) := hgo
                    go_wp2_with fail
                    go_loopw [104] (fun _ wz => ∃ (h4 : Hp) (sp cl : Sl) (ss : List Sl), Hid (h4.ts.length ≤ 501 ∧ h4.vs.length ≤ 3001) ∧ HGood h4 ∧ DS B c w wz h4 sp cl ss) (fun _ W => mT W ⟨w.heap.size + 1, 1, none⟩ 3001)
                    case atStart => exact ⟨h3, _, _, _, by show _ ∧ _; have := HL5.out; omega, hg3, X⟩
                    case round =>
                      rename World => wz
                      clear X HY hgo' hgo hwr
                      obtain ⟨h4, ⟨ma, mn, mc⟩, ⟨oa, on, oc⟩, ss6, HL6, hg4, d4⟩ := hrel
                      have hmn := d4.n1
                      have hon := d4.n2
                      dsimp only at hmn hon
                      subst hmn
                      subst hon
                      have HY : Hid (DS B c w wz h4 ⟨ma, h4.ts.length, mc⟩ ⟨oa, h4.vs.length, oc⟩ ss6) := d4
                      have X := d4.later ((Below.refl _ _).drew)
                      clear d4
                      obtain ⟨c0, c1, f0, f1⟩ := X.cells
                      simp only [Sl.v] at c0 c1
                      go_wp2_with fail
                      go_region_law (first
                        | (go_simp; go_at_call 76; refine (below_any B c 2 _ X.dr.cur (by decide)).mono ?_; rintro e w' ⟨r3, rfl, hs0, _, hs2, hd'⟩; have hs3 : r3 < 2 := hs2 (by decide); clear hs2; have X := X.drawn hd' hc; obtain ⟨c0, c1, f0, f1⟩ := X.cells; simp only [Sl.v] at c0 c1))
                      all_goals
                        rename World => w8
                        have hwr : IntKind.wrap .i64 (2999 + r3) = 2999 + r3 := wrap_mid _ (by omega) (by omega)
                        by_cases hgo : (h4.vs.length : Int) < 2999 + r3
                        · obtain ⟨i0, hi0, hz0, hz1, hz2⟩ := info_parts info_val
                          have OWN : w8.ownsRow w.heap.size 32 3 (.slice oa h4.vs.length oc) h4.vs.length (flatV h4.vs) := X.va.own.cells
                          have NB : ∀ j u, [Value.int .i64 0, Value.int .i64 0, Value.string ⟨#[]⟩][j]? = some u → ∃ ad, some (⟨w8.heap.size, 0, none⟩ : Addr) = some ad ∧ (w8.alloc (Obj.cells #[.int .i64 0, .int .i64 0, .string ⟨#[]⟩] 32)).cell? (ad.add j) = some u := fun j u hu => ⟨_, rfl, World.news_of_block (heap_alloc_new w8 _) j u hu⟩
                          have K5 : Hid (∀ (w5 : World) (O : Obj), (w8.alloc O).grownBy w5 (Value.slice oa h4.vs.length oc).ownBlock → w5.cell? ⟨w.heap.size + 1, 1, none⟩ = some (.slice oa h4.vs.length oc) ∧ w5.frozen? ⟨w.heap.size + 1, 1, none⟩ = false) := fun w5 O h2 => by
                            have x := VarH.cell_store X.va (Below.refl _ _) O h2
                            exact ⟨cell_of_row _ _ 1 _ _ _ x, frozen_of_row _ _ 1 _ _ x⟩
                          have HX : Hid (DS B c w w8 h4 ⟨ma, h4.ts.length, mc⟩ ⟨oa, h4.vs.length, oc⟩ ss6) := X
                          have hxl := X.lt
                          have qC : ∀ O : Obj, (w8.alloc O).cell? ⟨w.heap.size + 1, 1, none⟩ = w8.cell? ⟨w.heap.size + 1, 1, none⟩ := fun O => (bel_alloc w8 O).cell hxl
                          have hl6 : h4.vs.length ≤ 3001 := HL6.out.2
                          have hsl : w.heap.size ≤ w8.heap.size := by omega
                          clear X
                          go_wp2_with (at_builtin; go_must (refine wpList_append_any _ rfl _ _ 28 rfl w.heap.size 32 i0 _ 3 32 Try.underlying28 hi0 hz0 hz1 hz2 rfl (by decide) _ _ _ rfl (World.ownsRow.alloc OWN _) (some ⟨w8.heap.size, 0, none⟩) 1 1 [.int .i64 0, .int .i64 0, .string ⟨#[]⟩] rfl rfl NB (by simp [Value.oneCell']) (by unfold maxLen; omega) (by omega) (by rw [size_alloc]; omega) _ rfl ?_; intro b5 c5 w5 own5 gr5 at5; obtain ⟨c05, f05⟩ := K5.out w5 _ gr5))
                          have DN := HX.out.cel (v := ⟨0, 0, ⟨#[]⟩⟩) (Below.refl _ _) _ gr5 b5 c5 own5 hc
                          go_roundw
                          case rel => exact ⟨_, _, _, _, by show _ ∧ _; simp only [List.length_append, List.length_singleton]; exact ⟨HL6.out.1, by omega⟩, good_cel hg4 (key_ok _ _ (by decide) (by decide) (by decide) (by decide)).1 (key_ok _ _ (by decide) (by decide) (by decide) (by decide)).2, DN⟩
                          case measure =>
                            have q1 : mT _ _ 3001 = _ := mT_eq (M := 3001) (show _ = some (Value.slice b5 (h4.vs.length + 1) c5) from DN.cells.2.1)
                            have q2 : mT _ _ 3001 = _ := mT_eq (M := 3001) (show _ = some (Value.slice oa h4.vs.length oc) from HY.out.cells.2.1)
                            rw [q2]
                            refine Nat.lt_of_le_of_lt (Nat.le_of_eq q1) ?_
                            omega
                        · have hgo' : ¬ ((h4.vs.length : Int) < 2999 + r3) := hgo
                          clear hgo c0 c1 f0 f1
                          have HD : Hid (DS B c w w8 h4 ⟨ma, h4.ts.length, mc⟩ ⟨oa, h4.vs.length, oc⟩ ss6) := X
                          obtain ⟨c0, c1, f0, f1⟩ := HD.out.cells
                          have e0 := cell_of_row _ _ 0 _ _ _ HD.out.rv
                          have e1 := cell_of_row _ _ 1 _ _ _ HD.out.rv
                          have g0 := frozen_of_row _ _ 0 _ _ HD.out.rv
                          have g1 := frozen_of_row _ _ 1 _ _ HD.out.rv
                          simp only [List.getElem?_toArray, List.getElem?_cons_zero, List.getElem?_cons_succ, Sl.v] at c0 c1 e0 e1
                          have nlt := HD.out.lt
                          clear X
                          go_wp2_with fail
                          refine bodyPost_ret (v := .agg #[.slice ma h4.ts.length mc, .slice oa h4.vs.length oc]) (by simp [results, Try.results45, go_sem, *]) rfl ⟨⟨h4, ⟨ma, h4.ts.length, mc⟩, ⟨oa, h4.vs.length, oc⟩, rfl, hg4, by have := HL6.out; omega, by have := HL6.out; omega, ss6, HD.out.n1, HD.out.n2, ?_⟩, ?_⟩
                          · have H25 := HD.out.va.own
                            have ne : ∀ b cs T, w8.heap[b]? = some (.cells cs T (0, 0)) → 30 ≠ T → b ≠ w.heap.size := fun b cs T h1 h2 e => by
                              subst e; rw [HD.out.rv] at h1; simp only [Option.some.injEq, Obj.cells.injEq] at h1; exact h2 h1.2.1
                            refine H25.stored HD.out.rv (by decide) (fun b hb => ?_) (by simp)
                            repeat (first | (with_reducible refine (drew_at _ _).trans ?_) | (with_reducible refine (heap_setCell_other _ _ _ _ (by dsimp only; omega)).trans ?_))
                            with_reducible rfl
                          · have H26 := HD.out.dr
                            repeat (first | (with_reducible exact H26) | (with_reducible refine Drawn.drew ?_) | (with_reducible refine Drawn.put ?_ hc (by simp) ))
          · have hNp : (0 : Int) < i := by omega
            go_wp2_with fail
            refine (once_any B c 24 _ d2'.dr.cur (by decide)).mono ?_
            rintro e wo1 ⟨x1, rfl, hd1⟩
            have d1 := d2'.drawn hd1 hc
            clear d2' hd1
            cases x1
            · go_wp2_with fail
              refine (once_any B c 40 _ d1.dr.cur (by decide)).mono ?_
              rintro e wo ⟨x, rfl, hdo⟩
              have dO := d1.drawn hdo hc
              clear d1 hdo
              cases x
              · have HB5 : Hid (h2.ts.length ≤ 600 ∧ h2.vs.length ≤ 4000) := by show _ ∧ _; have := HL3.out; omega
                have HD : Hid (DS B c w wo h2 ⟨ea, h2.ts.length, ec⟩ ⟨fa, h2.vs.length, fc⟩ ss3) := dO
                obtain ⟨c0, c1, f0, f1⟩ := HD.out.cells
                have e0 := cell_of_row _ _ 0 _ _ _ HD.out.rv
                have e1 := cell_of_row _ _ 1 _ _ _ HD.out.rv
                have g0 := frozen_of_row _ _ 0 _ _ HD.out.rv
                have g1 := frozen_of_row _ _ 1 _ _ HD.out.rv
                simp only [List.getElem?_toArray, List.getElem?_cons_zero, List.getElem?_cons_succ, Sl.v] at c0 c1 e0 e1
                have nlt := HD.out.lt
                clear dO
                go_wp2_with fail
                refine bodyPost_ret (v := .agg #[.slice ea h2.ts.length ec, .slice fa h2.vs.length fc]) (by simp [results, Try.results45, go_sem, *]) rfl ⟨⟨h2, ⟨ea, h2.ts.length, ec⟩, ⟨fa, h2.vs.length, fc⟩, ss3, rfl, hg2, HB5.out.1, HB5.out.2, HD.out.n1, HD.out.n2, ?_⟩, ?_⟩
                · have H25 := HD.out.va.own
                  have ne : ∀ b cs T, wo.heap[b]? = some (.cells cs T (0, 0)) → 30 ≠ T → b ≠ w.heap.size := fun b cs T h1 h2 e => by
                    subst e; rw [HD.out.rv] at h1; simp only [Option.some.injEq, Obj.cells.injEq] at h1; exact h2 h1.2.1
                  refine H25.stored HD.out.rv (by decide) (fun b hb => ?_) (by simp)
                  repeat (first | (with_reducible refine (drew_at _ _).trans ?_) | (with_reducible refine (heap_setCell_other _ _ _ _ (by dsimp only; omega)).trans ?_))
                  with_reducible rfl
                · have H26 := HD.out.dr
                  repeat (first | (with_reducible exact H26) | (with_reducible refine Drawn.drew ?_) | (with_reducible refine Drawn.put ?_ hc (by simp) ))
              · go_wp2_with fail
                go_loopw [91] (fun _ wy => ∃ (h3 : Hp) (sp cl : Sl) (ss : List Sl), Hid (h3.ts.length ≤ 501 ∧ h3.vs.length ≤ 3) ∧ HGood h3 ∧ DS B c w wy h3 sp cl ss) (fun _ W => mT W ⟨w.heap.size + 1, 0, none⟩ 501)
                case atStart => exact ⟨h2, _, _, _, by show _ ∧ _; have := HL3.out; omega, hg2, dO⟩
                case round =>
                  rename World => wy
                  clear dO
                  obtain ⟨h3, ⟨ka, kn, kc⟩, ⟨la, ln, lc⟩, ss5, HL5, hg3, d3⟩ := hrel
                  have hkn := d3.n1
                  have hln := d3.n2
                  dsimp only at hkn hln
                  subst hkn
                  subst hln
                  have HY : Hid (DS B c w wy h3 ⟨ka, h3.ts.length, kc⟩ ⟨la, h3.vs.length, lc⟩ ss5) := d3
                  have X := d3.later ((Below.refl _ _).drew)
                  clear d3
                  obtain ⟨c0, c1, f0, f1⟩ := X.cells
                  simp only [Sl.v] at c0 c1
                  go_wp2_with fail
                  go_region_law (first
                    | (go_simp; go_at_call 76; refine (below_any B c 2 _ X.dr.cur (by decide)).mono ?_; rintro e w' ⟨r2, rfl, hr0, _, hr2, hd'⟩; have hr3 : r2 < 2 := hr2 (by decide); clear hr2; have X := X.drawn hd' hc; obtain ⟨c0, c1, f0, f1⟩ := X.cells; simp only [Sl.v] at c0 c1))
                  all_goals
                    have hwr : IntKind.wrap .i64 (499 + r2) = 499 + r2 := wrap_mid _ (by omega) (by omega)
                    by_cases hgo : (h3.ts.length : Int) < 499 + r2
                    · obtain ⟨i2, hi2, hx0, hx1, hx2⟩ := info_parts info_prs
                      have hb4 := bel_alloc w' (Obj.cells #[] 61)
                      have REMP := row_empty w' 61 6
                      have OWN : (w'.alloc (Obj.cells #[] 61)).ownsRow w.heap.size 59 1 (.slice ka h3.ts.length kc) h3.ts.length (ss5.map Sl.v) := own_below X.va.own.spine hb4
                      have NB : ∀ j u, [Value.slice (some ⟨w'.heap.size, 0, none⟩) 0 0][j]? = some u → ∃ ad, some (⟨w'.heap.size + 1, 0, none⟩ : Addr) = some ad ∧ ((w'.alloc (Obj.cells #[] 61)).alloc (Obj.cells #[.slice (some ⟨w'.heap.size, 0, none⟩) 0 0] 59)).cell? (ad.add j) = some u := fun j u hu => ⟨_, rfl, World.news_of_block (by have := heap_alloc_new (w'.alloc (Obj.cells #[] 61)) (Obj.cells #[.slice (some ⟨w'.heap.size, 0, none⟩) 0 0] 59); rwa [size_alloc] at this) j u hu⟩
                      have K5 : Hid (∀ (w5 : World) (O : Obj), ((w'.alloc (Obj.cells #[] 61)).alloc O).grownBy w5 (Value.slice ka h3.ts.length kc).ownBlock → w5.cell? ⟨w.heap.size + 1, 0, none⟩ = some (.slice ka h3.ts.length kc) ∧ w5.frozen? ⟨w.heap.size + 1, 0, none⟩ = false) := fun w5 O h2 => by
                        have x := VarH.table_store X.va hb4 O h2
                        exact ⟨cell_of_row _ _ 0 _ _ _ x, frozen_of_row _ _ 0 _ _ x⟩
                      have HX : Hid (DS B c w w' h3 ⟨ka, h3.ts.length, kc⟩ ⟨la, h3.vs.length, lc⟩ ss5) := X
                      have hxl := X.lt
                      have qC : ∀ O : Obj, (w'.alloc O).cell? ⟨w.heap.size + 1, 0, none⟩ = w'.cell? ⟨w.heap.size + 1, 0, none⟩ := fun O => (bel_alloc w' O).cell hxl
                      have hl5 : h3.ts.length ≤ 501 := HL5.out.1
                      have hsl : w.heap.size ≤ w'.heap.size := by omega
                      clear X
                      go_wp2_with (at_builtin; go_must (refine wpList_append_any _ rfl _ _ 27 rfl w.heap.size 59 i2 _ 1 24 Try.underlying27 hi2 hx0 hx1 hx2 rfl (by decide) _ _ _ rfl (World.ownsRow.alloc OWN _) (some ⟨w'.heap.size + 1, 0, none⟩) 1 1 [.slice (some ⟨w'.heap.size, 0, none⟩) 0 0] rfl rfl NB (by simp [Value.oneCell']) (by unfold maxLen; omega) (by omega) (by rw [size_alloc, size_alloc]; omega) _ rfl ?_; intro b5 c5 w5 own5 gr5 at5; obtain ⟨c05, f05⟩ := K5.out w5 _ gr5))
                      have DN := HX.out.tab hb4 (s4 := ⟨some ⟨w'.heap.size, 0, none⟩, 0, 0⟩) REMP _ gr5 b5 c5 own5 hc
                      go_roundw
                      case rel => exact ⟨_, _, _, _, by show _ ∧ _; simp only [List.length_append, List.length_singleton]; exact ⟨by omega, HL5.out.2⟩, good_tab hg3, DN⟩
                      case measure =>
                        have q1 : mT _ _ 501 = _ := mT_eq (M := 501) (show _ = some (Value.slice b5 (h3.ts.length + 1) c5) from DN.cells.1)
                        have q2 : mT _ _ 501 = _ := mT_eq (M := 501) (show _ = some (Value.slice ka h3.ts.length kc) from HY.out.cells.1)
                        rw [q2]
                        refine Nat.lt_of_le_of_lt (Nat.le_of_eq q1) ?_
                        omega
                    · have hgo' : ¬ ((h3.ts.length : Int) < 499 + r2) := hgo
                      go_wp2_with fail
                      go_loopw [104] (fun _ wz => ∃ (h4 : Hp) (sp cl : Sl) (ss : List Sl), Hid (h4.ts.length ≤ 501 ∧ h4.vs.length ≤ 3001) ∧ HGood h4 ∧ DS B c w wz h4 sp cl ss) (fun _ W => mT W ⟨w.heap.size + 1, 1, none⟩ 3001)
                      case atStart => exact ⟨h3, _, _, _, by show _ ∧ _; have := HL5.out; omega, hg3, X⟩
                      case round =>
                        rename World => wz
                        clear X HY hgo' hgo hwr
                        obtain ⟨h4, ⟨ma, mn, mc⟩, ⟨oa, on, oc⟩, ss6, HL6, hg4, d4⟩ := hrel
                        have hmn := d4.n1
                        have hon := d4.n2
                        dsimp only at hmn hon
                        subst hmn
                        subst hon
                        have HY : Hid (DS B c w wz h4 ⟨ma, h4.ts.length, mc⟩ ⟨oa, h4.vs.length, oc⟩ ss6) := d4
                        have X := d4.later ((Below.refl _ _).drew)
                        clear d4
                        obtain ⟨c0, c1, f0, f1⟩ := X.cells
                        simp only [Sl.v] at c0 c1
                        go_wp2_with fail
                        go_region_law (first
                          | (go_simp; go_at_call 76; refine (below_any B c 2 _ X.dr.cur (by decide)).mono ?_; rintro e w' ⟨r3, rfl, hs0, _, hs2, hd'⟩; have hs3 : r3 < 2 := hs2 (by decide); clear hs2; have X := X.drawn hd' hc; obtain ⟨c0, c1, f0, f1⟩ := X.cells; simp only [Sl.v] at c0 c1))
                        all_goals
                          rename World => w8
                          have hwr : IntKind.wrap .i64 (2999 + r3) = 2999 + r3 := wrap_mid _ (by omega) (by omega)
                          by_cases hgo : (h4.vs.length : Int) < 2999 + r3
                          · obtain ⟨i0, hi0, hz0, hz1, hz2⟩ := info_parts info_val
                            have OWN : w8.ownsRow w.heap.size 32 3 (.slice oa h4.vs.length oc) h4.vs.length (flatV h4.vs) := X.va.own.cells
                            have NB : ∀ j u, [Value.int .i64 0, Value.int .i64 0, Value.string ⟨#[]⟩][j]? = some u → ∃ ad, some (⟨w8.heap.size, 0, none⟩ : Addr) = some ad ∧ (w8.alloc (Obj.cells #[.int .i64 0, .int .i64 0, .string ⟨#[]⟩] 32)).cell? (ad.add j) = some u := fun j u hu => ⟨_, rfl, World.news_of_block (heap_alloc_new w8 _) j u hu⟩
                            have K5 : Hid (∀ (w5 : World) (O : Obj), (w8.alloc O).grownBy w5 (Value.slice oa h4.vs.length oc).ownBlock → w5.cell? ⟨w.heap.size + 1, 1, none⟩ = some (.slice oa h4.vs.length oc) ∧ w5.frozen? ⟨w.heap.size + 1, 1, none⟩ = false) := fun w5 O h2 => by
                              have x := VarH.cell_store X.va (Below.refl _ _) O h2
                              exact ⟨cell_of_row _ _ 1 _ _ _ x, frozen_of_row _ _ 1 _ _ x⟩
                            have HX : Hid (DS B c w w8 h4 ⟨ma, h4.ts.length, mc⟩ ⟨oa, h4.vs.length, oc⟩ ss6) := X
                            have hxl := X.lt
                            have qC : ∀ O : Obj, (w8.alloc O).cell? ⟨w.heap.size + 1, 1, none⟩ = w8.cell? ⟨w.heap.size + 1, 1, none⟩ := fun O => (bel_alloc w8 O).cell hxl
                            have hl6 : h4.vs.length ≤ 3001 := HL6.out.2
                            have hsl : w.heap.size ≤ w8.heap.size := by omega
                            clear X
                            go_wp2_with (at_builtin; go_must (refine wpList_append_any _ rfl _ _ 28 rfl w.heap.size 32 i0 _ 3 32 Try.underlying28 hi0 hz0 hz1 hz2 rfl (by decide) _ _ _ rfl (World.ownsRow.alloc OWN _) (some ⟨w8.heap.size, 0, none⟩) 1 1 [.int .i64 0, .int .i64 0, .string ⟨#[]⟩] rfl rfl NB (by simp [Value.oneCell']) (by unfold maxLen; omega) (by omega) (by rw [size_alloc]; omega) _ rfl ?_; intro b5 c5 w5 own5 gr5 at5; obtain ⟨c05, f05⟩ := K5.out w5 _ gr5))
                            have DN := HX.out.cel (v := ⟨0, 0, ⟨#[]⟩⟩) (Below.refl _ _) _ gr5 b5 c5 own5 hc
                            go_roundw
                            case rel => exact ⟨_, _, _, _, by show _ ∧ _; simp only [List.length_append, List.length_singleton]; exact ⟨HL6.out.1, by omega⟩, good_cel hg4 (key_ok _ _ (by decide) (by decide) (by decide) (by decide)).1 (key_ok _ _ (by decide) (by decide) (by decide) (by decide)).2, DN⟩
                            case measure =>
                              have q1 : mT _ _ 3001 = _ := mT_eq (M := 3001) (show _ = some (Value.slice b5 (h4.vs.length + 1) c5) from DN.cells.2.1)
                              have q2 : mT _ _ 3001 = _ := mT_eq (M := 3001) (show _ = some (Value.slice oa h4.vs.length oc) from HY.out.cells.2.1)
                              rw [q2]
                              refine Nat.lt_of_le_of_lt (Nat.le_of_eq q1) ?_
                              omega
                          · have hgo' : ¬ ((h4.vs.length : Int) < 2999 + r3) := hgo
                            clear hgo c0 c1 f0 f1
                            have HD : Hid (DS B c w w8 h4 ⟨ma, h4.ts.length, mc⟩ ⟨oa, h4.vs.length, oc⟩ ss6) := X
                            obtain ⟨c0, c1, f0, f1⟩ := HD.out.cells
                            have e0 := cell_of_row _ _ 0 _ _ _ HD.out.rv
                            have e1 := cell_of_row _ _ 1 _ _ _ HD.out.rv
                            have g0 := frozen_of_row _ _ 0 _ _ HD.out.rv
                            have g1 := frozen_of_row _ _ 1 _ _ HD.out.rv
                            simp only [List.getElem?_toArray, List.getElem?_cons_zero, List.getElem?_cons_succ, Sl.v] at c0 c1 e0 e1
                            have nlt := HD.out.lt
                            clear X
                            go_wp2_with fail
                            refine bodyPost_ret (v := .agg #[.slice ma h4.ts.length mc, .slice oa h4.vs.length oc]) (by simp [results, Try.results45, go_sem, *]) rfl ⟨⟨h4, ⟨ma, h4.ts.length, mc⟩, ⟨oa, h4.vs.length, oc⟩, rfl, hg4, by have := HL6.out; omega, by have := HL6.out; omega, ss6, HD.out.n1, HD.out.n2, ?_⟩, ?_⟩
                            · have H25 := HD.out.va.own
                              have ne : ∀ b cs T, w8.heap[b]? = some (.cells cs T (0, 0)) → 30 ≠ T → b ≠ w.heap.size := fun b cs T h1 h2 e => by
                                subst e; rw [HD.out.rv] at h1; simp only [Option.some.injEq, Obj.cells.injEq] at h1; exact h2 h1.2.1
                              refine H25.stored HD.out.rv (by decide) (fun b hb => ?_) (by simp)
                              repeat (first | (with_reducible refine (drew_at _ _).trans ?_) | (with_reducible refine (heap_setCell_other _ _ _ _ (by dsimp only; omega)).trans ?_))
                              with_reducible rfl
                            · have H26 := HD.out.dr
                              repeat (first | (with_reducible exact H26) | (with_reducible refine Drawn.drew ?_) | (with_reducible refine Drawn.put ?_ hc (by simp) ))
            · have hpos : 0 < h2.ts.length := HL3.out.2.2 (by omega)
              have hsl3 : ss3.length = h2.ts.length := by have := d1.va.own.tabs.1; rw [Hp.xss, List.length_map] at this; exact this
              obtain ⟨t0, ts0, vs0, s0, sr0, HH2⟩ : ∃ t ts vs s sr, h2 = ⟨t :: ts, vs⟩ ∧ ss3 = s :: sr := by
                obtain ⟨hts, hvs⟩ := h2
                cases hts with
                | nil => simp at hpos
                | cons t ts =>
                  cases ss3 with
                  | nil => simp at hsl3
                  | cons s sr => exact ⟨t, ts, hvs, s, sr, rfl, rfl⟩
              obtain ⟨hh2, hs3⟩ := HH2
              subst hh2
              subst hs3
              clear hpos hsl3
              go_wp2_with fail
              go_loopw [65] (fun _ wz => ∃ (t : List Pr) (ts : List (List Pr)) (vs : List Vl) (sp cl s : Sl) (ss : List Sl), Hid (ts.length ≤ 3 ∧ vs.length ≤ 3) ∧ HGood ⟨t :: ts, vs⟩ ∧ DS B c w wz ⟨t :: ts, vs⟩ sp cl (s :: ss)) (fun _ W => mE W ⟨w.heap.size + 1, 0, none⟩)
              case atStart => exact ⟨t0, ts0, vs0, _, _, s0, sr0, by show _ ∧ _; have := HL3.out; simp only [List.length_cons] at this; omega, hg2, d1⟩
              case round =>
                rename World => wz
                clear d1 hg2 HL3
                obtain ⟨t, ts, vs, ⟨pa7, pn7, pc7⟩, ⟨ua7, un7, uc7⟩, ⟨sa, sn, sc⟩, sr, HL7, hg7, d7⟩ := hrel
                have hpn7 := d7.n1
                have hun7 := d7.n2
                dsimp only at hpn7 hun7
                subst hpn7
                subst hun7
                obtain ⟨hcl7, g, hpa7, hcell7, hfz7, hgl7⟩ := spine_addr d7.va.own 0 (by simp)
                dsimp only at hpa7
                subst hpa7
                have hrow7 : Row wz w.heap.size wz.heap.size 61 6 ⟨sa, sn, sc⟩ (flatP t) := by
                  have := d7.va.own.tabs.get 0 (by simp) (by simp [Hp.xss])
                  simpa [Hp.xss] using this
                have hsn : sn = t.length := by have := hrow7.1; rw [flatP_len] at this; dsimp only at this; omega
                subst hsn
                have OWN7 : Hid (∀ W, Below wz.heap.size wz W → W.ownsRow w.heap.size 61 6 (.slice sa t.length sc) t.length (flatP t)) := fun W hW => own_below (own_of_row hrow7) hW
                simp only [List.getElem_cons_zero, Sl.v] at hcell7
                have HY : Hid (DS B c w wz ⟨t :: ts, vs⟩ ⟨some ⟨g, 0, none⟩, (t :: ts).length, pc7⟩ ⟨ua7, vs.length, uc7⟩ (⟨sa, t.length, sc⟩ :: sr)) := d7
                have HC7 : Hid (wz.cell? ⟨g, 0, none⟩ = some (.slice sa t.length sc)) := hcell7
                obtain ⟨c0, c1, f0, f1⟩ := d7.cells
                simp only [Sl.v] at c0 c1
                have hlz := d7.lt
                clear hcl7 hrow7
                by_cases ht2 : t.length < 200
                · have ht2' : (t.length : Int) < 200 := by omega
                  have hwr : IntKind.wrap .i64 (1000 + (t.length : Int)) = 1000 + (t.length : Int) := wrap_mid _ (by omega) (by omega)
                  have hq' : Below wz.heap.size wz wz.drew := (Below.refl _ _).drew
                  obtain ⟨i1, hi1, hy0, hy1, hy2⟩ := info_parts info_pr
                  have ng1 : ¬ w.heap.size + 1 = g := fun e => own_ne HY.out.va.own.spine HY.out.va.var (by decide) (by rw [e]; rfl)
                  have ng2 : ¬ g = w.heap.size + 1 := fun e => ng1 e.symm
                  have CELL : Hid (∀ W, Below wz.heap.size wz W → W.cell? ⟨w.heap.size + 1, 0, none⟩ = some (.slice (some ⟨g, 0, none⟩) (t :: ts).length pc7) ∧ W.cell? ⟨g, 0, none⟩ = some (.slice sa t.length sc)) := fun W hW => ⟨(HY.out.later hW).cells.1, (hW.cell (p := ⟨g, 0, none⟩) hgl7).trans HC7.out⟩
                  have K7 : Hid (∀ (W w4 : World) (O : Obj), Below wz.heap.size wz W → (W.alloc O).grownBy w4 (Value.slice sa t.length sc).ownBlock → w4.cell? ⟨w.heap.size + 1, 0, none⟩ = some (.slice (some ⟨g, 0, none⟩) (t :: ts).length pc7) ∧ w4.cell? ⟨g, 0, none⟩ = some (.slice sa t.length sc) ∧ w4.frozen? ⟨g, 0, none⟩ = false) := fun W w4 O hW hg => by
                    have hWO : Below wz.heap.size wz (W.alloc O) := hW.trans ((bel_alloc W O).mono hW.size)
                    have dO := HY.out.later hWO
                    have own0 := OWN7.out _ hWO
                    obtain ⟨_, g', e', hc', hf', hl'⟩ := spine_addr dO.va.own 0 (by simp)
                    obtain rfl : g = g' := by simpa using e'
                    have hsp := dO.va.own.spine
                    have hne : some g ≠ (Value.slice sa t.length sc).ownBlock := by
                      rcases hsp.2 with ⟨e, _⟩ | ⟨g'', cap, cur, e, _, hh, _⟩
                      · unfold Sl.v at e; cases e
                      · unfold Sl.v at e; cases e; exact own_ne own0 hh (by decide)
                    have hv4 := (hg.block _ dO.lt (own_ne own0 dO.va.var (by decide))).trans dO.va.var
                    refine ⟨cell_of_row _ _ 0 _ _ _ hv4, ?_, ?_⟩
                    · rw [World.cell?_of_block (w := W.alloc O) (hg.block g hl' hne), hc']; rfl
                    · rw [World.frozen?_of_block (w := W.alloc O) (hg.block g hl' hne), hf']
                  have HZ7 : Hid (∀ W, Below wz.heap.size wz W → w.heap.size ≤ W.heap.size) := fun W hW => by have := hW.size; omega
                  have eg := HC7.out
                  have hfz := hfz7
                  clear d7 hfz7
                  go_wp2_with fail
                  clear hfz
                  refine wp_region_N (fun w' => w'.cell? ⟨w.heap.size + 1, 0, none⟩ = some (.slice (some ⟨g, 0, none⟩) (t :: ts).length pc7) ∧ w'.cell? ⟨g, 0, none⟩ = some (.slice sa t.length sc)) 18 (by kernel_rfl) (CELL.out _ hq') (fun hHeld => ?_)
                  refine AnyN.take (i := 0) (oi := ⟨_, _, _, _, _, _⟩) (v := ?v0) rfl (by kernel_rfl) (by kernel_rfl) rfl (by kernel_rfl) (by kernel_rfl) (fun _ _ _ h => h) (by rfl) ?hy0 (by assumption) ?rest0
                  case hy0 =>
                    intro w hSw
                    obtain ⟨hS1, hS2⟩ := hSw
                    go_simp
                    with_reducible rfl
                  simp only [Act.put, List.setIfInBounds_toArray, List.set_cons_zero, List.set_cons_succ]
                  refine AnyN.take (i := 1) (oi := ⟨_, _, _, _, _, _⟩) (v := ?v1) rfl (by kernel_rfl) (by kernel_rfl) rfl (by kernel_rfl) (by kernel_rfl) (fun _ _ _ h => h) (by rfl) ?hy1 (by assumption) ?rest1
                  case hy1 =>
                    intro w hSw
                    obtain ⟨hS1, hS2⟩ := hSw
                    go_simp
                    with_reducible rfl
                  simp only [Act.put, List.setIfInBounds_toArray, List.set_cons_zero, List.set_cons_succ]
                  refine AnyN.take (i := 2) (oi := ⟨_, _, _, _, _, _⟩) (v := ?v2) rfl (by kernel_rfl) (by kernel_rfl) rfl (by kernel_rfl) (by kernel_rfl) (fun _ _ _ h => h) (by rfl) ?hy2 (by assumption) ?rest2
                  case hy2 =>
                    intro w hSw
                    obtain ⟨hS1, hS2⟩ := hSw
                    go_simp
                    with_reducible rfl
                  simp only [Act.put, List.setIfInBounds_toArray, List.set_cons_zero, List.set_cons_succ]
                  refine AnyN.take (i := 3) (oi := ⟨_, _, _, _, _, _⟩) (v := ?v3) rfl (by kernel_rfl) (by kernel_rfl) rfl (by kernel_rfl) (by kernel_rfl) (fun _ _ _ h => h) (by rfl) ?hy3 (by assumption) ?rest3
                  case hy3 =>
                    intro w hSw
                    obtain ⟨hS1, hS2⟩ := hSw
                    go_simp
                    with_reducible rfl
                  simp only [Act.put, List.setIfInBounds_toArray, List.set_cons_zero, List.set_cons_succ]
                  refine AnyN.take (i := 4) (oi := ⟨_, _, _, _, _, _⟩) (v := ?v4) rfl (by kernel_rfl) (by kernel_rfl) rfl (by kernel_rfl) (by kernel_rfl) (fun _ _ _ h => h) (by rfl) ?hy4 (by assumption) ?rest4
                  case hy4 =>
                    intro w hSw
                    obtain ⟨hS1, hS2⟩ := hSw
                    go_simp
                    with_reducible rfl
                  simp only [Act.put, List.setIfInBounds_toArray, List.set_cons_zero, List.set_cons_succ]
                  refine AnyN.take (i := 5) (oi := ⟨_, _, _, _, _, _⟩) (v := ?v5) rfl (by kernel_rfl) (by kernel_rfl) rfl (by kernel_rfl) (by kernel_rfl) (fun _ _ _ h => h) (by rfl) ?hy5 (by assumption) ?rest5
                  case hy5 =>
                    intro w hSw
                    obtain ⟨hS1, hS2⟩ := hSw
                    go_simp
                    with_reducible rfl
                  simp only [Act.put, List.setIfInBounds_toArray, List.set_cons_zero, List.set_cons_succ]
                  refine AnyN.take (i := 6) (oi := ⟨_, _, _, _, _, _⟩) (v := ?v6) rfl (by kernel_rfl) (by kernel_rfl) rfl (by kernel_rfl) (by kernel_rfl) (fun _ _ _ h => h) (by rfl) ?hy6 (by assumption) ?rest6
                  case hy6 =>
                    intro w hSw
                    obtain ⟨hS1, hS2⟩ := hSw
                    go_simp
                    with_reducible rfl
                  simp only [Act.put, List.setIfInBounds_toArray, List.set_cons_zero, List.set_cons_succ]
                  refine AnyN.take (i := 7) (oi := ⟨_, _, _, _, _, _⟩) (v := ?v7) rfl (by kernel_rfl) (by kernel_rfl) rfl (by kernel_rfl) (by kernel_rfl) (fun _ _ _ h => h) (by rfl) ?hy7 (by assumption) ?rest7
                  case hy7 =>
                    intro w hSw
                    obtain ⟨hS1, hS2⟩ := hSw
                    go_simp
                    with_reducible rfl
                  simp only [Act.put, List.setIfInBounds_toArray, List.set_cons_zero, List.set_cons_succ]
                  refine AnyN.take (i := 8) (oi := ⟨_, _, _, _, _, _⟩) (v := ?v8) rfl (by kernel_rfl) (by kernel_rfl) rfl (by kernel_rfl) (by kernel_rfl) (fun _ _ _ h => h) (by rfl) ?hy8 (by assumption) ?rest8
                  case hy8 =>
                    intro w hSw
                    obtain ⟨hS1, hS2⟩ := hSw
                    go_simp
                    with_reducible rfl
                  simp only [Act.put, List.setIfInBounds_toArray, List.set_cons_zero, List.set_cons_succ]
                  refine AnyN.take (i := 9) (oi := ⟨_, _, _, _, _, _⟩) (v := ?v9) rfl (by kernel_rfl) (by kernel_rfl) rfl (by kernel_rfl) (by kernel_rfl) (fun _ _ _ h => h) (by rfl) ?hy9 (by assumption) ?rest9
                  case hy9 =>
                    intro w hSw
                    obtain ⟨hS1, hS2⟩ := hSw
                    go_simp
                    with_reducible rfl
                  simp only [Act.put, List.setIfInBounds_toArray, List.set_cons_zero, List.set_cons_succ]
                  refine AnyN.take (i := 10) (oi := ⟨_, _, _, _, _, _⟩) (v := ?v10) rfl (by kernel_rfl) (by kernel_rfl) rfl (by kernel_rfl) (by kernel_rfl) (fun _ _ _ h => h) (by rfl) ?hy10 (by assumption) ?rest10
                  case hy10 =>
                    intro w hSw
                    obtain ⟨hS1, hS2⟩ := hSw
                    go_simp
                    with_reducible rfl
                  simp only [Act.put, List.setIfInBounds_toArray, List.set_cons_zero, List.set_cons_succ]
                  refine AnyN.take (i := 11) (oi := ⟨_, _, _, _, _, _⟩) (v := ?v11) rfl (by kernel_rfl) (by kernel_rfl) rfl (by kernel_rfl) (by kernel_rfl) (fun _ _ _ h => h) (by rfl) ?hy11 (by assumption) ?rest11
                  case hy11 =>
                    intro w hSw
                    obtain ⟨hS1, hS2⟩ := hSw
                    go_simp
                    with_reducible rfl
                  simp only [Act.put, List.setIfInBounds_toArray, List.set_cons_zero, List.set_cons_succ]
                  clear c0 c1 f0 f1 hHeld eg
                  refine AnyN.one (i := 12) (o := ⟨_, _, _, _, _, _⟩) (by kernel_rfl) rfl (by rfl) (fun K1 hK1 => ?_)
                  go_simp
                  go_at_call 67
                  refine (intV_any _ _).mono ?_
                  rintro e w1 ⟨rfl, hb1⟩
                  have hq1 := step_b hq' hb1 (Nat.le_refl _)
                  refine hK1.out _ _ (fun _ => CELL.out _ hq1) ?_
                  clear hK1 K1
                  try simp only [Act.put, List.setIfInBounds_toArray, List.set_cons_zero, List.set_cons_succ]
                  refine AnyN.one (i := 13) (o := ⟨_, _, _, _, _, _⟩) (by kernel_rfl) rfl (by rfl) (fun K1 hK1 => ?_)
                  go_simp
                  go_at_call 67
                  refine (intV_any _ _).mono ?_
                  rintro e w2 ⟨rfl, hb2⟩
                  have hq2 := step_b hq1 hb2 (Nat.le_refl _)
                  refine hK1.out _ _ (fun _ => CELL.out _ hq2) ?_
                  clear hK1 K1
                  try simp only [Act.put, List.setIfInBounds_toArray, List.set_cons_zero, List.set_cons_succ]
                  refine AnyN.one (i := 14) (o := ⟨_, _, _, _, _, _⟩) (by kernel_rfl) rfl (by rfl) (fun K1 hK1 => ?_)
                  go_simp
                  refine hK1.out _ _ (fun _ => CELL.out _ hq2) ?_
                  clear hK1 K1
                  try simp only [Act.put, List.setIfInBounds_toArray, List.set_cons_zero, List.set_cons_succ]
                  refine AnyN.one (i := 15) (o := ⟨_, _, _, _, _, _⟩) (by kernel_rfl) rfl (by rfl) (fun K1 hK1 => ?_)
                  go_simp
                  have hqO := hq2.trans ((bel_alloc w2 (Obj.cells #[.int .i64 2, .int .i64 (1000 + (t.length : Int)), .string ⟨#[]⟩, .int .i64 2, .int .i64 1, .string ⟨#[]⟩] 61)).mono hq2.size)
                  refine hK1.out _ _ (fun _ => CELL.out _ hqO) ?_
                  clear hK1 K1
                  try simp only [Act.put, List.setIfInBounds_toArray, List.set_cons_zero, List.set_cons_succ]
                  refine AnyN.one (i := 16) (o := ⟨_, _, _, _, _, _⟩) (by kernel_rfl) rfl (by rfl) (fun K1 hK1 => ?_)
                  refine wp_append_any _ _ _ 59 rfl w.heap.size 61 i1 _ 6 64 Try.underlying59 hi1 hy0 hy1 hy2 rfl (by decide) _ _ _ rfl (World.ownsRow.alloc (OWN7.out _ hq2) _) (some ⟨_, 0, none⟩) 1 1 [.int .i64 2, .int .i64 (1000 + (t.length : Int)), .string ⟨#[]⟩, .int .i64 2, .int .i64 1, .string ⟨#[]⟩] rfl rfl (fun j u hu => ⟨_, rfl, World.news_of_block (heap_alloc_new _ _) j u hu⟩) (by simp [Value.oneCell']) (by unfold maxLen; omega) (by omega) (by rw [size_alloc]; exact Nat.le_succ_of_le (HZ7.out _ hq2)) _ rfl ?_
                  intro b4 c4 w4 own4 gr4 at4
                  obtain ⟨c05, eg, f05⟩ := K7.out _ w4 _ hq2 gr4
                  have D8 := (HY.out.later hq2).pair (p := ⟨⟨2, 1000 + (t.length : Int), ⟨#[]⟩⟩, ⟨2, 1, ⟨#[]⟩⟩⟩) (s' := ⟨b4, t.length + 1, c4⟩) _ gr4 rfl (by rw [flatP_snoc]; exact own4) at4 hc
                  dsimp only [Sl.v] at D8
                  refine hK1.out _ _ (fun _ => ⟨c05, eg⟩) ?_
                  clear hK1 K1
                  try simp only [Act.put, List.setIfInBounds_toArray, List.set_cons_zero, List.set_cons_succ]
                  refine AnyN.one (i := 17) (o := ⟨_, _, _, _, _, _⟩) (by kernel_rfl) rfl (by rfl) (fun K1 hK1 => ?_)
                  go_simp
                  refine hK1.out _ _ (fun _ => ⟨c05, eg⟩) ?_
                  clear hK1 K1
                  try simp only [Act.put, List.setIfInBounds_toArray, List.set_cons_zero, List.set_cons_succ]
                  refine AnyN.one (i := 18) (o := ⟨_, _, _, _, _, _⟩) (by kernel_rfl) rfl (by rfl) (fun K1 hK1 => ?_)
                  go_simp
                  refine hK1.out _ _ (fun h => absurd rfl h) ?_
                  clear hK1 K1
                  refine AnyN.done (by kernel_rfl) ?_ _
                  go_wp2_with fail
                  go_roundw
                  case rel =>
                    refine ⟨t ++ [(⟨⟨2, 1000 + (t.length : Int), ⟨#[]⟩⟩, ⟨2, 1, ⟨#[]⟩⟩⟩ : Pr)], ts, vs, _, _, ⟨b4, t.length + 1, c4⟩, sr, HL7, good_snoc hg7 (by omega) rfl ?_, D8⟩
                    have k1 := key_ok 2 (1000 + (t.length : Int)) (by decide) (by decide) (by omega) (by omega)
                    have k2 := key_ok 2 1 (by decide) (by decide) (by decide) (by decide)
                    exact ⟨⟨k1.1, k2.1⟩, ⟨k1.2, k2.2⟩⟩
                  case measure => exact pair_less HY.out D8 rfl ht2
                · have ht2' : ¬ ((t.length : Int) < 200) := by omega
                  have HL8 : Hid ((⟨t :: ts, vs⟩ : Hp).ts.length ≤ 4 ∧ (⟨t :: ts, vs⟩ : Hp).vs.length ≤ 3) := by show _ ∧ _; have := HL7.out; simp only [List.length_cons]; omega
                  clear HY HC7 OWN7 hfz7
                  go_wp2_with fail
                  obtain ⟨h9, pa9, ua9, pc9, uc9, ss9, HL9, hg9, d9⟩ : ∃ (h9 : Hp) (pa ua : Option Addr) (pc uc : Nat) (ss : List Sl), Hid (h9.ts.length ≤ 4 ∧ h9.vs.length ≤ 3) ∧ HGood h9 ∧ DS B c w wz h9 ⟨pa, h9.ts.length, pc⟩ ⟨ua, h9.vs.length, uc⟩ ss := ⟨_, _, _, _, _, _, HL8, hg7, d7⟩
                  clear d7 HL8 HL7 hg7 c0 c1 f0 f1
                  refine (once_any B c 40 _ d9.dr.cur (by decide)).mono ?_
                  rintro e wo ⟨x, rfl, hdo⟩
                  have dO := d9.drawn hdo hc
                  clear d9 hdo
                  cases x
                  · have HB5 : Hid (h9.ts.length ≤ 600 ∧ h9.vs.length ≤ 4000) := by show _ ∧ _; have := HL9.out; omega
                    have HD : Hid (DS B c w wo h9 ⟨pa9, h9.ts.length, pc9⟩ ⟨ua9, h9.vs.length, uc9⟩ ss9) := dO
                    obtain ⟨c0, c1, f0, f1⟩ := HD.out.cells
                    have e0 := cell_of_row _ _ 0 _ _ _ HD.out.rv
                    have e1 := cell_of_row _ _ 1 _ _ _ HD.out.rv
                    have g0 := frozen_of_row _ _ 0 _ _ HD.out.rv
                    have g1 := frozen_of_row _ _ 1 _ _ HD.out.rv
                    simp only [List.getElem?_toArray, List.getElem?_cons_zero, List.getElem?_cons_succ, Sl.v] at c0 c1 e0 e1
                    have nlt := HD.out.lt
                    clear dO
                    go_wp2_with fail
                    refine bodyPost_ret (v := .agg #[.slice pa9 h9.ts.length pc9, .slice ua9 h9.vs.length uc9]) (by simp [results, Try.results45, go_sem, *]) rfl ⟨⟨h9, ⟨pa9, h9.ts.length, pc9⟩, ⟨ua9, h9.vs.length, uc9⟩, ss9, rfl, hg9, HB5.out.1, HB5.out.2, HD.out.n1, HD.out.n2, ?_⟩, ?_⟩
                    · have H25 := HD.out.va.own
                      have ne : ∀ b cs T, wo.heap[b]? = some (.cells cs T (0, 0)) → 30 ≠ T → b ≠ w.heap.size := fun b cs T h1 h2 e => by
                        subst e; rw [HD.out.rv] at h1; simp only [Option.some.injEq, Obj.cells.injEq] at h1; exact h2 h1.2.1
                      refine H25.stored HD.out.rv (by decide) (fun b hb => ?_) (by simp)
                      repeat (first | (with_reducible refine (drew_at _ _).trans ?_) | (with_reducible refine (heap_setCell_other _ _ _ _ (by dsimp only; omega)).trans ?_))
                      with_reducible rfl
                    · have H26 := HD.out.dr
                      repeat (first | (with_reducible exact H26) | (with_reducible refine Drawn.drew ?_) | (with_reducible refine Drawn.put ?_ hc (by simp) ))
                  · go_wp2_with fail
                    go_loopw [91] (fun _ wy => ∃ (h3 : Hp) (sp cl : Sl) (ss : List Sl), Hid (h3.ts.length ≤ 501 ∧ h3.vs.length ≤ 3) ∧ HGood h3 ∧ DS B c w wy h3 sp cl ss) (fun _ W => mT W ⟨w.heap.size + 1, 0, none⟩ 501)
                    case atStart => exact ⟨h9, _, _, _, by show _ ∧ _; have := HL9.out; omega, hg9, dO⟩
                    case round =>
                      rename World => wy
                      clear dO
                      obtain ⟨h3, ⟨ka, kn, kc⟩, ⟨la, ln, lc⟩, ss5, HL5, hg3, d3⟩ := hrel
                      have hkn := d3.n1
                      have hln := d3.n2
                      dsimp only at hkn hln
                      subst hkn
                      subst hln
                      have HY : Hid (DS B c w wy h3 ⟨ka, h3.ts.length, kc⟩ ⟨la, h3.vs.length, lc⟩ ss5) := d3
                      have X := d3.later ((Below.refl _ _).drew)
                      clear d3
                      obtain ⟨c0, c1, f0, f1⟩ := X.cells
                      simp only [Sl.v] at c0 c1
                      go_wp2_with fail
                      go_region_law (first
                        | (go_simp; go_at_call 76; refine (below_any B c 2 _ X.dr.cur (by decide)).mono ?_; rintro e w' ⟨r2, rfl, hr0, _, hr2, hd'⟩; have hr3 : r2 < 2 := hr2 (by decide); clear hr2; have X := X.drawn hd' hc; obtain ⟨c0, c1, f0, f1⟩ := X.cells; simp only [Sl.v] at c0 c1))
                      all_goals
                        have hwr : IntKind.wrap .i64 (499 + r2) = 499 + r2 := wrap_mid _ (by omega) (by omega)
                        by_cases hgo : (h3.ts.length : Int) < 499 + r2
                        · obtain ⟨i2, hi2, hx0, hx1, hx2⟩ := info_parts info_prs
                          have hb4 := bel_alloc w' (Obj.cells #[] 61)
                          have REMP := row_empty w' 61 6
                          have OWN : (w'.alloc (Obj.cells #[] 61)).ownsRow w.heap.size 59 1 (.slice ka h3.ts.length kc) h3.ts.length (ss5.map Sl.v) := own_below X.va.own.spine hb4
                          have NB : ∀ j u, [Value.slice (some ⟨w'.heap.size, 0, none⟩) 0 0][j]? = some u → ∃ ad, some (⟨w'.heap.size + 1, 0, none⟩ : Addr) = some ad ∧ ((w'.alloc (Obj.cells #[] 61)).alloc (Obj.cells #[.slice (some ⟨w'.heap.size, 0, none⟩) 0 0] 59)).cell? (ad.add j) = some u := fun j u hu => ⟨_, rfl, World.news_of_block (by have := heap_alloc_new (w'.alloc (Obj.cells #[] 61)) (Obj.cells #[.slice (some ⟨w'.heap.size, 0, none⟩) 0 0] 59); rwa [size_alloc] at this) j u hu⟩
                          have K5 : Hid (∀ (w5 : World) (O : Obj), ((w'.alloc (Obj.cells #[] 61)).alloc O).grownBy w5 (Value.slice ka h3.ts.length kc).ownBlock → w5.cell? ⟨w.heap.size + 1, 0, none⟩ = some (.slice ka h3.ts.length kc) ∧ w5.frozen? ⟨w.heap.size + 1, 0, none⟩ = false) := fun w5 O h2 => by
                            have x := VarH.table_store X.va hb4 O h2
                            exact ⟨cell_of_row _ _ 0 _ _ _ x, frozen_of_row _ _ 0 _ _ x⟩
                          have HX : Hid (DS B c w w' h3 ⟨ka, h3.ts.length, kc⟩ ⟨la, h3.vs.length, lc⟩ ss5) := X
                          have hxl := X.lt
                          have qC : ∀ O : Obj, (w'.alloc O).cell? ⟨w.heap.size + 1, 0, none⟩ = w'.cell? ⟨w.heap.size + 1, 0, none⟩ := fun O => (bel_alloc w' O).cell hxl
                          have hl5 : h3.ts.length ≤ 501 := HL5.out.1
                          have hsl : w.heap.size ≤ w'.heap.size := by omega
                          clear X
                          go_wp2_with (at_builtin; go_must (refine wpList_append_any _ rfl _ _ 27 rfl w.heap.size 59 i2 _ 1 24 Try.underlying27 hi2 hx0 hx1 hx2 rfl (by decide) _ _ _ rfl (World.ownsRow.alloc OWN _) (some ⟨w'.heap.size + 1, 0, none⟩) 1 1 [.slice (some ⟨w'.heap.size, 0, none⟩) 0 0] rfl rfl NB (by simp [Value.oneCell']) (by unfold maxLen; omega) (by omega) (by rw [size_alloc, size_alloc]; omega) _ rfl ?_; intro b5 c5 w5 own5 gr5 at5; obtain ⟨c05, f05⟩ := K5.out w5 _ gr5))
                          have DN := HX.out.tab hb4 (s4 := ⟨some ⟨w'.heap.size, 0, none⟩, 0, 0⟩) REMP _ gr5 b5 c5 own5 hc
                          go_roundw
                          case rel => exact ⟨_, _, _, _, by show _ ∧ _; simp only [List.length_append, List.length_singleton]; exact ⟨by omega, HL5.out.2⟩, good_tab hg3, DN⟩
                          case measure =>
                            have q1 : mT _ _ 501 = _ := mT_eq (M := 501) (show _ = some (Value.slice b5 (h3.ts.length + 1) c5) from DN.cells.1)
                            have q2 : mT _ _ 501 = _ := mT_eq (M := 501) (show _ = some (Value.slice ka h3.ts.length kc) from HY.out.cells.1)
                            rw [q2]
                            refine Nat.lt_of_le_of_lt (Nat.le_of_eq q1) ?_
                            omega
                        · have hgo' : ¬ ((h3.ts.length : Int) < 499 + r2) := hgo
                          go_wp2_with fail
                          go_loopw [104] (fun _ wz => ∃ (h4 : Hp) (sp cl : Sl) (ss : List Sl), Hid (h4.ts.length ≤ 501 ∧ h4.vs.length ≤ 3001) ∧ HGood h4 ∧ DS B c w wz h4 sp cl ss) (fun _ W => mT W ⟨w.heap.size + 1, 1, none⟩ 3001)
                          case atStart => exact ⟨h3, _, _, _, by show _ ∧ _; have := HL5.out; omega, hg3, X⟩
                          case round =>
                            rename World => wz
                            clear X HY hgo' hgo hwr
                            obtain ⟨h4, ⟨ma, mn, mc⟩, ⟨oa, on, oc⟩, ss6, HL6, hg4, d4⟩ := hrel
                            have hmn := d4.n1
                            have hon := d4.n2
                            dsimp only at hmn hon
                            subst hmn
                            subst hon
                            have HY : Hid (DS B c w wz h4 ⟨ma, h4.ts.length, mc⟩ ⟨oa, h4.vs.length, oc⟩ ss6) := d4
                            have X := d4.later ((Below.refl _ _).drew)
                            clear d4
                            obtain ⟨c0, c1, f0, f1⟩ := X.cells
                            simp only [Sl.v] at c0 c1
                            go_wp2_with fail
                            go_region_law (first
                              | (go_simp; go_at_call 76; refine (below_any B c 2 _ X.dr.cur (by decide)).mono ?_; rintro e w' ⟨r3, rfl, hs0, _, hs2, hd'⟩; have hs3 : r3 < 2 := hs2 (by decide); clear hs2; have X := X.drawn hd' hc; obtain ⟨c0, c1, f0, f1⟩ := X.cells; simp only [Sl.v] at c0 c1))
                            all_goals
                              rename World => w8
                              have hwr : IntKind.wrap .i64 (2999 + r3) = 2999 + r3 := wrap_mid _ (by omega) (by omega)
                              by_cases hgo : (h4.vs.length : Int) < 2999 + r3
                              · obtain ⟨i0, hi0, hz0, hz1, hz2⟩ := info_parts info_val
                                have OWN : w8.ownsRow w.heap.size 32 3 (.slice oa h4.vs.length oc) h4.vs.length (flatV h4.vs) := X.va.own.cells
                                have NB : ∀ j u, [Value.int .i64 0, Value.int .i64 0, Value.string ⟨#[]⟩][j]? = some u → ∃ ad, some (⟨w8.heap.size, 0, none⟩ : Addr) = some ad ∧ (w8.alloc (Obj.cells #[.int .i64 0, .int .i64 0, .string ⟨#[]⟩] 32)).cell? (ad.add j) = some u := fun j u hu => ⟨_, rfl, World.news_of_block (heap_alloc_new w8 _) j u hu⟩
                                have K5 : Hid (∀ (w5 : World) (O : Obj), (w8.alloc O).grownBy w5 (Value.slice oa h4.vs.length oc).ownBlock → w5.cell? ⟨w.heap.size + 1, 1, none⟩ = some (.slice oa h4.vs.length oc) ∧ w5.frozen? ⟨w.heap.size + 1, 1, none⟩ = false) := fun w5 O h2 => by
                                  have x := VarH.cell_store X.va (Below.refl _ _) O h2
                                  exact ⟨cell_of_row _ _ 1 _ _ _ x, frozen_of_row _ _ 1 _ _ x⟩
                                have HX : Hid (DS B c w w8 h4 ⟨ma, h4.ts.length, mc⟩ ⟨oa, h4.vs.length, oc⟩ ss6) := X
                                have hxl := X.lt
                                have qC : ∀ O : Obj, (w8.alloc O).cell? ⟨w.heap.size + 1, 1, none⟩ = w8.cell? ⟨w.heap.size + 1, 1, none⟩ := fun O => (bel_alloc w8 O).cell hxl
                                have hl6 : h4.vs.length ≤ 3001 := HL6.out.2
                                have hsl : w.heap.size ≤ w8.heap.size := by omega
                                clear X
                                go_wp2_with (at_builtin; go_must (refine wpList_append_any _ rfl _ _ 28 rfl w.heap.size 32 i0 _ 3 32 Try.underlying28 hi0 hz0 hz1 hz2 rfl (by decide) _ _ _ rfl (World.ownsRow.alloc OWN _) (some ⟨w8.heap.size, 0, none⟩) 1 1 [.int .i64 0, .int .i64 0, .string ⟨#[]⟩] rfl rfl NB (by simp [Value.oneCell']) (by unfold maxLen; omega) (by omega) (by rw [size_alloc]; omega) _ rfl ?_; intro b5 c5 w5 own5 gr5 at5; obtain ⟨c05, f05⟩ := K5.out w5 _ gr5))
                                have DN := HX.out.cel (v := ⟨0, 0, ⟨#[]⟩⟩) (Below.refl _ _) _ gr5 b5 c5 own5 hc
                                go_roundw
                                case rel => exact ⟨_, _, _, _, by show _ ∧ _; simp only [List.length_append, List.length_singleton]; exact ⟨HL6.out.1, by omega⟩, good_cel hg4 (key_ok _ _ (by decide) (by decide) (by decide) (by decide)).1 (key_ok _ _ (by decide) (by decide) (by decide) (by decide)).2, DN⟩
                                case measure =>
                                  have q1 : mT _ _ 3001 = _ := mT_eq (M := 3001) (show _ = some (Value.slice b5 (h4.vs.length + 1) c5) from DN.cells.2.1)
                                  have q2 : mT _ _ 3001 = _ := mT_eq (M := 3001) (show _ = some (Value.slice oa h4.vs.length oc) from HY.out.cells.2.1)
                                  rw [q2]
                                  refine Nat.lt_of_le_of_lt (Nat.le_of_eq q1) ?_
                                  omega
                              · have hgo' : ¬ ((h4.vs.length : Int) < 2999 + r3) := hgo
                                clear hgo c0 c1 f0 f1
                                have HD : Hid (DS B c w w8 h4 ⟨ma, h4.ts.length, mc⟩ ⟨oa, h4.vs.length, oc⟩ ss6) := X
                                obtain ⟨c0, c1, f0, f1⟩ := HD.out.cells
                                have e0 := cell_of_row _ _ 0 _ _ _ HD.out.rv
                                have e1 := cell_of_row _ _ 1 _ _ _ HD.out.rv
                                have g0 := frozen_of_row _ _ 0 _ _ HD.out.rv
                                have g1 := frozen_of_row _ _ 1 _ _ HD.out.rv
                                simp only [List.getElem?_toArray, List.getElem?_cons_zero, List.getElem?_cons_succ, Sl.v] at c0 c1 e0 e1
                                have nlt := HD.out.lt
                                clear X
                                go_wp2_with fail
                                refine bodyPost_ret (v := .agg #[.slice ma h4.ts.length mc, .slice oa h4.vs.length oc]) (by simp [results, Try.results45, go_sem, *]) rfl ⟨⟨h4, ⟨ma, h4.ts.length, mc⟩, ⟨oa, h4.vs.length, oc⟩, rfl, hg4, by have := HL6.out; omega, by have := HL6.out; omega, ss6, HD.out.n1, HD.out.n2, ?_⟩, ?_⟩
                                · have H25 := HD.out.va.own
                                  have ne : ∀ b cs T, w8.heap[b]? = some (.cells cs T (0, 0)) → 30 ≠ T → b ≠ w.heap.size := fun b cs T h1 h2 e => by
                                    subst e; rw [HD.out.rv] at h1; simp only [Option.some.injEq, Obj.cells.injEq] at h1; exact h2 h1.2.1
                                  refine H25.stored HD.out.rv (by decide) (fun b hb => ?_) (by simp)
                                  repeat (first | (with_reducible refine (drew_at _ _).trans ?_) | (with_reducible refine (heap_setCell_other _ _ _ _ (by dsimp only; omega)).trans ?_))
                                  with_reducible rfl
                                · have H26 := HD.out.dr
                                  repeat (first | (with_reducible exact H26) | (with_reducible refine Drawn.drew ?_) | (with_reducible refine Drawn.put ?_ hc (by simp) ))
end Go.Proofs.Ytbdpfmkpjeleaaa
