/- The walk of FnExactUnary: it returns true. -/
import Derived.Test.YtnjdklanpjdhlaaHeapQ
import Derived.Test.YtnjdklanpjdhlaaHeapO
namespace Go.Proofs.Ytnjdklanpjdhlaa
open Go.RowKit

theorem tstp {W W' : World} {lo : Nat} {ts : List (List Pr)} {a : Option Addr} (hT : TAt W lo W.heap.size ts a) (hb : Below W.heap.size W W') : TAt W' lo W'.heap.size ts a :=
  hT.later (Nat.le_refl _) hb.size fun _ _ hp => hb.cell hp
theorem unV_form (op : ByteArray) (tl : Nat) (k n : Int) (s : ByteArray) (N : Nat) : ∃ kk nn ss u, unV op tl k n s N = .tuple #[.agg #[.int .i64 kk, .int .i64 nn, .string ss], .string u] := by
  unfold unV
  split
  · exact ⟨_, _, _, _, rfl⟩
  · split
    · split
      · exact ⟨_, _, _, _, rfl⟩
      · exact ⟨_, _, _, _, rfl⟩
    · split
      · split
        · exact ⟨_, _, _, _, rfl⟩
        · exact ⟨_, _, _, _, rfl⟩
      · exact ⟨_, _, _, _, rfl⟩

set_option maxRecDepth 100000 in
set_option maxHeartbeats 3200000 in
theorem exact_un (op : ByteArray) (h : Hp) (v : List Value) (k n : Int) (s : ByteArray) (w : World) (ho : op.size ≤ maxLen) (hN : HAt w 0 w.heap.size h v) (hv : ValOk k n s) :
    Calls Try.prog 3 #[.string op, .agg v.toArray, .agg #[.int .i64 k, .int .i64 n, .string s]] w fun e w' => e = .returned (.bool true) ∧ Below w.heap.size w w' := by
  have hN' := hN
  unfold maxLen at ho
  obtain ⟨ha, hca, hb0, hcb, rfl, _⟩ := hN'
  obtain ⟨N, hR⟩ : ∃ N, tabB h.ts.length k n = true → RowIs (h.ts[n.toNat]?.getD []) N := by
    obtain ⟨N, hN⟩ := row_ex (h.ts[n.toNat]?.getD [])
    exact ⟨N, fun _ => hN⟩
  obtain ⟨W0, hW0⟩ : ∃ W0, W0 = (w.alloc (Obj.cells #[.slice ha h.ts.length hca, .slice hb0 h.vs.length hcb] 25)).alloc (Obj.cells #[.int .i64 k, .int .i64 n, .string s] 27) := ⟨_, rfl⟩
  obtain ⟨rA, rB, hs0, B0⟩ := rows2 w (Obj.cells #[.slice ha h.ts.length hca, .slice hb0 h.vs.length hcb] 25) (Obj.cells #[.int .i64 k, .int .i64 n, .string s] 27)
  rw [← hW0] at rA rB hs0 B0
  have x0 := cell_of_row _ _ 0 _ _ _ rA
  have x1 := cell_of_row _ _ 1 _ _ _ rA
  have y0 := cell_of_row _ _ 0 _ _ _ rB
  have y1 := cell_of_row _ _ 1 _ _ _ rB
  have y2 := cell_of_row _ _ 2 _ _ _ rB
  simp only [List.getElem?_toArray, List.getElem?_cons_zero, List.getElem?_cons_succ] at x0 x1 y0 y1 y2
  clear rA rB
  by_cases hbig : 1048576 < op.size
  · go_enter Try.func3, Try.ntmps3
    go_wp2_with fail
    go_ret
    exact ⟨rfl, by repeat (first | exact Below.refl _ _ | refine Below.alloc ?_ (by simp <;> omega) _)⟩
  · skip
    go_enter Try.func3, Try.ntmps3
    go_wp2_with fail
    rw [← hW0]
    clear hW0
    refine (szH_any h [.slice ha h.ts.length hca, .slice hb0 h.vs.length hcb] 0 w.heap.size 1048576 W0 (by omega) (hN.below B0 (Nat.le_refl _)) (by decide) (by decide)).mono ?_
    rintro e w1 ⟨⟨r, rfl, hr⟩, hb1⟩
    have hs1 := hb1.size
    have Q1 : Below W0.heap.size W0 w1 := hb1
    have B1 := B0.trans (Q1.mono B0.size)
    have a0 := (Q1.cell (p := ⟨w.heap.size, 0, none⟩) (by show w.heap.size < _; omega)).trans x0
    have a1 := (Q1.cell (p := ⟨w.heap.size, 1, none⟩) (by show w.heap.size < _; omega)).trans x1
    have k0 := (Q1.cell (p := ⟨w.heap.size + 1, 0, none⟩) (by show w.heap.size + 1 < _; omega)).trans y0
    have k1 := (Q1.cell (p := ⟨w.heap.size + 1, 1, none⟩) (by show w.heap.size + 1 < _; omega)).trans y1
    have k2 := (Q1.cell (p := ⟨w.heap.size + 1, 2, none⟩) (by show w.heap.size + 1 < _; omega)).trans y2
    by_cases hneg : r < 0
    · go_wp2_with fail
      go_ret
      exact ⟨rfl, B1⟩
    · skip
      have hwt : h.wt ≤ 1048576 := by rcases hr with h | h; exact absurd h (by omega); omega
      go_wp2_with fail
      refine (szV_any k n s r w1 hv.s1 (by omega) (by omega)).mono ?_
      rintro e w2 ⟨⟨r2, rfl, hr2⟩, hb2⟩
      clear a0 a1 k0 k1 k2
      have hs2 := hb2.size
      have Q2 : Below W0.heap.size W0 w2 := Q1.trans (hb2.mono Q1.size)
      have B2 := B0.trans (Q2.mono B0.size)
      have a0 := (Q2.cell (p := ⟨w.heap.size, 0, none⟩) (by show w.heap.size < _; omega)).trans x0
      have a1 := (Q2.cell (p := ⟨w.heap.size, 1, none⟩) (by show w.heap.size < _; omega)).trans x1
      have k0 := (Q2.cell (p := ⟨w.heap.size + 1, 0, none⟩) (by show w.heap.size + 1 < _; omega)).trans y0
      have k1 := (Q2.cell (p := ⟨w.heap.size + 1, 1, none⟩) (by show w.heap.size + 1 < _; omega)).trans y1
      have k2 := (Q2.cell (p := ⟨w.heap.size + 1, 2, none⟩) (by show w.heap.size + 1 < _; omega)).trans y2
      by_cases hneg2 : r2 < 0
      · go_wp2_with fail
        go_ret
        exact ⟨rfl, B2⟩
      · skip
        clear hr hr2 hneg hb1 hb2
        have hlen : h.ts.length ≤ maxLen := by have := len_wtT h.ts; unfold Hp.wt at hwt; unfold maxLen; omega
        obtain ⟨kk, nn, ss, u, hV⟩ := unV_form op h.ts.length k n s N
        have HS : Hid (∀ (W : World) (a b : Option Addr) (ca cb lo hi : Nat), hi ≤ W.heap.size → TAt W lo hi h.ts a → Calls Try.prog 12 #[.string op, .agg #[.slice a h.ts.length ca, .slice b h.vs.length cb], .agg #[.int .i64 k, .int .i64 n, .string s]] W fun e w' => e = .returned (.tuple #[.agg #[.int .i64 kk, .int .i64 nn, .string ss], .string u]) ∧ Below W.heap.size W w') := fun W a b ca cb lo hi h1 h2 => hV ▸ un_spec op h a b ca cb lo hi N k n s W h1 h2 hwt hR
        have HI : Hid (∀ (W : World) (a b : Option Addr) (ca cb lo hi : Nat), hi ≤ W.heap.size → TAt W lo hi h.ts a → Calls Try.prog 15 #[.string op, .agg #[.slice a h.ts.length ca, .slice b h.vs.length cb], .agg #[.int .i64 k, .int .i64 n, .string s]] W fun e w' => e = .returned (.tuple #[.agg #[.int .i64 kk, .int .i64 nn, .string ss], .string u]) ∧ Below W.heap.size W w') := fun W a b ca cb lo hi h1 h2 => hV ▸ un_impl op h a b ca cb lo hi N k n s W h1 h2 hwt hR
        have HTO : Hid (∀ W, Below w2.heap.size w2 W → Calls Try.prog 13 #[.agg #[.slice ha h.ts.length hca, .slice hb0 h.vs.length hcb]] W fun e w' => (∃ b cb d cd, e = .returned (.agg #[.slice b h.ts.length cb, .slice d h.vs.length cd]) ∧ TAt w' W.heap.size w'.heap.size h.ts b ∧ VAt w' W.heap.size w'.heap.size h.vs d) ∧ Below W.heap.size W w') := fun W hW => toH_any h _ 0 w.heap.size W ((hN.below B2 (Nat.le_refl _)).below hW (by omega)) (by have := hW.size; omega) hwt
        clear hV hR
        have q0 : w2.cell? ⟨w.heap.size, 0, none⟩ = some (.slice ha h.ts.length hca) := a0
        have q1 : w2.cell? ⟨w.heap.size, 1, none⟩ = some (.slice hb0 h.vs.length hcb) := a1
        have q2 : w2.cell? ⟨w.heap.size + 1, 0, none⟩ = some (.int .i64 k) := k0
        have q3 : w2.cell? ⟨w.heap.size + 1, 1, none⟩ = some (.int .i64 n) := k1
        have q4 : w2.cell? ⟨w.heap.size + 1, 2, none⟩ = some (.string s) := k2
        have KEEP : Hid (∀ W' : World, Below w2.heap.size w2 W' → (fun w' => Below w2.heap.size w2 w' ∧ w'.cell? ⟨w.heap.size, 0, none⟩ = some (.slice ha h.ts.length hca) ∧ w'.cell? ⟨w.heap.size, 1, none⟩ = some (.slice hb0 h.vs.length hcb) ∧ w'.cell? ⟨w.heap.size + 1, 0, none⟩ = some (.int .i64 k) ∧ w'.cell? ⟨w.heap.size + 1, 1, none⟩ = some (.int .i64 n) ∧ w'.cell? ⟨w.heap.size + 1, 2, none⟩ = some (.string s)) W') := fun W' hB => ⟨hB, (hB.cell (p := ⟨w.heap.size, 0, none⟩) (by show w.heap.size < _; omega)).trans q0, (hB.cell (p := ⟨w.heap.size, 1, none⟩) (by show w.heap.size < _; omega)).trans q1, (hB.cell (p := ⟨w.heap.size + 1, 0, none⟩) (by show w.heap.size + 1 < _; omega)).trans q2, (hB.cell (p := ⟨w.heap.size + 1, 1, none⟩) (by show w.heap.size + 1 < _; omega)).trans q3, (hB.cell (p := ⟨w.heap.size + 1, 2, none⟩) (by show w.heap.size + 1 < _; omega)).trans q4⟩
        have hq0 : Below w2.heap.size w2 w2.drew := (Below.refl _ _).drew
        clear q0 q1 q2 q3 q4
        clear a0 a1 k0 k1 k2
        go_wp2_with fail
        go_cut [8, 9] from 13 (fun p8 u9 wx => ∃ b, p8 = .pointer (some ⟨b, 0, none⟩) ∧ u9 = .string u ∧ Below w2.heap.size w2 wx ∧ w2.heap.size ≤ b ∧ b < wx.heap.size ∧ wx.cell? ⟨b, 0, none⟩ = some (.int .i64 kk) ∧ wx.cell? ⟨b, 1, none⟩ = some (.int .i64 nn) ∧ wx.cell? ⟨b, 2, none⟩ = some (.string ss))
        case first =>
          go_region_held3 (fun w' => Below w2.heap.size w2 w' ∧ w'.cell? ⟨w.heap.size, 0, none⟩ = some (.slice ha h.ts.length hca) ∧ w'.cell? ⟨w.heap.size, 1, none⟩ = some (.slice hb0 h.vs.length hcb) ∧ w'.cell? ⟨w.heap.size + 1, 0, none⟩ = some (.int .i64 k) ∧ w'.cell? ⟨w.heap.size + 1, 1, none⟩ = some (.int .i64 n) ∧ w'.cell? ⟨w.heap.size + 1, 2, none⟩ = some (.string s)) (first | (with_reducible assumption) | exact KEEP.out _ (by with_reducible assumption) | exact KEEP.out _ (bel_al (by with_reducible assumption) _) | exact KEEP.out _ (bel_s3 (by with_reducible assumption) (by first | exact bel_sz (by assumption) | omega))) (first | (go_at_call 13; refine (HTO.out _ (bel_of (by assumption))).mono ?_; rintro e w' ⟨⟨tb, tcb, vd, vcd, rfl, hTn, hVn⟩, hb'⟩; have hq' := bel_step (by assumption) hb'; obtain ⟨hc', hf'⟩ := bcell hb'; have ht' := fun (b : Nat) h => Nat.lt_of_lt_of_le (n := b) h hb'.size; (first | (have hu' := fun (b : Nat) h => ht' b (hu' b h)) | (have hu' := ht')); (first | (have hzc' := zc_b hzc' hb') | (have hzc' := zc_first hb') | (have hzc' := zc_first' hb') | skip); have hs' := hb'.size; (try simp at hs')) | (go_at_call 14; refine (toV_any _ _ _ _).mono ?_; rintro e w' ⟨rfl, hb'⟩; (first | (have hTn := tstp hTn hb') | (have hTn := tstp (tstp hTn (bel_alloc _ _)) hb')); have hq' := bel_step (by assumption) hb'; obtain ⟨hc', hf'⟩ := bcell hb'; have ht' := fun (b : Nat) h => Nat.lt_of_lt_of_le (n := b) h hb'.size; (first | (have hu' := fun (b : Nat) h => ht' b (hu' b h)) | (have hu' := ht')); (first | (have hzc' := zc_b hzc' hb') | (have hzc' := zc_first hb') | (have hzc' := zc_first' hb') | skip); have hs' := hb'.size; (try simp at hs')) | (go_at_call 12; (first | refine (HS.out _ _ _ _ _ _ _ (Nat.le_refl _) hTn).mono ?_ | refine (HS.out _ _ _ _ _ _ _ (Nat.le_refl _) (tstp hTn (bel_alloc _ _))).mono ?_); rintro e w' ⟨rfl, hb'⟩; have hq' := bel_step (by assumption) hb'; obtain ⟨hc', hf'⟩ := bcell hb'; have ht' := fun (b : Nat) h => Nat.lt_of_lt_of_le (n := b) h hb'.size; (first | (have hu' := fun (b : Nat) h => ht' b (hu' b h)) | (have hu' := ht')); (first | (have hzc' := zc_b hzc' hb') | (have hzc' := zc_first hb') | (have hzc' := zc_first' hb') | skip); have hs' := hb'.size; (try simp at hs')))
          all_goals
            go_wp2_with fail
            go_meet
            case rel =>
              refine ⟨_, rfl, rfl, ?_, ?_, ?_⟩
              · (first | (with_reducible assumption) | exact bel_of (by with_reducible assumption))
              · (first | exact Nat.le_refl _ | exact bel_sz (by assumption) | omega)
              · (first | exact al_set | exact zc_set hzc' | exact zc_set (by assumption))
        case rest =>
          rename World => wA
          obtain ⟨b8, rfl, rfl, hqA, hl8, hs8, e0, e1, e2⟩ := hcut
          have q0 := (KEEP.out _ hqA).2.1
          have q1 := (KEEP.out _ hqA).2.2.1
          have q2 := (KEEP.out _ hqA).2.2.2.1
          have q3 := (KEEP.out _ hqA).2.2.2.2.1
          have q4 := (KEEP.out _ hqA).2.2.2.2.2
          go_wp2_with fail
          refine (HTO.out _ hqA).mono ?_
          rintro e w5 ⟨⟨tb, tcb, vd, vcd, rfl, hTn, hVn⟩, hb5⟩
          clear q0 q1 q2 q3 q4
          go_wp2_with fail
          obtain ⟨W6, hW6⟩ : ∃ W6, W6 = w5.alloc (Obj.cells #[.slice tb h.ts.length tcb, .slice vd h.vs.length vcd] 36) := ⟨_, rfl⟩
          have hb6 : Below w5.heap.size w5 W6 := by rw [hW6]; exact bel_alloc _ _
          have r6 : W6.heap[w5.heap.size]? = some (Obj.cells #[.slice tb h.ts.length tcb, .slice vd h.vs.length vcd] 36) := by rw [hW6]; exact heap_alloc_new _ _
          have hs6 : W6.heap.size = w5.heap.size + 1 := by rw [hW6]; simp
          rw [← hW6]
          clear hW6
          have hs5 := hb5.size
          have QA : Below wA.heap.size wA W6 := hb5.trans (hb6.mono hb5.size)
          have Q6 : Below w2.heap.size w2 W6 := hqA.trans (QA.mono hqA.size)
          have hle6 : w5.heap.size ≤ W6.heap.size := by omega
          have hT6 : TAt W6 wA.heap.size w5.heap.size h.ts tb := hTn.below hb6 (Nat.le_refl _)
          have hV6 : VAt W6 wA.heap.size w5.heap.size h.vs vd := hVn.below hb6 (Nat.le_refl _)
          have e0 := (QA.cell (p := ⟨b8, 0, none⟩) hs8).trans e0
          have e1 := (QA.cell (p := ⟨b8, 1, none⟩) hs8).trans e1
          have e2 := (QA.cell (p := ⟨b8, 2, none⟩) hs8).trans e2
          have hs8 : b8 < W6.heap.size := by omega
          have g0 := cell_of_row _ _ 0 _ _ _ r6
          have g1 := cell_of_row _ _ 1 _ _ _ r6
          simp only [List.getElem?_toArray, List.getElem?_cons_zero, List.getElem?_cons_succ] at g0 g1
          have hx6 : w5.heap.size < W6.heap.size := by omega
          have a0 := (KEEP.out _ Q6).2.1
          have a1 := (KEEP.out _ Q6).2.2.1
          have a2 := (KEEP.out _ Q6).2.2.2.1
          have a3 := (KEEP.out _ Q6).2.2.2.2.1
          have a4 := (KEEP.out _ Q6).2.2.2.2.2
          have hsz6 := Q6.size
          clear hs6
          have q0 : W6.cell? ⟨w5.heap.size, 0, none⟩ = some (.slice tb h.ts.length tcb) := g0
          have q1 : W6.cell? ⟨w5.heap.size, 1, none⟩ = some (.slice vd h.vs.length vcd) := g1
          have q2 : W6.cell? ⟨w.heap.size + 1, 0, none⟩ = some (.int .i64 k) := a2
          have q3 : W6.cell? ⟨w.heap.size + 1, 1, none⟩ = some (.int .i64 n) := a3
          have q4 : W6.cell? ⟨w.heap.size + 1, 2, none⟩ = some (.string s) := a4
          have KEEP6 : Hid (∀ W' : World, Below W6.heap.size W6 W' → (fun w' => Below W6.heap.size W6 w' ∧ w'.cell? ⟨w5.heap.size, 0, none⟩ = some (.slice tb h.ts.length tcb) ∧ w'.cell? ⟨w5.heap.size, 1, none⟩ = some (.slice vd h.vs.length vcd) ∧ w'.cell? ⟨w.heap.size + 1, 0, none⟩ = some (.int .i64 k) ∧ w'.cell? ⟨w.heap.size + 1, 1, none⟩ = some (.int .i64 n) ∧ w'.cell? ⟨w.heap.size + 1, 2, none⟩ = some (.string s)) W') := fun W' hB => ⟨hB, (hB.cell (p := ⟨w5.heap.size, 0, none⟩) (by show w5.heap.size < _; omega)).trans q0, (hB.cell (p := ⟨w5.heap.size, 1, none⟩) (by show w5.heap.size < _; omega)).trans q1, (hB.cell (p := ⟨w.heap.size + 1, 0, none⟩) (by have := hs2; have := hsz6; show w.heap.size + 1 < _; omega)).trans q2, (hB.cell (p := ⟨w.heap.size + 1, 1, none⟩) (by have := hs2; have := hsz6; show w.heap.size + 1 < _; omega)).trans q3, (hB.cell (p := ⟨w.heap.size + 1, 2, none⟩) (by have := hs2; have := hsz6; show w.heap.size + 1 < _; omega)).trans q4⟩
          have hq0 : Below W6.heap.size W6 W6.drew := (Below.refl _ _).drew
          clear q0 q1 q2 q3 q4
          have HI6 : Hid (∀ W, Below W6.heap.size W6 W → Calls Try.prog 15 #[.string op, .agg #[.slice tb h.ts.length tcb, .slice vd h.vs.length vcd], .agg #[.int .i64 k, .int .i64 n, .string s]] W fun e w' => e = .returned (.tuple #[.agg #[.int .i64 kk, .int .i64 nn, .string ss], .string u]) ∧ Below W.heap.size W w') := fun W hW => HI.out W tb vd tcb vcd wA.heap.size w5.heap.size (by have := hW.size; omega) (hT6.below hW (by omega))
          go_wp2_with fail
          go_cut [11, 12] from 13 (fun p u9 wx => ∃ b, p = .pointer (some ⟨b, 0, none⟩) ∧ u9 = .string u ∧ Below W6.heap.size W6 wx ∧ b < wx.heap.size ∧ wx.cell? ⟨b, 0, none⟩ = some (.int .i64 kk) ∧ wx.cell? ⟨b, 1, none⟩ = some (.int .i64 nn) ∧ wx.cell? ⟨b, 2, none⟩ = some (.string ss))
          case first =>
            clear HI HS HTO KEEP hTn hVn hT6 hV6 e0 e1 e2 r6 a0 a1 a2 a3 a4 g0 g1
            go_region_held3 (fun w' => Below W6.heap.size W6 w' ∧ w'.cell? ⟨w5.heap.size, 0, none⟩ = some (.slice tb h.ts.length tcb) ∧ w'.cell? ⟨w5.heap.size, 1, none⟩ = some (.slice vd h.vs.length vcd) ∧ w'.cell? ⟨w.heap.size + 1, 0, none⟩ = some (.int .i64 k) ∧ w'.cell? ⟨w.heap.size + 1, 1, none⟩ = some (.int .i64 n) ∧ w'.cell? ⟨w.heap.size + 1, 2, none⟩ = some (.string s)) (first | (with_reducible assumption) | exact KEEP6.out _ (by with_reducible assumption) | exact KEEP6.out _ (bel_al (by with_reducible assumption) _) | exact KEEP6.out _ (bel_s3 (by with_reducible assumption) (by first | exact bel_sz (by assumption) | omega))) (first | (go_at_call 14; refine (toV_any _ _ _ _).mono ?_; rintro e w' ⟨rfl, hb'⟩; have hq' := bel_step (by assumption) hb'; obtain ⟨hc', hf'⟩ := bcell hb'; have ht' := fun (b : Nat) h => Nat.lt_of_lt_of_le (n := b) h hb'.size; (first | (have hu' := fun (b : Nat) h => ht' b (hu' b h)) | (have hu' := ht')); (first | (have hzc' := zc_b hzc' hb') | (have hzc' := zc_first hb') | (have hzc' := zc_first' hb') | skip); have hs' := hb'.size; (try simp at hs')) | (go_at_call 15; (first | refine (HI6.out _ (by with_reducible assumption)).mono ?_ | refine (HI6.out _ (bel_al (by with_reducible assumption) _)).mono ?_); rintro e w' ⟨rfl, hb'⟩; have hq' := bel_step (by assumption) hb'; obtain ⟨hc', hf'⟩ := bcell hb'; have ht' := fun (b : Nat) h => Nat.lt_of_lt_of_le (n := b) h hb'.size; (first | (have hu' := fun (b : Nat) h => ht' b (hu' b h)) | (have hu' := ht')); (first | (have hzc' := zc_b hzc' hb') | (have hzc' := zc_first hb') | (have hzc' := zc_first' hb') | skip); have hs' := hb'.size; (try simp at hs')))
            all_goals
              go_wp2_with fail
              go_meet
              case rel =>
                refine ⟨_, rfl, rfl, ?_, ?_⟩
                · (first | (with_reducible assumption) | exact bel_of (by with_reducible assumption))
                · (first | exact al_set | exact zc_set hzc' | exact zc_set (by assumption))
          case rest =>
            rename World => wB
            obtain ⟨b10, rfl, rfl, hq9, hs10, d0, d1, d2⟩ := hcut
            have e0 := (hq9.cell (p := ⟨b8, 0, none⟩) hs8).trans e0
            have e1 := (hq9.cell (p := ⟨b8, 1, none⟩) hs8).trans e1
            have e2 := (hq9.cell (p := ⟨b8, 2, none⟩) hs8).trans e2
            go_wp2_with fail
            refine (eqV_same kk nn ss _).mono ?_
            rintro e w9 ⟨rfl, hb9⟩
            have Q9 : Below W6.heap.size W6 w9 := hq9.trans (hb9.mono hq9.size)
            clear e0 e1 e2 d0 d1 d2
            have Q39 := Q6.trans (Q9.mono Q6.size)
            have hT9 := hT6.below Q9 hle6
            have hV9 := hV6.below Q9 hle6
            have g0 := (Q9.cell (p := ⟨w5.heap.size, 0, none⟩) hx6).trans g0
            have g1 := (Q9.cell (p := ⟨w5.heap.size, 1, none⟩) hx6).trans g1
            have a0 := (Q9.cell (p := ⟨w.heap.size, 0, none⟩) (by have := hs2; have := hsz6; show w.heap.size < _; omega)).trans a0
            have a1 := (Q9.cell (p := ⟨w.heap.size, 1, none⟩) (by have := hs2; have := hsz6; show w.heap.size < _; omega)).trans a1
            have hs9 := Q9.size
            have hlen2 : h.vs.length ≤ maxLen := by unfold Hp.wt at hwt; unfold maxLen; omega
            have HEQ : Hid (∀ (W W' : World) (b : Option Addr) (cb : Nat) (d : Option Addr) (cd : Nat), Below w9.heap.size w9 W → TAt W' W.heap.size W'.heap.size h.ts b → VAt W' W.heap.size W'.heap.size h.vs d → Below W.heap.size W W' → Calls Try.prog 17 #[.agg #[.slice tb h.ts.length tcb, .slice vd h.vs.length vcd], .agg #[.slice b h.ts.length cb, .slice d h.vs.length cd]] W' fun e w' => e = .returned (.bool true) ∧ Below W'.heap.size W' w') := fun W W' b cb d cd h1 h2 h3 h4 => by
              have q := h1.trans (h4.mono h1.size)
              exact eqH_same h [.slice tb h.ts.length tcb, .slice vd h.vs.length vcd] [.slice b h.ts.length cb, .slice d h.vs.length cd] wA.heap.size w5.heap.size W.heap.size W'.heap.size W' ⟨tb, tcb, vd, vcd, rfl, hlen, hlen2, hT9.below q (by omega), hV9.below q (by omega)⟩ ⟨b, cb, d, cd, rfl, hlen, hlen2, h2, h3⟩ (by have := q.size; omega) (Nat.le_refl _) hwt
            have HTO9 : Hid (∀ W, Below w9.heap.size w9 W → Calls Try.prog 13 #[.agg #[.slice ha h.ts.length hca, .slice hb0 h.vs.length hcb]] W fun e w' => (∃ b cb d cd, e = .returned (.agg #[.slice b h.ts.length cb, .slice d h.vs.length cd]) ∧ TAt w' W.heap.size w'.heap.size h.ts b ∧ VAt w' W.heap.size w'.heap.size h.vs d) ∧ Below W.heap.size W w') := fun W hW => HTO.out W (Q39.trans (hW.mono Q39.size))
            have q0 : w9.cell? ⟨w5.heap.size, 0, none⟩ = some (.slice tb h.ts.length tcb) := g0
            have q1 : w9.cell? ⟨w5.heap.size, 1, none⟩ = some (.slice vd h.vs.length vcd) := g1
            have q2 : w9.cell? ⟨w.heap.size, 0, none⟩ = some (.slice ha h.ts.length hca) := a0
            have q3 : w9.cell? ⟨w.heap.size, 1, none⟩ = some (.slice hb0 h.vs.length hcb) := a1
            have KEEP9 : Hid (∀ W' : World, Below w9.heap.size w9 W' → (fun w' => Below w9.heap.size w9 w' ∧ w'.cell? ⟨w5.heap.size, 0, none⟩ = some (.slice tb h.ts.length tcb) ∧ w'.cell? ⟨w5.heap.size, 1, none⟩ = some (.slice vd h.vs.length vcd) ∧ w'.cell? ⟨w.heap.size, 0, none⟩ = some (.slice ha h.ts.length hca) ∧ w'.cell? ⟨w.heap.size, 1, none⟩ = some (.slice hb0 h.vs.length hcb)) W') := fun W' hB => ⟨hB, (hB.cell (p := ⟨w5.heap.size, 0, none⟩) (by show w5.heap.size < _; omega)).trans q0, (hB.cell (p := ⟨w5.heap.size, 1, none⟩) (by show w5.heap.size < _; omega)).trans q1, (hB.cell (p := ⟨w.heap.size, 0, none⟩) (by show w.heap.size < _; omega)).trans q2, (hB.cell (p := ⟨w.heap.size, 1, none⟩) (by show w.heap.size < _; omega)).trans q3⟩
            have hq0 : Below w9.heap.size w9 w9.drew := (Below.refl _ _).drew
            clear q0 q1 q2 q3
            clear HI HS HTO KEEP KEEP6 hTn hVn hT6 hV6 hT9 hV9 r6 a0 a1 a2 a3 a4 g0 g1
            go_wp2_with fail
            go_region_held3 (fun w' => Below w9.heap.size w9 w' ∧ w'.cell? ⟨w5.heap.size, 0, none⟩ = some (.slice tb h.ts.length tcb) ∧ w'.cell? ⟨w5.heap.size, 1, none⟩ = some (.slice vd h.vs.length vcd) ∧ w'.cell? ⟨w.heap.size, 0, none⟩ = some (.slice ha h.ts.length hca) ∧ w'.cell? ⟨w.heap.size, 1, none⟩ = some (.slice hb0 h.vs.length hcb)) (first | (with_reducible assumption) | exact KEEP9.out _ (by with_reducible assumption)) (first | (go_at_call 13; refine (HTO9.out _ (bel_of (by assumption))).mono ?_; rintro e w' ⟨⟨tb2, tcb2, vd2, vcd2, rfl, hTn, hVn⟩, hb'⟩; have hq' := bel_step (by assumption) hb') | (go_at_call 17; refine (HEQ.out _ _ _ _ _ _ (Below.refl _ _).drew hTn hVn hb').mono ?_; rintro e w'' ⟨rfl, hb''⟩; have hq'' := bel_step (by assumption) hb''))
            have B9 : Below w.heap.size w w'' := B2.trans ((Q39.trans (hq''.mono Q39.size)).mono B2.size)
            go_wp2_with fail
            go_ret
            exact ⟨rfl, by repeat (first | (with_reducible exact B9) | (with_reducible refine Below.drew ?_))⟩
end Go.Proofs.Ytnjdklanpjdhlaa
