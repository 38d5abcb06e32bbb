/- The words of a statement whose parts are told in any order. -/
import Derived.Test.YtlmmomffanakiaaJmH
import Derived.Deep.RegionLaw
namespace Go.Proofs.Ytlmmomffanakiaa
open Go.RowKit

set_option maxRecDepth 100000 in
set_option maxHeartbeats 3200000 in
theorem w_if2 (tx : ByteArray) (n y z : Int) (ns : List ByteArray) (ks : List Nd) (a b : Option Addr) (ca cb hi : Nat) (w : World) (hz : 2 ≤ z ∧ z ≤ 1000) (hw : wtL ks ≤ 8000) (hl : 2 ≤ ks.length) (hl2 : ks.length < 3) (HK : KidOk w ks b hi z) :
    Calls Try.prog 47 #[.agg #[.int .i64 3, .string tx, .int .i64 n, .slice a ns.length ca, .int .i64 y, .slice b ks.length cb], .int .i64 z] w fun e w' => Says w (20 + 24 * (ns.length + wtL ks)) e w' := by
  have w1z : IntKind.i64.wrap (z - 1) = z - 1 := by rw [IntKind.wrap_i64]; omega
  have hm := wtL2 (show 1 < ks.length by omega)
  have hno : ¬ (2 : Int) < (ks.length : Int) := by omega
  have hj0 : 0 < ks.length := by omega
  have hi0 : (0 : Int) < (ks.length : Int) := by omega
  have hj1 : 1 < ks.length := by omega
  have hi1 : (1 : Int) < (ks.length : Int) := by omega
  obtain ⟨g, o, v00, v01, v02, v03, v04, v05, e0, _, _, hc0, hk0⟩ := HK 0 (by omega)
  subst e0
  simp only [Nat.mul_zero, Nat.add_zero] at hc0
  obtain ⟨g', o', v10, v11, v12, v13, v14, v15, e1, _, _, hc1, hk1⟩ := HK 1 (by omega)
  simp only [Option.some.injEq, Addr.mk.injEq, and_true] at e1
  obtain ⟨rfl, rfl⟩ := e1
  simp only [Nat.mul_one] at hc1
  generalize wt ks[0] = u0 at *
  generalize wt ks[1] = u1 at *
  clear HK
  have hLs : ∀ W : World, Calls Try.prog 58 #[.int .i64 3] W fun e w' => e = .returned (.int .i64 2) ∧ w' = W := fun W => least_any 3 W
  have hl1 : ¬ (ks.length : Int) < 2 := by omega
  have hz0 : (z == 0) = false := by simp; omega
  go_enter Try.func47, Try.ntmps47
  go_wp2_with fail
  go_quiet (first | (go_at_call 58; with_reducible refine Calls.quiet_of_same (hLs _)))
  have bB : Below w.heap.size w ((w.alloc (.cells #[.int .i64 3, .string tx, .int .i64 n, .slice a ns.length ca, .int .i64 y, .slice (some ⟨g, o, none⟩) ks.length cb] 27)).drewN nq) := bel_drewN (bel_alloc w _)
  have rB : ((w.alloc (.cells #[.int .i64 3, .string tx, .int .i64 n, .slice a ns.length ca, .int .i64 y, .slice (some ⟨g, o, none⟩) ks.length cb] 27)).drewN nq).heap[w.heap.size]? = some (.cells #[.int .i64 3, .string tx, .int .i64 n, .slice a ns.length ca, .int .i64 y, .slice (some ⟨g, o, none⟩) ks.length cb] 27 (0, 0)) := heap_alloc_new w _
  have sB : w.heap.size < ((w.alloc (.cells #[.int .i64 3, .string tx, .int .i64 n, .slice a ns.length ca, .int .i64 y, .slice (some ⟨g, o, none⟩) ks.length cb] 27)).drewN nq).heap.size := by show w.heap.size < (w.alloc _).heap.size; simp
  generalize (w.alloc (.cells #[.int .i64 3, .string tx, .int .i64 n, .slice a ns.length ca, .int .i64 y, .slice (some ⟨g, o, none⟩) ks.length cb] 27)).drewN nq = wB at *
  have p0 := cell_of_row _ _ 0 _ _ _ rB
  have p1 := cell_of_row _ _ 1 _ _ _ rB
  have p2 := cell_of_row _ _ 2 _ _ _ rB
  have p3 := cell_of_row _ _ 3 _ _ _ rB
  have p4 := cell_of_row _ _ 4 _ _ _ rB
  have p5 := cell_of_row _ _ 5 _ _ _ rB
  simp only [List.getElem?_toArray, List.getElem?_cons_zero, List.getElem?_cons_succ] at p0 p1 p2 p3 p4 p5
  have P0 : ∀ O, (wB.alloc O).cell? ⟨w.heap.size, 0, none⟩ = _ := fun O => ((bel_alloc wB O).cell (p := ⟨w.heap.size, 0, none⟩) sB).trans p0
  have P1 : ∀ O, (wB.alloc O).cell? ⟨w.heap.size, 1, none⟩ = _ := fun O => ((bel_alloc wB O).cell (p := ⟨w.heap.size, 1, none⟩) sB).trans p1
  have P2 : ∀ O, (wB.alloc O).cell? ⟨w.heap.size, 2, none⟩ = _ := fun O => ((bel_alloc wB O).cell (p := ⟨w.heap.size, 2, none⟩) sB).trans p2
  have P3 : ∀ O, (wB.alloc O).cell? ⟨w.heap.size, 3, none⟩ = _ := fun O => ((bel_alloc wB O).cell (p := ⟨w.heap.size, 3, none⟩) sB).trans p3
  have P4 : ∀ O, (wB.alloc O).cell? ⟨w.heap.size, 4, none⟩ = _ := fun O => ((bel_alloc wB O).cell (p := ⟨w.heap.size, 4, none⟩) sB).trans p4
  have P5 : ∀ O, (wB.alloc O).cell? ⟨w.heap.size, 5, none⟩ = _ := fun O => ((bel_alloc wB O).cell (p := ⟨w.heap.size, 5, none⟩) sB).trans p5
  have bE : ∀ A, Below w.heap.size w (wB.alloc A) := fun A => bB.trans ((bel_alloc wB A).mono bB.size)
  have bEE : ∀ A B, Below w.heap.size w ((wB.alloc A).alloc B) := fun A B => (bE A).trans ((bel_alloc _ B).mono (bE A).size)
  have q0 := fun A B => (hc0 _ (bEE A B)).1
  have q1 := fun A B => (hc0 _ (bEE A B)).2.1
  have q2 := fun A B => (hc0 _ (bEE A B)).2.2.1
  have q3 := fun A B => (hc0 _ (bEE A B)).2.2.2.1
  have q4 := fun A B => (hc0 _ (bEE A B)).2.2.2.2.1
  have q5 := fun A B => (hc0 _ (bEE A B)).2.2.2.2.2
  clear hc0
  have R0 := rw_lit1 (w := w) (W := wB.alloc (.cells #[] 9)) ⟨#[105, 102]⟩ (bE _) (by decide)
  simp only [size_alloc] at R0
  go_wp2_with fail
  refine (hk0 _ (bEE _ _)).mono ?_
  rintro e w1 hS
  obtain ⟨a1, k1, c1, rfl, R1, N1, b1⟩ := says_row (w := w) (bEE _ _) hS
  clear hS
  go_wp2_with (at_builtin; go_must (refine wpList_rw rfl _ _ rfl rfl (R0.below b1) _ _ _ rfl N1 (by omega) ?_))
  intro b2 c2 w2 R2 g2
  go_wp2_with (at_builtin; go_must (refine wpList_rw rfl _ _ rfl rfl (R2.alloc _) _ _ _ rfl (nw_lit1 w2 ⟨#[116, 104, 101, 110]⟩ (by decide) (Nat.le_refl _)) (by omega) ?_))
  intro b3 c3 w3 R3 g3
  obtain ⟨x10, x11, x12, x13, x14, x15⟩ := hc1 w3 R3.bel
  clear hc1 q0 q1 q2 q3 q4 q5
  go_wp2_with fail
  refine (hk1 _ R3.bel).mono ?_
  rintro e w4 hS
  obtain ⟨a4, k4, c4, rfl, R4, N4, b4⟩ := says_row (w := w) R3.bel hS
  clear hS
  go_wp2_with (at_builtin; go_must (refine wpList_rw rfl _ _ rfl rfl (R3.below b4) _ _ _ rfl N4 (by omega) ?_))
  intro b5 c5 w5 R5 g5
  go_wp2_with (at_builtin; go_must (refine wpList_rw rfl _ _ rfl rfl (R5.alloc _) _ _ _ rfl (nw_lit1 w5 ⟨#[101, 110, 100]⟩ (by decide) (Nat.le_refl _)) (by omega) ?_))
  intro b6 c6 w6 R6 g6
  go_wp2_with fail
  go_ret
  exact (R6.more (n' := 20 + 24 * (ns.length + wtL ks)) (by omega)).says (Below.refl _ _)
set_option maxRecDepth 100000 in
set_option maxHeartbeats 3200000 in
theorem w_if3 (tx : ByteArray) (n y z : Int) (ns : List ByteArray) (ks : List Nd) (a b : Option Addr) (ca cb hi : Nat) (w : World) (hz : 2 ≤ z ∧ z ≤ 1000) (hw : wtL ks ≤ 8000) (hl : 3 ≤ ks.length) (HK : KidOk w ks b hi z) :
    Calls Try.prog 47 #[.agg #[.int .i64 3, .string tx, .int .i64 n, .slice a ns.length ca, .int .i64 y, .slice b ks.length cb], .int .i64 z] w fun e w' => Says w (20 + 24 * (ns.length + wtL ks)) e w' := by
  have w1z : IntKind.i64.wrap (z - 1) = z - 1 := by rw [IntKind.wrap_i64]; omega
  have hm := wtL3 (show 2 < ks.length by omega)
  have hj0 : 0 < ks.length := by omega
  have hi0 : (0 : Int) < (ks.length : Int) := by omega
  have hj1 : 1 < ks.length := by omega
  have hi1 : (1 : Int) < (ks.length : Int) := by omega
  have hj2 : 2 < ks.length := by omega
  have hi2 : (2 : Int) < (ks.length : Int) := by omega
  obtain ⟨g, o, v00, v01, v02, v03, v04, v05, e0, _, _, hc0, hk0⟩ := HK 0 (by omega)
  subst e0
  simp only [Nat.mul_zero, Nat.add_zero] at hc0
  obtain ⟨g', o', v10, v11, v12, v13, v14, v15, e1, _, _, hc1, hk1⟩ := HK 1 (by omega)
  simp only [Option.some.injEq, Addr.mk.injEq, and_true] at e1
  obtain ⟨rfl, rfl⟩ := e1
  simp only [Nat.mul_one] at hc1
  obtain ⟨g', o', v20, v21, v22, v23, v24, v25, e2, _, _, hc2, hk2⟩ := HK 2 (by omega)
  simp only [Option.some.injEq, Addr.mk.injEq, and_true] at e2
  obtain ⟨rfl, rfl⟩ := e2
  rw [show 6 * 2 = 12 from rfl] at hc2
  generalize wt ks[0] = u0 at *
  generalize wt ks[1] = u1 at *
  generalize wt ks[2] = u2 at *
  clear HK
  have hLs : ∀ W : World, Calls Try.prog 58 #[.int .i64 3] W fun e w' => e = .returned (.int .i64 2) ∧ w' = W := fun W => least_any 3 W
  have hl1 : ¬ (ks.length : Int) < 2 := by omega
  have hz0 : (z == 0) = false := by simp; omega
  go_enter Try.func47, Try.ntmps47
  go_wp2_with fail
  go_quiet (first | (go_at_call 58; with_reducible refine Calls.quiet_of_same (hLs _)))
  have bB : Below w.heap.size w ((w.alloc (.cells #[.int .i64 3, .string tx, .int .i64 n, .slice a ns.length ca, .int .i64 y, .slice (some ⟨g, o, none⟩) ks.length cb] 27)).drewN nq) := bel_drewN (bel_alloc w _)
  have rB : ((w.alloc (.cells #[.int .i64 3, .string tx, .int .i64 n, .slice a ns.length ca, .int .i64 y, .slice (some ⟨g, o, none⟩) ks.length cb] 27)).drewN nq).heap[w.heap.size]? = some (.cells #[.int .i64 3, .string tx, .int .i64 n, .slice a ns.length ca, .int .i64 y, .slice (some ⟨g, o, none⟩) ks.length cb] 27 (0, 0)) := heap_alloc_new w _
  have sB : w.heap.size < ((w.alloc (.cells #[.int .i64 3, .string tx, .int .i64 n, .slice a ns.length ca, .int .i64 y, .slice (some ⟨g, o, none⟩) ks.length cb] 27)).drewN nq).heap.size := by show w.heap.size < (w.alloc _).heap.size; simp
  generalize (w.alloc (.cells #[.int .i64 3, .string tx, .int .i64 n, .slice a ns.length ca, .int .i64 y, .slice (some ⟨g, o, none⟩) ks.length cb] 27)).drewN nq = wB at *
  have p0 := cell_of_row _ _ 0 _ _ _ rB
  have p1 := cell_of_row _ _ 1 _ _ _ rB
  have p2 := cell_of_row _ _ 2 _ _ _ rB
  have p3 := cell_of_row _ _ 3 _ _ _ rB
  have p4 := cell_of_row _ _ 4 _ _ _ rB
  have p5 := cell_of_row _ _ 5 _ _ _ rB
  simp only [List.getElem?_toArray, List.getElem?_cons_zero, List.getElem?_cons_succ] at p0 p1 p2 p3 p4 p5
  have P0 : ∀ O, (wB.alloc O).cell? ⟨w.heap.size, 0, none⟩ = _ := fun O => ((bel_alloc wB O).cell (p := ⟨w.heap.size, 0, none⟩) sB).trans p0
  have P1 : ∀ O, (wB.alloc O).cell? ⟨w.heap.size, 1, none⟩ = _ := fun O => ((bel_alloc wB O).cell (p := ⟨w.heap.size, 1, none⟩) sB).trans p1
  have P2 : ∀ O, (wB.alloc O).cell? ⟨w.heap.size, 2, none⟩ = _ := fun O => ((bel_alloc wB O).cell (p := ⟨w.heap.size, 2, none⟩) sB).trans p2
  have P3 : ∀ O, (wB.alloc O).cell? ⟨w.heap.size, 3, none⟩ = _ := fun O => ((bel_alloc wB O).cell (p := ⟨w.heap.size, 3, none⟩) sB).trans p3
  have P4 : ∀ O, (wB.alloc O).cell? ⟨w.heap.size, 4, none⟩ = _ := fun O => ((bel_alloc wB O).cell (p := ⟨w.heap.size, 4, none⟩) sB).trans p4
  have P5 : ∀ O, (wB.alloc O).cell? ⟨w.heap.size, 5, none⟩ = _ := fun O => ((bel_alloc wB O).cell (p := ⟨w.heap.size, 5, none⟩) sB).trans p5
  have bE : ∀ A, Below w.heap.size w (wB.alloc A) := fun A => bB.trans ((bel_alloc wB A).mono bB.size)
  have bEE : ∀ A B, Below w.heap.size w ((wB.alloc A).alloc B) := fun A B => (bE A).trans ((bel_alloc _ B).mono (bE A).size)
  have q0 := fun A B => (hc0 _ (bEE A B)).1
  have q1 := fun A B => (hc0 _ (bEE A B)).2.1
  have q2 := fun A B => (hc0 _ (bEE A B)).2.2.1
  have q3 := fun A B => (hc0 _ (bEE A B)).2.2.2.1
  have q4 := fun A B => (hc0 _ (bEE A B)).2.2.2.2.1
  have q5 := fun A B => (hc0 _ (bEE A B)).2.2.2.2.2
  clear hc0
  have R0 := rw_lit1 (w := w) (W := wB.alloc (.cells #[] 9)) ⟨#[105, 102]⟩ (bE _) (by decide)
  simp only [size_alloc] at R0
  go_wp2_with fail
  refine (hk0 _ (bEE _ _)).mono ?_
  rintro e w1 hS
  obtain ⟨a1, k1, c1, rfl, R1, N1, b1⟩ := says_row (w := w) (bEE _ _) hS
  clear hS
  go_wp2_with (at_builtin; go_must (refine wpList_rw rfl _ _ rfl rfl (R0.below b1) _ _ _ rfl N1 (by omega) ?_))
  intro b2 c2 w2 R2 g2
  go_wp2_with (at_builtin; go_must (refine wpList_rw rfl _ _ rfl rfl (R2.alloc _) _ _ _ rfl (nw_lit1 w2 ⟨#[116, 104, 101, 110]⟩ (by decide) (Nat.le_refl _)) (by omega) ?_))
  intro b3 c3 w3 R3 g3
  obtain ⟨x10, x11, x12, x13, x14, x15⟩ := hc1 w3 R3.bel
  clear hc1 q0 q1 q2 q3 q4 q5
  go_wp2_with fail
  refine (hk1 _ R3.bel).mono ?_
  rintro e w4 hS
  obtain ⟨a4, k4, c4, rfl, R4, N4, b4⟩ := says_row (w := w) R3.bel hS
  clear hS
  go_wp2_with (at_builtin; go_must (refine wpList_rw rfl _ _ rfl rfl (R3.below b4) _ _ _ rfl N4 (by omega) ?_))
  intro b5 c5 w5 R5 g5
  clear R0 R1 N1 b1 R2 g2 R3 g3 R4 N4 b4 g5
  have Bq := R5.bel
  have R0 := R5
  clear R5
  go_wp2_with fail
  generalize 1 + k1 + 1 + k4 = K at *
  have K0 : Hid (∀ W, Below w.heap.size w W → W.cell? ⟨g, o + 12, none⟩ = some v20 ∧ W.cell? ⟨g, o + 12 + 1, none⟩ = some v21 ∧ W.cell? ⟨g, o + 12 + 2, none⟩ = some v22 ∧ W.cell? ⟨g, o + 12 + 3, none⟩ = some v23 ∧ W.cell? ⟨g, o + 12 + 4, none⟩ = some v24 ∧ W.cell? ⟨g, o + 12 + 5, none⟩ = some v25) := fun W hb => by
    obtain ⟨h20, h21, h22, h23, h24, h25⟩ := hc2 W hb
    exact ⟨h20, h21, h22, h23, h24, h25⟩
  have HK0 : Hid (∀ W, Below w.heap.size w W → Calls Try.prog 47 #[.agg #[v20, v21, v22, v23, v24, v25], .int .i64 (z - 1)] W fun e w' => Says W (20 + 24 * u2) e w') := fun W hb => hk2 W hb
  have b0 : Below w.heap.size w w5.drew := Bq.drew
  have b0a : ∀ O, Below w.heap.size w (w5.alloc O) := fun O => Bq.trans ((bel_alloc w5 O).mono Bq.size)
  have b0d : ∀ O, Below w.heap.size w (w5.alloc O).drew := fun O => (b0a O).drew
  obtain ⟨z0, z1, z2, z3, z4, z5⟩ := K0.out _ Bq
  have y0 := fun O => (K0.out _ (b0a O)).1
  have y1 := fun O => (K0.out _ (b0a O)).2.1
  have y2 := fun O => (K0.out _ (b0a O)).2.2.1
  have y3 := fun O => (K0.out _ (b0a O)).2.2.2.1
  have y4 := fun O => (K0.out _ (b0a O)).2.2.2.2.1
  have y5 := fun O => (K0.out _ (b0a O)).2.2.2.2.2
  clear hc2 hk2 p0 p1 p2 p3 p4 p5 P0 P1 P2 P3 P4 P5 bE bEE
  go_region_law (first
    | (refine step_rw rfl _ _ rfl (v := .slice b5 K c5) rfl (w := w) (k := K) (n := 1 + (20 + 24 * u0) + 1 + (20 + 24 * u1)) (by first | with_reducible exact (R0.alloc _).drew | with_reducible exact (R0.alloc _).drew.below b1 | with_reducible exact (R0.drew.below b1).alloc _) _ _ _ rfl (by first | with_reducible exact (nw_lit1 (B := 0) w5 ⟨#[101, 108, 115, 101]⟩ (by decide) (Nat.zero_le _)).drew | with_reducible exact (nw_lit1 (B := 0) w5 ⟨#[101, 108, 115, 101]⟩ (by decide) (Nat.zero_le _)).drew.below b1 | with_reducible exact nw_lit1 (B := 0) w1 ⟨#[101, 108, 115, 101]⟩ (by decide) (Nat.zero_le _)) (by omega) ?_; intro b2 c2 w2 R2 g2; have u2 := R2.bel; obtain ⟨rb0, rb1, rb2, rb3, rb4, rb5⟩ := K0.out _ u2)
    | (refine step_rw rfl _ _ rfl (v := .slice b2 (K + 1) c2) rfl (w := w) (k := K + 1) (n := 1 + (20 + 24 * u0) + 1 + (20 + 24 * u1) + 1) (by first | with_reducible exact R2 | with_reducible exact R2.below b1) _ _ _ rfl (by first | with_reducible exact N1 | with_reducible exact N1.grown g2 (R0.alloc _).drew (Nat.le_refl _) | with_reducible exact (N1.alloc _).grown g2 R0.drew (Nat.le_refl _)) (by omega) ?_; intro b4 c4 w4 R4 g4)
    | (go_simp; go_at_call 47; refine (HK0.out _ (by first | with_reducible exact b0 | with_reducible exact b0d _ | with_reducible exact u2)).mono ?_; rintro e w1 hS; obtain ⟨a1, k1, c1, rfl, R1, N1, b1⟩ := says_row (w := w) (by first | with_reducible exact b0 | with_reducible exact b0d _ | with_reducible exact u2) hS; obtain ⟨ra0, ra1, ra2, ra3, ra4, ra5⟩ := K0.out _ R1.bel))
  all_goals
    go_wp2_with (at_builtin; go_must (refine wpList_rw rfl _ _ rfl rfl (R4.alloc _) _ _ _ rfl (nw_lit1 w4 ⟨#[101, 110, 100]⟩ (by decide) (Nat.le_refl _)) (by omega) ?_))
    intro b6 c6 w6 R6 g6
    go_wp2_with fail
    go_ret
    exact (R6.more (n' := 20 + 24 * (ns.length + wtL ks)) (by omega)).says (Below.refl _ _)
end Go.Proofs.Ytlmmomffanakiaa
