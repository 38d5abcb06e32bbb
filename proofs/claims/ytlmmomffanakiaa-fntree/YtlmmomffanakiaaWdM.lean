/- The words of a statement whose parts are told in any order. -/
import Derived.Test.YtlmmomffanakiaaJmH
import Derived.Deep.RegionLaw
import Derived.Deep.RegionHeld3
namespace Go.Proofs.Ytlmmomffanakiaa
open Go.RowKit

set_option maxRecDepth 100000 in
set_option maxHeartbeats 16000000 in
theorem w_set (tx : ByteArray) (n y z : Int) (ns : List ByteArray) (ks : List Nd) (a b : Option Addr) (ca cb hi : Nat) (w : World) (hz : 2 ≤ z ∧ z ≤ 1000) (hw : wtL ks ≤ 8000) (hl : 2 ≤ ks.length) (HK : KidOk w ks b hi z) :
    Calls Try.prog 47 #[.agg #[.int .i64 7, .string tx, .int .i64 n, .slice a ns.length ca, .int .i64 y, .slice b ks.length cb], .int .i64 z] w fun e w' => Says w (20 + 24 * (ns.length + wtL ks)) e w' := by
  have w1z : IntKind.i64.wrap (z - 1) = z - 1 := by rw [IntKind.wrap_i64]; omega
  have hm := wtL2 (show 1 < ks.length by omega)
  have hj0 : 0 < ks.length := by omega
  have hi0 : (0 : Int) < (ks.length : Int) := by omega
  have hj1 : 1 < ks.length := by omega
  have hi1 : (1 : Int) < (ks.length : Int) := by omega
  obtain ⟨g, o, v00, v01, v02, v03, v04, v05, e0, _, _, hc0, hk0⟩ := HK 0 (by omega)
  subst e0
  simp only [Nat.mul_zero, Nat.add_zero] at hc0
  obtain ⟨g', o', v10, v11, v12, v13, v14, v15, e1, _, _, hc1, hk1⟩ := HK 1 (by omega)
  simp only [Option.some.injEq, Addr.mk.injEq, and_true] at e1
  obtain ⟨rfl, rfl⟩ := e1
  simp only [Nat.mul_one] at hc1
  generalize wt ks[0] = u0 at *
  generalize wt ks[1] = u1 at *
  clear HK
  have hLs : ∀ W : World, Calls Try.prog 58 #[.int .i64 7] W fun e w' => e = .returned (.int .i64 2) ∧ w' = W := fun W => least_any 7 W
  have hl1 : ¬ (ks.length : Int) < 2 := by omega
  have hz0 : (z == 0) = false := by simp; omega
  go_enter Try.func47, Try.ntmps47
  go_wp2_with fail
  go_quiet (first | (go_at_call 58; with_reducible refine Calls.quiet_of_same (hLs _)))
  have bB : Below w.heap.size w ((w.alloc (.cells #[.int .i64 7, .string tx, .int .i64 n, .slice a ns.length ca, .int .i64 y, .slice (some ⟨g, o, none⟩) ks.length cb] 27)).drewN nq) := bel_drewN (bel_alloc w _)
  have rB : ((w.alloc (.cells #[.int .i64 7, .string tx, .int .i64 n, .slice a ns.length ca, .int .i64 y, .slice (some ⟨g, o, none⟩) ks.length cb] 27)).drewN nq).heap[w.heap.size]? = some (.cells #[.int .i64 7, .string tx, .int .i64 n, .slice a ns.length ca, .int .i64 y, .slice (some ⟨g, o, none⟩) ks.length cb] 27 (0, 0)) := heap_alloc_new w _
  have sB : w.heap.size < ((w.alloc (.cells #[.int .i64 7, .string tx, .int .i64 n, .slice a ns.length ca, .int .i64 y, .slice (some ⟨g, o, none⟩) ks.length cb] 27)).drewN nq).heap.size := by show w.heap.size < (w.alloc _).heap.size; simp
  generalize (w.alloc (.cells #[.int .i64 7, .string tx, .int .i64 n, .slice a ns.length ca, .int .i64 y, .slice (some ⟨g, o, none⟩) ks.length cb] 27)).drewN nq = wB at *
  have p0 := cell_of_row _ _ 0 _ _ _ rB
  have p1 := cell_of_row _ _ 1 _ _ _ rB
  have p2 := cell_of_row _ _ 2 _ _ _ rB
  have p3 := cell_of_row _ _ 3 _ _ _ rB
  have p4 := cell_of_row _ _ 4 _ _ _ rB
  have p5 := cell_of_row _ _ 5 _ _ _ rB
  simp only [List.getElem?_toArray, List.getElem?_cons_zero, List.getElem?_cons_succ] at p0 p1 p2 p3 p4 p5
  have P0 : ∀ O, (wB.alloc O).cell? ⟨w.heap.size, 0, none⟩ = _ := fun O => ((bel_alloc wB O).cell (p := ⟨w.heap.size, 0, none⟩) sB).trans p0
  have P1 : ∀ O, (wB.alloc O).cell? ⟨w.heap.size, 1, none⟩ = _ := fun O => ((bel_alloc wB O).cell (p := ⟨w.heap.size, 1, none⟩) sB).trans p1
  have P2 : ∀ O, (wB.alloc O).cell? ⟨w.heap.size, 2, none⟩ = _ := fun O => ((bel_alloc wB O).cell (p := ⟨w.heap.size, 2, none⟩) sB).trans p2
  have P3 : ∀ O, (wB.alloc O).cell? ⟨w.heap.size, 3, none⟩ = _ := fun O => ((bel_alloc wB O).cell (p := ⟨w.heap.size, 3, none⟩) sB).trans p3
  have P4 : ∀ O, (wB.alloc O).cell? ⟨w.heap.size, 4, none⟩ = _ := fun O => ((bel_alloc wB O).cell (p := ⟨w.heap.size, 4, none⟩) sB).trans p4
  have P5 : ∀ O, (wB.alloc O).cell? ⟨w.heap.size, 5, none⟩ = _ := fun O => ((bel_alloc wB O).cell (p := ⟨w.heap.size, 5, none⟩) sB).trans p5
  have bE : ∀ A, Below w.heap.size w (wB.alloc A) := fun A => bB.trans ((bel_alloc wB A).mono bB.size)
  have bEE : ∀ A B, Below w.heap.size w ((wB.alloc A).alloc B) := fun A B => (bE A).trans ((bel_alloc _ B).mono (bE A).size)
  go_wp2_with fail
  have Bq := bE (.cells #[] 9)
  generalize wB.alloc (.cells #[] 9) = wq at *
  have K0 : Hid (∀ W, Below w.heap.size w W → W.cell? ⟨g, o, none⟩ = some v00 ∧ W.cell? ⟨g, o + 1, none⟩ = some v01 ∧ W.cell? ⟨g, o + 2, none⟩ = some v02 ∧ W.cell? ⟨g, o + 3, none⟩ = some v03 ∧ W.cell? ⟨g, o + 4, none⟩ = some v04 ∧ W.cell? ⟨g, o + 5, none⟩ = some v05 ∧ W.cell? ⟨g, o + 6, none⟩ = some v10 ∧ W.cell? ⟨g, o + 6 + 1, none⟩ = some v11 ∧ W.cell? ⟨g, o + 6 + 2, none⟩ = some v12 ∧ W.cell? ⟨g, o + 6 + 3, none⟩ = some v13 ∧ W.cell? ⟨g, o + 6 + 4, none⟩ = some v14 ∧ W.cell? ⟨g, o + 6 + 5, none⟩ = some v15) := fun W hb => by
    obtain ⟨h00, h01, h02, h03, h04, h05⟩ := hc0 W hb
    obtain ⟨h10, h11, h12, h13, h14, h15⟩ := hc1 W hb
    exact ⟨h00, h01, h02, h03, h04, h05, h10, h11, h12, h13, h14, h15⟩
  have HK0 : Hid (∀ W, Below w.heap.size w W → Calls Try.prog 47 #[.agg #[v00, v01, v02, v03, v04, v05], .int .i64 (z - 1)] W fun e w' => Says W (20 + 24 * u0) e w') := fun W hb => hk0 W hb
  have HK1 : Hid (∀ W, Below w.heap.size w W → Calls Try.prog 47 #[.agg #[v10, v11, v12, v13, v14, v15], .int .i64 (z - 1)] W fun e w' => Says W (20 + 24 * u1) e w') := fun W hb => hk1 W hb
  have b0 : Below w.heap.size w wq.drew := Bq.drew
  have b0a : ∀ O, Below w.heap.size w (wq.alloc O) := fun O => Bq.trans ((bel_alloc wq O).mono Bq.size)
  have b0d : ∀ O, Below w.heap.size w (wq.alloc O).drew := fun O => (b0a O).drew
  obtain ⟨z0, z1, z2, z3, z4, z5, z6, z7, z8, z9, z10, z11⟩ := K0.out _ Bq
  have y0 := fun O => (K0.out _ (b0a O)).1
  have y1 := fun O => (K0.out _ (b0a O)).2.1
  have y2 := fun O => (K0.out _ (b0a O)).2.2.1
  have y3 := fun O => (K0.out _ (b0a O)).2.2.2.1
  have y4 := fun O => (K0.out _ (b0a O)).2.2.2.2.1
  have y5 := fun O => (K0.out _ (b0a O)).2.2.2.2.2.1
  have y6 := fun O => (K0.out _ (b0a O)).2.2.2.2.2.2.1
  have y7 := fun O => (K0.out _ (b0a O)).2.2.2.2.2.2.2.1
  have y8 := fun O => (K0.out _ (b0a O)).2.2.2.2.2.2.2.2.1
  have y9 := fun O => (K0.out _ (b0a O)).2.2.2.2.2.2.2.2.2.1
  have y10 := fun O => (K0.out _ (b0a O)).2.2.2.2.2.2.2.2.2.2.1
  have y11 := fun O => (K0.out _ (b0a O)).2.2.2.2.2.2.2.2.2.2.2
  clear hc0 hk0 hc1 hk1 p0 p1 p2 p3 p4 p5 P0 P1 P2 P3 P4 P5 bE bEE
  go_region_held3 (fun w' => w'.cell? ⟨g, o, none⟩ = some v00 ∧ w'.cell? ⟨g, o + 1, none⟩ = some v01 ∧ w'.cell? ⟨g, o + 2, none⟩ = some v02 ∧ w'.cell? ⟨g, o + 3, none⟩ = some v03 ∧ w'.cell? ⟨g, o + 4, none⟩ = some v04 ∧ w'.cell? ⟨g, o + 5, none⟩ = some v05 ∧ w'.cell? ⟨g, o + 6, none⟩ = some v10 ∧ w'.cell? ⟨g, o + 6 + 1, none⟩ = some v11 ∧ w'.cell? ⟨g, o + 6 + 2, none⟩ = some v12 ∧ w'.cell? ⟨g, o + 6 + 3, none⟩ = some v13 ∧ w'.cell? ⟨g, o + 6 + 4, none⟩ = some v14 ∧ w'.cell? ⟨g, o + 6 + 5, none⟩ = some v15) (first | (with_reducible exact K0.out _ b0) | (with_reducible exact K0.out _ (b0a _)) | (with_reducible exact K0.out _ (b0d _)) | (with_reducible exact K0.out _ Bq) | (with_reducible exact K0.out _ R1.bel) | (with_reducible exact K0.out _ (yR _)) | (with_reducible exact K0.out _ R2.bel) | (with_reducible exact K0.out _ R3.bel) | (with_reducible exact K0.out _ (yR3 _)) | (with_reducible exact K0.out _ R4.bel)) (first
    | (go_simp; go_at_call 47; with_reducible refine (HK0.out _ (by first | with_reducible exact b0 | with_reducible exact b0d _)).mono ?_; rintro e w1 hS; obtain ⟨a1, k1, c1, rfl, R1, N1, b1⟩ := says_row (w := w) (by first | with_reducible exact b0 | with_reducible exact b0d _) hS; obtain ⟨ra0, ra1, ra2, ra3, ra4, ra5, ra6, ra7, ra8, ra9, ra10, ra11⟩ := K0.out _ R1.bel; have yR := fun O => (R1.alloc O).bel)
    | (go_simp; go_at_call 47; with_reducible refine (HK1.out _ (by first | with_reducible exact R1.bel | with_reducible exact R2.bel | with_reducible exact yR _)).mono ?_; rintro e w3 hS3; obtain ⟨a3, k3, c3, rfl, R3, N3, b3⟩ := says_row (w := w) (by first | with_reducible exact R1.bel | with_reducible exact R2.bel | with_reducible exact yR _) hS3; obtain ⟨rc0, rc1, rc2, rc3, rc4, rc5, rc6, rc7, rc8, rc9, rc10, rc11⟩ := K0.out _ R3.bel; have yR3 := fun O => (R3.alloc O).bel)
    | (refine step_rw rfl _ _ rfl (v := .slice a1 k1 c1) rfl (w := w) (k := k1) (n := 20 + 24 * u0) (by first | with_reducible exact R1.alloc _ | with_reducible exact R1 | with_reducible exact (R1.below b3).alloc _ | with_reducible exact (R1.alloc _).below b3 | with_reducible exact R1.below b3) _ _ _ rfl (by first | with_reducible exact nw_lit1 (B := 0) _ ⟨#[61]⟩ (by decide) (Nat.zero_le _) | with_reducible exact (nw_lit1 (B := 0) wq ⟨#[61]⟩ (by decide) (Nat.zero_le _)).drew.below b1 | with_reducible exact (nw_lit1 (B := 0) w1 ⟨#[61]⟩ (by decide) (Nat.zero_le _)).below b3 | with_reducible exact ((nw_lit1 (B := 0) wq ⟨#[61]⟩ (by decide) (Nat.zero_le _)).drew.below b1).below b3) (by omega) ?_; intro b2 c2 w2 R2 g2; obtain ⟨rb0, rb1, rb2, rb3, rb4, rb5, rb6, rb7, rb8, rb9, rb10, rb11⟩ := K0.out _ R2.bel)
    | (refine step_rw rfl _ _ rfl (v := .slice b2 (k1 + 1) c2) rfl (w := w) (k := k1 + 1) (n := 20 + 24 * u0 + 1) (by first | with_reducible exact R2 | with_reducible exact R2.below b3) _ _ _ rfl (by first | with_reducible exact N3 | with_reducible exact N3.grown g2 R1 (Nat.le_refl _) | with_reducible exact (N3.alloc _).grown g2 R1 (Nat.le_refl _) | with_reducible exact N3.grown g2 (R1.alloc _) (Nat.le_refl _)) (by omega) ?_; intro b4 c4 w4 R4 g4))
  all_goals
    go_wp2_with fail
    go_ret
    exact (R4.more (n' := 20 + 24 * (ns.length + wtL ks)) (by omega)).says (Below.refl _ _)
end Go.Proofs.Ytlmmomffanakiaa
