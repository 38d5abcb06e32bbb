/- The words of an expression with a sign. -/
import Derived.Test.YtlmmomffanakiaaWdF
import Derived.Deep.RegionHeld3
namespace Go.Proofs.Ytlmmomffanakiaa
open Go.RowKit

set_option maxRecDepth 100000 in
set_option maxHeartbeats 3200000 in
theorem exp_un (tx : ByteArray) (n y z : Int) (ns : List ByteArray) (ks : List Nd) (a b : Option Addr) (ca cb hi : Nat) (w : World) (hz : 1 ≤ z ∧ z ≤ 1000) (htx : tx.size ≤ 4000) (hw : wtL ks ≤ 8000) (hl : 1 ≤ ks.length) (HK : KidOk w ks b hi z) :
    Calls Try.prog 60 #[.agg #[.int .i64 20, .string tx, .int .i64 n, .slice a ns.length ca, .int .i64 y, .slice b ks.length cb], .int .i64 z] w fun e w' => Says w (20 + 24 * (ns.length + wtL ks)) e w' := by
  have w1z : IntKind.i64.wrap (z - 1) = z - 1 := by rw [IntKind.wrap_i64]; omega
  have hm := wtL1 hl
  have hln : 1 ≤ ks.length := by omega
  have hj0 : 0 < ks.length := by omega
  have hi0 : (0 : Int) < (ks.length : Int) := by omega
  obtain ⟨g, o, v00, v01, v02, v03, v04, v05, e0, hg0, hv0, hc0, hk0⟩ := HK 0 (by omega)
  subst e0
  simp only [Nat.mul_zero, Nat.add_zero] at hc0
  generalize wt ks[0] = u0 at *
  clear HK
  have htx9 : tx.size ≤ 9000 := by omega
  go_enter Try.func60, Try.ntmps60
  go_wp2_with fail
  have bA := bel_alloc w (.cells #[.int .i64 20, .string tx, .int .i64 n, .slice a ns.length ca, .int .i64 y, .slice (some ⟨g, o, none⟩) ks.length cb] 27)
  have rA := heap_alloc_new w (.cells #[.int .i64 20, .string tx, .int .i64 n, .slice a ns.length ca, .int .i64 y, .slice (some ⟨g, o, none⟩) ks.length cb] 27)
  have sA := size_alloc w (.cells #[.int .i64 20, .string tx, .int .i64 n, .slice a ns.length ca, .int .i64 y, .slice (some ⟨g, o, none⟩) ks.length cb] 27)
  generalize w.alloc (.cells #[.int .i64 20, .string tx, .int .i64 n, .slice a ns.length ca, .int .i64 y, .slice (some ⟨g, o, none⟩) ks.length cb] 27) = w0 at *
  have sL : w.heap.size < w0.heap.size := by omega
  clear sA
  have K0 : Hid (∀ W, Below w0.heap.size w0 W → W.cell? ⟨w.heap.size, 1, none⟩ = some (.string tx) ∧ W.cell? ⟨g, o, none⟩ = some v00 ∧ W.cell? ⟨g, o + 1, none⟩ = some v01 ∧ W.cell? ⟨g, o + 2, none⟩ = some v02 ∧ W.cell? ⟨g, o + 3, none⟩ = some v03 ∧ W.cell? ⟨g, o + 4, none⟩ = some v04 ∧ W.cell? ⟨g, o + 5, none⟩ = some v05) := fun W hb =>
    ⟨cell_of_row _ _ 1 _ _ _ ((hb.block w.heap.size (by omega)).trans rA), hc0 W (bA.trans (hb.mono bA.size))⟩
  have HK0 : Hid (∀ W, Below w0.heap.size w0 W → Calls Try.prog 47 #[.agg #[v00, v01, v02, v03, v04, v05], .int .i64 (z - 1)] W fun e w' => Says W (20 + 24 * u0) e w') := fun W hb => hk0 W (bA.trans (hb.mono bA.size))
  have b0 : Below w0.heap.size w0 w0.drew := (Below.refl _ _).drew
  have b0a : ∀ O, Below w0.heap.size w0 (w0.alloc O) := fun O => bel_alloc w0 O
  have b0d : ∀ O, Below w0.heap.size w0 (w0.alloc O).drew := fun O => (bel_alloc w0 O).drew
  obtain ⟨p0, p1, p2, p3, p4, p5, p6⟩ := K0.out _ (Below.refl _ _)
  have y0 := fun O => (K0.out _ (b0a O)).1
  have y1 := fun O => (K0.out _ (b0a O)).2.1
  have y2 := fun O => (K0.out _ (b0a O)).2.2.1
  have y3 := fun O => (K0.out _ (b0a O)).2.2.2.1
  have y4 := fun O => (K0.out _ (b0a O)).2.2.2.2.1
  have y5 := fun O => (K0.out _ (b0a O)).2.2.2.2.2.1
  have y6 := fun O => (K0.out _ (b0a O)).2.2.2.2.2.2
  clear hc0 hk0 rA
  go_region_law (first
    | (refine step_rw rfl _ _ rfl (v := .slice (some ⟨w0.heap.size, 0, none⟩) 1 1) rfl (w := w0) (k := 1) (n := 1) (by with_reducible exact (rw_lit1 tx (Below.refl _ _) htx9).drew.below b1) _ _ _ rfl (by with_reducible exact N1) (by omega) ?_; intro b2 c2 w2 R2 g2)
    | (refine step_rw rfl _ _ rfl (v := .slice (some ⟨w1.heap.size, 0, none⟩) 1 1) rfl (w := w0) (k := 1) (n := 1) (by with_reducible exact rw_lit1 tx R1.bel htx9) _ _ _ rfl (by first | with_reducible exact N1 | with_reducible exact N1.alloc _) (by omega) ?_; intro b2 c2 w2 R2 g2)
    | (go_simp; go_at_call 47; with_reducible refine (HK0.out _ (by first | with_reducible exact b0 | with_reducible exact b0d _)).mono ?_; rintro e w1 hS; obtain ⟨a1, k1, c1, rfl, R1, N1, b1⟩ := says_row (w := w0) (by first | with_reducible exact b0 | with_reducible exact b0d _) hS; obtain ⟨ra0, ra1, ra2, ra3, ra4, ra5, ra6⟩ := K0.out _ R1.bel)
    | (go_simp; go_at_call 72; with_reducible refine (rw_wrap R2 (by omega)).mono ?_; rintro e w3 ⟨a3, k3, c3, rfl, R3⟩))
  all_goals
    go_wp2_with fail
    go_ret
    exact (R3.more (n' := 20 + 24 * (ns.length + wtL ks)) (by omega)).says bA
set_option maxRecDepth 100000 in
set_option maxHeartbeats 16000000 in
theorem exp_bin (tx : ByteArray) (n y z : Int) (ns : List ByteArray) (ks : List Nd) (a b : Option Addr) (ca cb hi : Nat) (w : World) (hz : 1 ≤ z ∧ z ≤ 1000) (htx : tx.size ≤ 4000) (hw : wtL ks ≤ 8000) (hl : 2 ≤ ks.length) (HK : KidOk w ks b hi z) :
    Calls Try.prog 60 #[.agg #[.int .i64 19, .string tx, .int .i64 n, .slice a ns.length ca, .int .i64 y, .slice b ks.length cb], .int .i64 z] w fun e w' => Says w (20 + 24 * (ns.length + wtL ks)) e w' := by
  have w1z : IntKind.i64.wrap (z - 1) = z - 1 := by rw [IntKind.wrap_i64]; omega
  have hm := wtL2 (show 1 < ks.length by omega)
  have hln : 2 ≤ ks.length := by omega
  have hj0 : 0 < ks.length := by omega
  have hi0 : (0 : Int) < (ks.length : Int) := by omega
  have hj1 : 1 < ks.length := by omega
  have hi1 : (1 : Int) < (ks.length : Int) := by omega
  obtain ⟨g, o, v00, v01, v02, v03, v04, v05, e0, hg0, hv0, hc0, hk0⟩ := HK 0 (by omega)
  subst e0
  simp only [Nat.mul_zero, Nat.add_zero] at hc0
  obtain ⟨g', o', v10, v11, v12, v13, v14, v15, e1, hg1, hv1, hc1, hk1⟩ := HK 1 (by omega)
  simp only [Option.some.injEq, Addr.mk.injEq, and_true] at e1
  obtain ⟨rfl, rfl⟩ := e1
  simp only [Nat.mul_one] at hc1
  generalize wt ks[0] = u0 at *
  generalize wt ks[1] = u1 at *
  clear HK hv0 hv1
  have htx9 : tx.size ≤ 9000 := by omega
  go_enter Try.func60, Try.ntmps60
  go_wp2_with fail
  have bA := bel_alloc w (.cells #[.int .i64 19, .string tx, .int .i64 n, .slice a ns.length ca, .int .i64 y, .slice (some ⟨g, o, none⟩) ks.length cb] 27)
  have rA := heap_alloc_new w (.cells #[.int .i64 19, .string tx, .int .i64 n, .slice a ns.length ca, .int .i64 y, .slice (some ⟨g, o, none⟩) ks.length cb] 27)
  have sA := size_alloc w (.cells #[.int .i64 19, .string tx, .int .i64 n, .slice a ns.length ca, .int .i64 y, .slice (some ⟨g, o, none⟩) ks.length cb] 27)
  generalize w.alloc (.cells #[.int .i64 19, .string tx, .int .i64 n, .slice a ns.length ca, .int .i64 y, .slice (some ⟨g, o, none⟩) ks.length cb] 27) = w0 at *
  have sL : w.heap.size < w0.heap.size := by omega
  clear sA
  have K0 : Hid (∀ W, Below w0.heap.size w0 W → W.cell? ⟨w.heap.size, 1, none⟩ = some (.string tx) ∧ W.cell? ⟨g, o, none⟩ = some v00 ∧ W.cell? ⟨g, o + 1, none⟩ = some v01 ∧ W.cell? ⟨g, o + 2, none⟩ = some v02 ∧ W.cell? ⟨g, o + 3, none⟩ = some v03 ∧ W.cell? ⟨g, o + 4, none⟩ = some v04 ∧ W.cell? ⟨g, o + 5, none⟩ = some v05 ∧ W.cell? ⟨g, o + 6, none⟩ = some v10 ∧ W.cell? ⟨g, o + 6 + 1, none⟩ = some v11 ∧ W.cell? ⟨g, o + 6 + 2, none⟩ = some v12 ∧ W.cell? ⟨g, o + 6 + 3, none⟩ = some v13 ∧ W.cell? ⟨g, o + 6 + 4, none⟩ = some v14 ∧ W.cell? ⟨g, o + 6 + 5, none⟩ = some v15) := fun W hb => by
    obtain ⟨h0, h1, h2, h3, h4, h5⟩ := hc0 W (bA.trans (hb.mono bA.size))
    exact ⟨cell_of_row _ _ 1 _ _ _ ((hb.block w.heap.size (by omega)).trans rA), h0, h1, h2, h3, h4, h5, hc1 W (bA.trans (hb.mono bA.size))⟩
  have HK0 : Hid (∀ W, Below w0.heap.size w0 W → Calls Try.prog 47 #[.agg #[v00, v01, v02, v03, v04, v05], .int .i64 (z - 1)] W fun e w' => Says W (20 + 24 * u0) e w') := fun W hb => hk0 W (bA.trans (hb.mono bA.size))
  have HK1 : Hid (∀ W, Below w0.heap.size w0 W → Calls Try.prog 47 #[.agg #[v10, v11, v12, v13, v14, v15], .int .i64 (z - 1)] W fun e w' => Says W (20 + 24 * u1) e w') := fun W hb => hk1 W (bA.trans (hb.mono bA.size))
  have b0 : Below w0.heap.size w0 w0.drew := (Below.refl _ _).drew
  have b0a : ∀ O, Below w0.heap.size w0 (w0.alloc O) := fun O => bel_alloc w0 O
  have b0d : ∀ O, Below w0.heap.size w0 (w0.alloc O).drew := fun O => (bel_alloc w0 O).drew
  obtain ⟨p0, p1, p2, p3, p4, p5, p6, p7, p8, p9, p10, p11, p12⟩ := K0.out _ (Below.refl _ _)
  have y0 := fun O => (K0.out _ (b0a O)).1
  have y1 := fun O => (K0.out _ (b0a O)).2.1
  have y2 := fun O => (K0.out _ (b0a O)).2.2.1
  have y3 := fun O => (K0.out _ (b0a O)).2.2.2.1
  have y4 := fun O => (K0.out _ (b0a O)).2.2.2.2.1
  have y5 := fun O => (K0.out _ (b0a O)).2.2.2.2.2.1
  have y6 := fun O => (K0.out _ (b0a O)).2.2.2.2.2.2.1
  have y7 := fun O => (K0.out _ (b0a O)).2.2.2.2.2.2.2.1
  have y8 := fun O => (K0.out _ (b0a O)).2.2.2.2.2.2.2.2.1
  have y9 := fun O => (K0.out _ (b0a O)).2.2.2.2.2.2.2.2.2.1
  have y10 := fun O => (K0.out _ (b0a O)).2.2.2.2.2.2.2.2.2.2.1
  have y11 := fun O => (K0.out _ (b0a O)).2.2.2.2.2.2.2.2.2.2.2.1
  have y12 := fun O => (K0.out _ (b0a O)).2.2.2.2.2.2.2.2.2.2.2.2
  clear hc0 hk0 hc1 hk1 rA
  go_region_held3 (fun w' => w'.cell? ⟨w.heap.size, 1, none⟩ = some (.string tx) ∧ w'.cell? ⟨g, o, none⟩ = some v00 ∧ w'.cell? ⟨g, o + 1, none⟩ = some v01 ∧ w'.cell? ⟨g, o + 2, none⟩ = some v02 ∧ w'.cell? ⟨g, o + 3, none⟩ = some v03 ∧ w'.cell? ⟨g, o + 4, none⟩ = some v04 ∧ w'.cell? ⟨g, o + 5, none⟩ = some v05 ∧ w'.cell? ⟨g, o + 6, none⟩ = some v10 ∧ w'.cell? ⟨g, o + 6 + 1, none⟩ = some v11 ∧ w'.cell? ⟨g, o + 6 + 2, none⟩ = some v12 ∧ w'.cell? ⟨g, o + 6 + 3, none⟩ = some v13 ∧ w'.cell? ⟨g, o + 6 + 4, none⟩ = some v14 ∧ w'.cell? ⟨g, o + 6 + 5, none⟩ = some v15) (first | (with_reducible exact K0.out _ b0) | (with_reducible exact K0.out _ (b0a _)) | (with_reducible exact K0.out _ (b0d _)) | (with_reducible exact K0.out _ (Below.refl _ _)) | (with_reducible exact K0.out _ R1.bel) | (with_reducible exact K0.out _ (yR _)) | (with_reducible exact K0.out _ R2.bel) | (with_reducible exact K0.out _ R3.bel) | (with_reducible exact K0.out _ (yR3 _)) | (with_reducible exact K0.out _ R4.bel) | (with_reducible exact K0.out _ R5.bel)) (first
    | (go_simp; go_at_call 47; with_reducible refine (HK0.out _ (by first | with_reducible exact b0 | with_reducible exact b0d _)).mono ?_; rintro e w1 hS; obtain ⟨a1, k1, c1, rfl, R1, N1, b1⟩ := says_row (w := w0) (by first | with_reducible exact b0 | with_reducible exact b0d _) hS; obtain ⟨ra0, ra1, ra2, ra3, ra4, ra5, ra6, ra7, ra8, ra9, ra10, ra11, ra12⟩ := K0.out _ R1.bel; have yR := fun O => (R1.alloc O).bel)
    | (go_simp; go_at_call 47; with_reducible refine (HK1.out _ (by first | with_reducible exact R1.bel | with_reducible exact R2.bel | with_reducible exact yR _)).mono ?_; rintro e w3 hS3; obtain ⟨a3, k3, c3, rfl, R3, N3, b3⟩ := says_row (w := w0) (by first | with_reducible exact R1.bel | with_reducible exact R2.bel | with_reducible exact yR _) hS3; obtain ⟨rc0, rc1, rc2, rc3, rc4, rc5, rc6, rc7, rc8, rc9, rc10, rc11, rc12⟩ := K0.out _ R3.bel; have yR3 := fun O => (R3.alloc O).bel)
    | (go_simp; go_at_call 72; with_reducible refine (rw_wrap R4 (by omega)).mono ?_; rintro e w5 ⟨a5, k5, c5, rfl, R5⟩)
    | (refine step_rw rfl _ _ rfl (v := .slice a1 k1 c1) rfl (w := w0) (k := k1) (n := 20 + 24 * u0) (by first | with_reducible exact R1.alloc _ | with_reducible exact R1 | with_reducible exact (R1.below b3).alloc _ | with_reducible exact (R1.alloc _).below b3 | with_reducible exact R1.below b3) _ _ _ rfl (by first | with_reducible exact nw_lit1 (B := 0) _ tx htx9 (Nat.zero_le _) | with_reducible exact (nw_lit1 (B := 0) w0 tx htx9 (Nat.zero_le _)).drew.below b1 | with_reducible exact (nw_lit1 (B := 0) w1 tx htx9 (Nat.zero_le _)).below b3 | with_reducible exact ((nw_lit1 (B := 0) w0 tx htx9 (Nat.zero_le _)).drew.below b1).below b3) (by omega) ?_; intro b2 c2 w2 R2 g2; obtain ⟨rb0, rb1, rb2, rb3, rb4, rb5, rb6, rb7, rb8, rb9, rb10, rb11, rb12⟩ := K0.out _ R2.bel)
    | (refine step_rw rfl _ _ rfl (v := .slice b2 (k1 + 1) c2) rfl (w := w0) (k := k1 + 1) (n := 20 + 24 * u0 + 1) (by first | with_reducible exact R2 | with_reducible exact R2.below b3) _ _ _ rfl (by first | with_reducible exact N3 | with_reducible exact N3.grown g2 R1 (Nat.le_refl _) | with_reducible exact (N3.alloc _).grown g2 R1 (Nat.le_refl _) | with_reducible exact N3.grown g2 (R1.alloc _) (Nat.le_refl _)) (by omega) ?_; intro b4 c4 w4 R4 g4))
  all_goals
    go_wp2_with fail
    go_ret
    exact (R5.more (n' := 20 + 24 * (ns.length + wtL ks)) (by omega)).says bA
end Go.Proofs.Ytlmmomffanakiaa
