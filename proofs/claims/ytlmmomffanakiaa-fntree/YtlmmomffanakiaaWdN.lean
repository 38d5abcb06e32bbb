/- The words of a named function. -/
import Derived.Test.YtlmmomffanakiaaJmH
import Derived.Deep.RegionHeld3
namespace Go.Proofs.Ytlmmomffanakiaa
open Go.RowKit

/-- What NkRec reads of its kid and of its kid's first kid. -/
def RecOk (w : World) (ks : List Nd) (b : Option Addr) (z : Int) : Prop := ∀ (_ : 0 < ks.length),
  ∃ (g o : Nat) (a1 : Option Addr) (m1 c1 : Nat) (b1 : Option Addr) (q1 d1 : Nat), b = some ⟨g, o, none⟩ ∧ m1 ≤ 8000 ∧
    (∀ W, Below w.heap.size w W → W.cell? ⟨g, o + 3, none⟩ = some (.slice a1 m1 c1) ∧ W.cell? ⟨g, o + 5, none⟩ = some (.slice b1 q1 d1)) ∧
    (∀ W, Below w.heap.size w W → Calls Try.prog 59 #[.slice a1 m1 c1] W fun e w' => Says W (2 * m1 + 2) e w') ∧
    (0 < q1 → ∃ (g2 o2 : Nat) (v0 v1 v2 v3 v4 v5 : Value) (u2 : Nat), b1 = some ⟨g2, o2, none⟩ ∧ 2 + m1 + u2 ≤ wtL ks ∧
      (∀ W, Below w.heap.size w W → W.cell? ⟨g2, o2, none⟩ = some v0 ∧ W.cell? ⟨g2, o2 + 1, none⟩ = some v1 ∧ W.cell? ⟨g2, o2 + 2, none⟩ = some v2 ∧ W.cell? ⟨g2, o2 + 3, none⟩ = some v3 ∧ W.cell? ⟨g2, o2 + 4, none⟩ = some v4 ∧ W.cell? ⟨g2, o2 + 5, none⟩ = some v5) ∧
      ∀ W, Below w.heap.size w W → Calls Try.prog 47 #[.agg #[v0, v1, v2, v3, v4, v5], .int .i64 (z - 2)] W fun e w' => Says W (20 + 24 * u2) e w')

set_option maxRecDepth 100000 in
set_option maxHeartbeats 3200000 in
theorem w_rec (tx : ByteArray) (n y z : Int) (ns : List ByteArray) (ks : List Nd) (a b : Option Addr) (ca cb : Nat) (w : World) (hz : 2 ≤ z ∧ z ≤ 1000) (htx : tx.size ≤ 4000) (hw : wtL ks ≤ 8000) (hl : 1 ≤ ks.length) (HR : RecOk w ks b z) :
    Calls Try.prog 47 #[.agg #[.int .i64 2, .string tx, .int .i64 n, .slice a ns.length ca, .int .i64 y, .slice b ks.length cb], .int .i64 z] w fun e w' => Says w (20 + 24 * (ns.length + wtL ks)) e w' := by
  have w2z : IntKind.i64.wrap (z - 2) = z - 2 := by rw [IntKind.wrap_i64]; omega
  have hj0 : 0 < ks.length := by omega
  have hi0 : (0 : Int) < (ks.length : Int) := by omega
  obtain ⟨g, o, a1, m1, c1, b1, q1, d1, rfl, hm1, hc, hN, hG⟩ := HR hj0
  clear HR
  by_cases hq : 0 < q1
  · have hqi : (0 : Int) < (q1 : Int) := by omega
    obtain ⟨g2, o2, v0, v1, v2, v3, v4, v5, u2, rfl, hu, hc2, hk2⟩ := hG hq
    clear hG
    have hLs : ∀ W : World, Calls Try.prog 58 #[.int .i64 2] W fun e w' => e = .returned (.int .i64 1) ∧ w' = W := fun W => least_any 2 W
    have hl1 : ¬ (ks.length : Int) < 1 := by omega
    have hz0 : (z == 0) = false := by simp; omega
    go_enter Try.func47, Try.ntmps47
    go_wp2_with fail
    go_quiet (first | (go_at_call 58; with_reducible refine Calls.quiet_of_same (hLs _)))
    have bB : Below w.heap.size w ((w.alloc (.cells #[.int .i64 2, .string tx, .int .i64 n, .slice a ns.length ca, .int .i64 y, .slice (some ⟨g, o, none⟩) ks.length cb] 27)).drewN nq) := bel_drewN (bel_alloc w _)
    have rB : ((w.alloc (.cells #[.int .i64 2, .string tx, .int .i64 n, .slice a ns.length ca, .int .i64 y, .slice (some ⟨g, o, none⟩) ks.length cb] 27)).drewN nq).heap[w.heap.size]? = some (.cells #[.int .i64 2, .string tx, .int .i64 n, .slice a ns.length ca, .int .i64 y, .slice (some ⟨g, o, none⟩) ks.length cb] 27 (0, 0)) := heap_alloc_new w _
    have sB : w.heap.size < ((w.alloc (.cells #[.int .i64 2, .string tx, .int .i64 n, .slice a ns.length ca, .int .i64 y, .slice (some ⟨g, o, none⟩) ks.length cb] 27)).drewN nq).heap.size := by show w.heap.size < (w.alloc _).heap.size; simp
    generalize (w.alloc (.cells #[.int .i64 2, .string tx, .int .i64 n, .slice a ns.length ca, .int .i64 y, .slice (some ⟨g, o, none⟩) ks.length cb] 27)).drewN nq = wB at *
    have p0 := cell_of_row _ _ 0 _ _ _ rB
    have p1 := cell_of_row _ _ 1 _ _ _ rB
    have p2 := cell_of_row _ _ 2 _ _ _ rB
    have p3 := cell_of_row _ _ 3 _ _ _ rB
    have p4 := cell_of_row _ _ 4 _ _ _ rB
    have p5 := cell_of_row _ _ 5 _ _ _ rB
    simp only [List.getElem?_toArray, List.getElem?_cons_zero, List.getElem?_cons_succ] at p0 p1 p2 p3 p4 p5
    have P0 : ∀ O, (wB.alloc O).cell? ⟨w.heap.size, 0, none⟩ = _ := fun O => ((bel_alloc wB O).cell (p := ⟨w.heap.size, 0, none⟩) sB).trans p0
    have P1 : ∀ O, (wB.alloc O).cell? ⟨w.heap.size, 1, none⟩ = _ := fun O => ((bel_alloc wB O).cell (p := ⟨w.heap.size, 1, none⟩) sB).trans p1
    have P2 : ∀ O, (wB.alloc O).cell? ⟨w.heap.size, 2, none⟩ = _ := fun O => ((bel_alloc wB O).cell (p := ⟨w.heap.size, 2, none⟩) sB).trans p2
    have P3 : ∀ O, (wB.alloc O).cell? ⟨w.heap.size, 3, none⟩ = _ := fun O => ((bel_alloc wB O).cell (p := ⟨w.heap.size, 3, none⟩) sB).trans p3
    have P4 : ∀ O, (wB.alloc O).cell? ⟨w.heap.size, 4, none⟩ = _ := fun O => ((bel_alloc wB O).cell (p := ⟨w.heap.size, 4, none⟩) sB).trans p4
    have P5 : ∀ O, (wB.alloc O).cell? ⟨w.heap.size, 5, none⟩ = _ := fun O => ((bel_alloc wB O).cell (p := ⟨w.heap.size, 5, none⟩) sB).trans p5
    have bE : ∀ A, Below w.heap.size w (wB.alloc A) := fun A => bB.trans ((bel_alloc wB A).mono bB.size)
    have bEE : ∀ A B, Below w.heap.size w ((wB.alloc A).alloc B) := fun A B => (bE A).trans ((bel_alloc _ B).mono (bE A).size)
    have q3 := fun A => (hc _ (bE A)).1
    have q5 := fun A => (hc _ (bE A)).2
    have PQ := P1 (.cells #[] 9)
    have Bq := bE (.cells #[] 9)
    have sq : w.heap.size < (wB.alloc (.cells #[] 9)).heap.size := by simp; omega
    go_wp2_with fail
    generalize wB.alloc (.cells #[] 9) = wq at *
    have K0 : Hid (∀ W, Below wq.heap.size wq W → W.cell? ⟨w.heap.size, 1, none⟩ = some (.string tx) ∧ W.cell? ⟨g, o + 3, none⟩ = some (.slice a1 m1 c1)) := fun W hb => ⟨(hb.cell (p := ⟨w.heap.size, 1, none⟩) sq).trans PQ, (hc W (Bq.trans (hb.mono Bq.size))).1⟩
    have HN0 : Hid (∀ W, Below wq.heap.size wq W → Calls Try.prog 59 #[.slice a1 m1 c1] W fun e w' => Says W (2 * m1 + 2) e w') := fun W hb => hN W (Bq.trans (hb.mono Bq.size))
    have b0 : Below wq.heap.size wq wq.drew := (Below.refl _ _).drew
    have b0a : ∀ O, Below wq.heap.size wq (wq.alloc O) := fun O => bel_alloc wq O
    have b0d : ∀ O, Below wq.heap.size wq (wq.alloc O).drew := fun O => (bel_alloc wq O).drew
    have htx9 : tx.size ≤ 9000 := by omega
    clear hN q3 q5 p0 p1 p2 p3 p4 p5 P0 P1 P2 P3 P4 P5 bE bEE rB sB bB
    go_region_held3 (fun w' => w'.cell? ⟨w.heap.size, 1, none⟩ = some (.string tx) ∧ w'.cell? ⟨g, o + 3, none⟩ = some (.slice a1 m1 c1)) (first | (with_reducible exact K0.out _ b0) | (with_reducible exact K0.out _ (b0a _)) | (with_reducible exact K0.out _ (b0d _)) | (with_reducible exact K0.out _ (Below.refl _ _)) | (with_reducible exact K0.out _ R1.bel) | (with_reducible exact K0.out _ (yR _)) | (with_reducible exact K0.out _ R2.bel)) (first
      | (go_simp; go_at_call 59; with_reducible refine (HN0.out _ (by first | with_reducible exact b0 | with_reducible exact b0d _)).mono ?_; rintro e w1 hS; obtain ⟨a3, k3, c3, rfl, R1, N1, b1'⟩ := says_row (w := wq) (by first | with_reducible exact b0 | with_reducible exact b0d _) hS; have yR := fun O => (R1.alloc O).bel)
      | (refine step_rw rfl _ _ rfl (v := .slice (some ⟨wq.heap.size, 0, none⟩) 3 3) rfl (w := wq) (k := 3) (n := 3) (by with_reducible exact (rw_lit3 ⟨#[108, 111, 99, 97, 108]⟩ ⟨#[102, 117, 110, 99, 116, 105, 111, 110]⟩ tx (Below.refl _ _) (by decide) (by decide) htx9).drew.below b1') _ _ _ rfl (by with_reducible exact N1) (by omega) ?_; intro b2 c2 w2 R2 g2)
      | (refine step_rw rfl _ _ rfl (v := .slice (some ⟨w1.heap.size, 0, none⟩) 3 3) rfl (w := wq) (k := 3) (n := 3) (by with_reducible exact rw_lit3 ⟨#[108, 111, 99, 97, 108]⟩ ⟨#[102, 117, 110, 99, 116, 105, 111, 110]⟩ tx R1.bel (by decide) (by decide) htx9) _ _ _ rfl (by with_reducible exact N1.alloc _) (by omega) ?_; intro b2 c2 w2 R2 g2))
    all_goals
      have BB := Bq.trans (R2.bel.mono Bq.size)
      obtain ⟨x3, x5⟩ := hc w2 BB
      obtain ⟨t0, t1, t2, t3, t4, t5⟩ := hc2 w2 BB
      clear hc hc2
      go_wp2_with fail
      refine (hk2 _ BB).mono ?_
      rintro e w4 hS
      obtain ⟨a4, k4, c4, rfl, R4, N4, b4⟩ := says_row (w := wq) R2.bel hS
      clear hS
      go_wp2_with (at_builtin; go_must (refine wpList_rw rfl _ _ rfl rfl (R2.below b4) _ _ _ rfl N4 (by omega) ?_))
      intro b5 c5 w5 R5 g5
      go_wp2_with (at_builtin; go_must (refine wpList_rw rfl _ _ rfl rfl (R5.alloc _) _ _ _ rfl (nw_lit1 w5 ⟨#[101, 110, 100]⟩ (by decide) (Nat.le_refl _)) (by omega) ?_))
      intro b6 c6 w6 R6 g6
      go_wp2_with fail
      go_ret
      exact (R6.more (n' := 20 + 24 * (ns.length + wtL ks)) (by omega)).says Bq
  · have hqi : ¬ (0 : Int) < (q1 : Int) := by omega
    clear hG hN
    have hLs : ∀ W : World, Calls Try.prog 58 #[.int .i64 2] W fun e w' => e = .returned (.int .i64 1) ∧ w' = W := fun W => least_any 2 W
    have hl1 : ¬ (ks.length : Int) < 1 := by omega
    have hz0 : (z == 0) = false := by simp; omega
    go_enter Try.func47, Try.ntmps47
    go_wp2_with fail
    go_quiet (first | (go_at_call 58; with_reducible refine Calls.quiet_of_same (hLs _)))
    have bB : Below w.heap.size w ((w.alloc (.cells #[.int .i64 2, .string tx, .int .i64 n, .slice a ns.length ca, .int .i64 y, .slice (some ⟨g, o, none⟩) ks.length cb] 27)).drewN nq) := bel_drewN (bel_alloc w _)
    have rB : ((w.alloc (.cells #[.int .i64 2, .string tx, .int .i64 n, .slice a ns.length ca, .int .i64 y, .slice (some ⟨g, o, none⟩) ks.length cb] 27)).drewN nq).heap[w.heap.size]? = some (.cells #[.int .i64 2, .string tx, .int .i64 n, .slice a ns.length ca, .int .i64 y, .slice (some ⟨g, o, none⟩) ks.length cb] 27 (0, 0)) := heap_alloc_new w _
    have sB : w.heap.size < ((w.alloc (.cells #[.int .i64 2, .string tx, .int .i64 n, .slice a ns.length ca, .int .i64 y, .slice (some ⟨g, o, none⟩) ks.length cb] 27)).drewN nq).heap.size := by show w.heap.size < (w.alloc _).heap.size; simp
    generalize (w.alloc (.cells #[.int .i64 2, .string tx, .int .i64 n, .slice a ns.length ca, .int .i64 y, .slice (some ⟨g, o, none⟩) ks.length cb] 27)).drewN nq = wB at *
    have p0 := cell_of_row _ _ 0 _ _ _ rB
    have p1 := cell_of_row _ _ 1 _ _ _ rB
    have p2 := cell_of_row _ _ 2 _ _ _ rB
    have p3 := cell_of_row _ _ 3 _ _ _ rB
    have p4 := cell_of_row _ _ 4 _ _ _ rB
    have p5 := cell_of_row _ _ 5 _ _ _ rB
    simp only [List.getElem?_toArray, List.getElem?_cons_zero, List.getElem?_cons_succ] at p0 p1 p2 p3 p4 p5
    have P0 : ∀ O, (wB.alloc O).cell? ⟨w.heap.size, 0, none⟩ = _ := fun O => ((bel_alloc wB O).cell (p := ⟨w.heap.size, 0, none⟩) sB).trans p0
    have P1 : ∀ O, (wB.alloc O).cell? ⟨w.heap.size, 1, none⟩ = _ := fun O => ((bel_alloc wB O).cell (p := ⟨w.heap.size, 1, none⟩) sB).trans p1
    have P2 : ∀ O, (wB.alloc O).cell? ⟨w.heap.size, 2, none⟩ = _ := fun O => ((bel_alloc wB O).cell (p := ⟨w.heap.size, 2, none⟩) sB).trans p2
    have P3 : ∀ O, (wB.alloc O).cell? ⟨w.heap.size, 3, none⟩ = _ := fun O => ((bel_alloc wB O).cell (p := ⟨w.heap.size, 3, none⟩) sB).trans p3
    have P4 : ∀ O, (wB.alloc O).cell? ⟨w.heap.size, 4, none⟩ = _ := fun O => ((bel_alloc wB O).cell (p := ⟨w.heap.size, 4, none⟩) sB).trans p4
    have P5 : ∀ O, (wB.alloc O).cell? ⟨w.heap.size, 5, none⟩ = _ := fun O => ((bel_alloc wB O).cell (p := ⟨w.heap.size, 5, none⟩) sB).trans p5
    have bE : ∀ A, Below w.heap.size w (wB.alloc A) := fun A => bB.trans ((bel_alloc wB A).mono bB.size)
    have bEE : ∀ A B, Below w.heap.size w ((wB.alloc A).alloc B) := fun A B => (bE A).trans ((bel_alloc _ B).mono (bE A).size)
    have q5 := fun A => (hc _ (bE A)).2
    have R0 := rw_lit0 (w := w) (W := wB) bB
    go_wp2_with fail
    go_ret
    exact (R0.more (n' := 20 + 24 * (ns.length + wtL ks)) (by omega)).says (Below.refl _ _)
end Go.Proofs.Ytlmmomffanakiaa
