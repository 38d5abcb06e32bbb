/- The walk of FnTree: it returns true. -/
import Derived.Test.YtlmmomffanakiaaWdP
import Derived.Test.YtlmmomffanakiaaJmN
import Derived.Test.YtlmmomffanakiaaSmJ
import Derived.Test.YtlmmomffanakiaaTreeZ
import Derived.Test.YtlmmomffanakiaaCodeA
import Derived.Deep.RegionHeld3
namespace Go.Proofs.Ytlmmomffanakiaa
open Go.RowKit

theorem code_below {w w' : World} {a : Option Addr} {len cap : Nat} (h : IsCode w w.heap.size a len cap) (hb : Below w.heap.size w w') : IsCode w' w'.heap.size a len cap :=
  ⟨h.small, fun j hj => by
    obtain ⟨b, off, x, e, hlt, hx, h0, h1⟩ := h.cells j hj
    exact ⟨b, off, x, e, Nat.lt_of_lt_of_le hlt hb.size, by rw [hb.cell (by exact hlt)]; exact hx, h0, h1⟩⟩
theorem bel_then {U W W' : World} (h : Below U.heap.size U W) (hb : Below W.heap.size W W') : Below U.heap.size U W' := h.trans (hb.mono h.size)
theorem szt_pos (t : Nd) : 1 ≤ szt 60 t := by
  obtain ⟨k, tx, n, ns, y, ks⟩ := t
  simp only [szt]
  omega
set_option maxRecDepth 100000 in
set_option maxHeartbeats 16000000 in
theorem fn_tree (a0 : Option Addr) (len cap : Nat) (w : World) (hcode : IsCode w w.heap.size a0 len cap) :
    Calls Try.prog 3 #[.slice a0 len cap] w fun e w' => e = .returned (.bool true) ∧ Below w.heap.size w w' := by
  have hsm := hcode.small
  by_cases hbig : 1048576 < len
  · go_enter Try.func3, Try.ntmps3
    go_wp2_with (go_at_call 6; go_in)
    go_ret
    exact ⟨rfl, Below.refl _ _⟩
  · have hbig' : len ≤ 1048576 := by omega
    go_enter Try.func3, Try.ntmps3
    go_wp2_with (go_at_call 6; go_in)
    refine (drawSame_any (wd_ok 30 (by decide)) a0 len cap w hcode).mono ?_
    rintro e w1 ⟨s, t, v, u, rfl, hN1, hN2, hF1, hF2, hw1, hw2, hb1⟩
    have S1 := fun (p q : Nd) (W : World) (v u : List Value) (hp : Flat 30 p) (hq : Flat 30 q) (x : NAt W 0 W.heap.size p v) (y : NAt W 0 W.heap.size q u) (h1 : wt p ≤ 8000) (h2 : wt q ≤ 8000) => same_impl p q 0 W.heap.size 0 W.heap.size v u W hp hq x y (Nat.le_refl _) (Nat.le_refl _) (by omega) (by omega)
    have N1 : Hid (∀ W, Below w1.heap.size w1 W → NAt W 0 W.heap.size s v) := fun W hb => NAt.later (Nat.zero_le _) hb.size (fun p _ hp => hb.cell (by exact hp)) hN1
    have N2 : Hid (∀ W, Below w1.heap.size w1 W → NAt W 0 W.heap.size t u) := fun W hb => NAt.later (Nat.zero_le _) hb.size (fun p _ hp => hb.cell (by exact hp)) hN2
    have C1 : Hid (∀ W, Below w1.heap.size w1 W → Calls Try.prog 8 #[.agg v.toArray, .agg u.toArray] W fun e w' => e = .returned (.bool (lk s t)) ∧ Below W.heap.size W w') := fun W hb => S1 s t W v u hF1 hF2 (N1.out W hb) (N2.out W hb) hw1 hw2
    have C2 : Hid (∀ W, Below w1.heap.size w1 W → Calls Try.prog 8 #[.agg u.toArray, .agg v.toArray] W fun e w' => e = .returned (.bool (lk s t)) ∧ Below W.heap.size W w') := fun W hb => by
      rw [lk_comm s t]
      exact S1 t s W u v hF2 hF1 (N2.out W hb) (N1.out W hb) hw2 hw1
    have C3 : Hid (∀ W, Below w1.heap.size w1 W → Calls Try.prog 8 #[.agg v.toArray, .agg v.toArray] W fun e w' => e = .returned (.bool true) ∧ Below W.heap.size W w') := fun W hb => by
      have := S1 s s W v v hF1 hF1 (N1.out W hb) (N1.out W hb) hw1 hw1
      rwa [lk_refl] at this
    have C4 : Hid (∀ W, Below w1.heap.size w1 W → Calls Try.prog 10 #[.agg v.toArray, .agg u.toArray] W fun e w' => e = .returned (.bool (lk s t)) ∧ Below W.heap.size W w') := fun W hb => same_spec s t 0 W.heap.size 0 W.heap.size v u W hF1 (N1.out W hb) (N2.out W hb) (Nat.le_refl _) (Nat.le_refl _) (by omega) (by omega)
    have C5 : Hid (∀ W, Below w1.heap.size w1 W → Calls Try.prog 11 #[.agg v.toArray] W fun e w' => e = .returned (.int .i64 (szt 60 s : Nat)) ∧ Below W.heap.size W w') := fun W hb => size_impl s 0 W.heap.size v W (N1.out W hb) (Nat.le_refl _) (by omega)
    have C6 : Hid (∀ W, Below w1.heap.size w1 W → Calls Try.prog 11 #[.agg u.toArray] W fun e w' => e = .returned (.int .i64 (szt 60 t : Nat)) ∧ Below W.heap.size W w') := fun W hb => size_impl t 0 W.heap.size u W (N2.out W hb) (Nat.le_refl _) (by omega)
    have HZ : Hid (lk s t = true → szt 60 s = szt 60 t) := lk_szt 60 s t
    obtain ⟨k1, t1, n1, m1, a1, c1, y1, b1, d1, q1, rfl⟩ := nd_cells hN1
    obtain ⟨k2, t2, n2, m2, a2, c2, y2, b2, d2, q2, rfl⟩ := nd_cells hN2
    clear hN1 hN2 hF1 hF2 hw1 hw2 S1 N1 N2
    generalize szt 60 s = z1 at *
    generalize szt 60 t = z2 at *
    generalize lk s t = L at *
    have bA := bel_alloc w1 (.cells #[.int .i64 k1, .string t1, .int .i64 n1, .slice a1 m1 c1, .int .i64 y1, .slice b1 q1 d1] 27)
    have rA := heap_alloc_new w1 (.cells #[.int .i64 k1, .string t1, .int .i64 n1, .slice a1 m1 c1, .int .i64 y1, .slice b1 q1 d1] 27)
    have bB := bel_alloc (w1.alloc (.cells #[.int .i64 k1, .string t1, .int .i64 n1, .slice a1 m1 c1, .int .i64 y1, .slice b1 q1 d1] 27)) (.cells #[.int .i64 k2, .string t2, .int .i64 n2, .slice a2 m2 c2, .int .i64 y2, .slice b2 q2 d2] 27)
    have rB := heap_alloc_new (w1.alloc (.cells #[.int .i64 k1, .string t1, .int .i64 n1, .slice a1 m1 c1, .int .i64 y1, .slice b1 q1 d1] 27)) (.cells #[.int .i64 k2, .string t2, .int .i64 n2, .slice a2 m2 c2, .int .i64 y2, .slice b2 q2 d2] 27)
    have rA2 := (bB.block w1.heap.size (by simp)).trans rA
    have bAB := bel_then bA bB
    simp only [size_alloc] at rB
    go_wp2_with fail
    generalize (w1.alloc (.cells #[.int .i64 k1, .string t1, .int .i64 n1, .slice a1 m1 c1, .int .i64 y1, .slice b1 q1 d1] 27)).alloc (.cells #[.int .i64 k2, .string t2, .int .i64 n2, .slice a2 m2 c2, .int .i64 y2, .slice b2 q2 d2] 27) = w2 at *
    clear rA bA bB
    refine (C1.out _ bAB).mono ?_
    rintro e w3 ⟨rfl, hb3⟩
    have b13 := bel_then bAB hb3
    have hs2 : w1.heap.size + 1 < w2.heap.size := (Array.getElem?_eq_some_iff.1 rB).1
    have rA3 := (hb3.block w1.heap.size (by omega)).trans rA2
    have rB3 := (hb3.block (w1.heap.size + 1) hs2).trans rB
    have hcode3 := code_below hcode (bel_then hb1 b13)
    clear rA2 rB bAB
    go_wp2_with fail
    refine (drawSize_any a0 len cap w3 hcode3).mono ?_
    rintro e w4 ⟨c, x, rfl, hN3, _, _, hw3, hb4⟩
    have b14 := bel_then b13 hb4
    have hs3 : w1.heap.size + 1 < w3.heap.size := (Array.getElem?_eq_some_iff.1 rB3).1
    have rA4 := (hb4.block w1.heap.size (by omega)).trans rA3
    have rB4 := (hb4.block (w1.heap.size + 1) hs3).trans rB3
    have N3 : Hid (∀ W, Below w4.heap.size w4 W → NAt W 0 W.heap.size c x) := fun W hb => NAt.later (Nat.zero_le _) hb.size (fun p _ hp => hb.cell (by exact hp)) hN3
    have C7 : Hid (∀ W, Below w4.heap.size w4 W → Calls Try.prog 11 #[.agg x.toArray] W fun e w' => e = .returned (.int .i64 (szt 60 c : Nat)) ∧ Below W.heap.size W w') := fun W hb => size_impl c 0 W.heap.size x W (N3.out W hb) (Nat.le_refl _) (by omega)
    have C8 : Hid (∀ W, Below w4.heap.size w4 W → Calls Try.prog 12 #[.agg x.toArray] W fun e w' => e = .returned (.int .i64 (szt 60 c : Nat)) ∧ Below W.heap.size W w') := fun W hb => size_spec c 0 W.heap.size x W (N3.out W hb) (Nat.le_refl _) (by omega)
    have hz := szt_pos c
    obtain ⟨k3, t3, n3, m3, a3, c3, y3, b3, d3, q3, rfl⟩ := nd_cells hN3
    clear hN3 N3 hw3 rA3 rB3
    generalize szt 60 c = z3 at *
    have hz1 : (1 : Int) ≤ (z3 : Int) := by omega
    have bC := bel_alloc w4 (.cells #[.int .i64 k3, .string t3, .int .i64 n3, .slice a3 m3 c3, .int .i64 y3, .slice b3 q3 d3] 27)
    have rC := heap_alloc_new w4 (.cells #[.int .i64 k3, .string t3, .int .i64 n3, .slice a3 m3 c3, .int .i64 y3, .slice b3 q3 d3] 27)
    have hs4 : w1.heap.size + 1 < w4.heap.size := (Array.getElem?_eq_some_iff.1 rB4).1
    have x0 := fun (j : Nat) O => (bel_alloc w4 O).cell (p := ⟨w1.heap.size, j, none⟩) (by show w1.heap.size < _; omega)
    go_wp2_with fail
    generalize w4.alloc (.cells #[.int .i64 k3, .string t3, .int .i64 n3, .slice a3 m3 c3, .int .i64 y3, .slice b3 q3 d3] 27) = U at *
    have b1U := bel_then b14 bC
    have KEEP : Hid (∀ W, Below U.heap.size U W → W.cell? ⟨w1.heap.size, 0, none⟩ = some (.int .i64 k1) ∧ W.cell? ⟨w1.heap.size, 1, none⟩ = some (.string t1) ∧ W.cell? ⟨w1.heap.size, 2, none⟩ = some (.int .i64 n1) ∧ W.cell? ⟨w1.heap.size, 3, none⟩ = some (.slice a1 m1 c1) ∧ W.cell? ⟨w1.heap.size, 4, none⟩ = some (.int .i64 y1) ∧ W.cell? ⟨w1.heap.size, 5, none⟩ = some (.slice b1 q1 d1) ∧ W.cell? ⟨w1.heap.size + 1, 0, none⟩ = some (.int .i64 k2) ∧ W.cell? ⟨w1.heap.size + 1, 1, none⟩ = some (.string t2) ∧ W.cell? ⟨w1.heap.size + 1, 2, none⟩ = some (.int .i64 n2) ∧ W.cell? ⟨w1.heap.size + 1, 3, none⟩ = some (.slice a2 m2 c2) ∧ W.cell? ⟨w1.heap.size + 1, 4, none⟩ = some (.int .i64 y2) ∧ W.cell? ⟨w1.heap.size + 1, 5, none⟩ = some (.slice b2 q2 d2) ∧ W.cell? ⟨w4.heap.size, 0, none⟩ = some (.int .i64 k3) ∧ W.cell? ⟨w4.heap.size, 1, none⟩ = some (.string t3) ∧ W.cell? ⟨w4.heap.size, 2, none⟩ = some (.int .i64 n3) ∧ W.cell? ⟨w4.heap.size, 3, none⟩ = some (.slice a3 m3 c3) ∧ W.cell? ⟨w4.heap.size, 4, none⟩ = some (.int .i64 y3) ∧ W.cell? ⟨w4.heap.size, 5, none⟩ = some (.slice b3 q3 d3)) := fun W hb => by
      have h1 := (hb.block w1.heap.size (by have := bC.size; omega)).trans ((bC.block w1.heap.size (by omega)).trans rA4)
      have h2 := (hb.block (w1.heap.size + 1) (by have := bC.size; omega)).trans ((bC.block (w1.heap.size + 1) (by omega)).trans rB4)
      have h3 := (hb.block w4.heap.size (Array.getElem?_eq_some_iff.1 rC).1).trans rC
      exact ⟨cell_of_row _ _ 0 _ _ _ h1, cell_of_row _ _ 1 _ _ _ h1, cell_of_row _ _ 2 _ _ _ h1, cell_of_row _ _ 3 _ _ _ h1, cell_of_row _ _ 4 _ _ _ h1, cell_of_row _ _ 5 _ _ _ h1, cell_of_row _ _ 0 _ _ _ h2, cell_of_row _ _ 1 _ _ _ h2, cell_of_row _ _ 2 _ _ _ h2, cell_of_row _ _ 3 _ _ _ h2, cell_of_row _ _ 4 _ _ _ h2, cell_of_row _ _ 5 _ _ _ h2, cell_of_row _ _ 0 _ _ _ h3, cell_of_row _ _ 1 _ _ _ h3, cell_of_row _ _ 2 _ _ _ h3, cell_of_row _ _ 3 _ _ _ h3, cell_of_row _ _ 4 _ _ _ h3, cell_of_row _ _ 5 _ _ _ h3⟩
    have D1 : ∀ {W}, Below U.heap.size U W → Below w1.heap.size w1 W := fun hb => bel_then b1U hb
    have D4 : ∀ {W}, Below U.heap.size U W → Below w4.heap.size w4 W := fun hb => bel_then bC hb
    have bE : Below w.heap.size w U := bel_then hb1 b1U
    have b0 : Below U.heap.size U U.drew := (Below.refl _ _).drew
    obtain ⟨f0, f1, f2, f3, f4, f5, f6, f7, f8, f9, f10, f11, f12, f13, f14, f15, f16, f17⟩ := KEEP.out _ (Below.refl _ _)
    clear rA4 rB4 rC bC b14 b1U b13 hb4 hb3 hcode3 hb1 C1 x0
    cases L
    · refine wp_region_held_drew (S := fun w' => w'.cell? ⟨w1.heap.size, 0, none⟩ = some (.int .i64 k1) ∧ w'.cell? ⟨w1.heap.size, 1, none⟩ = some (.string t1) ∧ w'.cell? ⟨w1.heap.size, 2, none⟩ = some (.int .i64 n1) ∧ w'.cell? ⟨w1.heap.size, 3, none⟩ = some (.slice a1 m1 c1) ∧ w'.cell? ⟨w1.heap.size, 4, none⟩ = some (.int .i64 y1) ∧ w'.cell? ⟨w1.heap.size, 5, none⟩ = some (.slice b1 q1 d1) ∧ w'.cell? ⟨w1.heap.size + 1, 0, none⟩ = some (.int .i64 k2) ∧ w'.cell? ⟨w1.heap.size + 1, 1, none⟩ = some (.string t2) ∧ w'.cell? ⟨w1.heap.size + 1, 2, none⟩ = some (.int .i64 n2) ∧ w'.cell? ⟨w1.heap.size + 1, 3, none⟩ = some (.slice a2 m2 c2) ∧ w'.cell? ⟨w1.heap.size + 1, 4, none⟩ = some (.int .i64 y2) ∧ w'.cell? ⟨w1.heap.size + 1, 5, none⟩ = some (.slice b2 q2 d2) ∧ w'.cell? ⟨w4.heap.size, 0, none⟩ = some (.int .i64 k3) ∧ w'.cell? ⟨w4.heap.size, 1, none⟩ = some (.string t3) ∧ w'.cell? ⟨w4.heap.size, 2, none⟩ = some (.int .i64 n3) ∧ w'.cell? ⟨w4.heap.size, 3, none⟩ = some (.slice a3 m3 c3) ∧ w'.cell? ⟨w4.heap.size, 4, none⟩ = some (.int .i64 y3) ∧ w'.cell? ⟨w4.heap.size, 5, none⟩ = some (.slice b3 q3 d3)) (by kernel_rfl) (KEEP.out _ b0) (fun hH0 => ?_)
      have hB0 := b0
      refine wpAnyH_take (i := 0) (oi := ⟨_, _, _, _, _, _⟩) (v := ?_) rfl (by kernel_rfl) (by kernel_rfl) (by kernel_rfl) (fun _ _ _ h => h) (Or.inl ⟨by rfl, ?_⟩) (by assumption) ?_
      rotate_left
      · intro w hSw; (try dsimp only at hSw); go_simp; (first | done | with_reducible rfl)
      simp only [Act.put, List.setIfInBounds_toArray, List.set_cons_zero, List.set_cons_succ]
      refine wpAnyH_take (i := 1) (oi := ⟨_, _, _, _, _, _⟩) (v := ?_) rfl (by kernel_rfl) (by kernel_rfl) (by kernel_rfl) (fun _ _ _ h => h) (Or.inl ⟨by rfl, ?_⟩) (by assumption) ?_
      rotate_left
      · intro w hSw; (try dsimp only at hSw); go_simp; (first | done | with_reducible rfl)
      simp only [Act.put, List.setIfInBounds_toArray, List.set_cons_zero, List.set_cons_succ]
      refine wpAnyH_take (i := 2) (oi := ⟨_, _, _, _, _, _⟩) (v := ?_) rfl (by kernel_rfl) (by kernel_rfl) (by kernel_rfl) (fun _ _ _ h => h) (Or.inl ⟨by rfl, ?_⟩) (by assumption) ?_
      rotate_left
      · intro w hSw; (try dsimp only at hSw); go_simp; (first | done | with_reducible rfl)
      simp only [Act.put, List.setIfInBounds_toArray, List.set_cons_zero, List.set_cons_succ]
      refine wpAnyH_ready (rs := [3]) (by kernel_rfl) (by simp) ?_
      refine AllReadyH.cons (o := ⟨_, _, _, _, _, _⟩) rfl (fun K hK => ?_) AllReadyH.nil
      go_simp
      go_at_call 10
      with_reducible refine (C4.out _ (D1 hB0)).mono ?_
      rintro e w5 ⟨rfl, hb⟩
      have hB1 := bel_then hB0 hb
      go_wp2_with fail
      refine hK.out _ _ (KEEP.out _ hB1) (fun hH1 => ?_)
      clear hK K hH0 hb
      refine wpAnyH_take (i := 4) (oi := ⟨_, _, _, _, _, _⟩) (v := ?_) rfl (by kernel_rfl) (by kernel_rfl) (by kernel_rfl) (fun _ _ _ h => h) (Or.inl ⟨by rfl, ?_⟩) (by assumption) ?_
      rotate_left
      · intro w hSw; (try dsimp only at hSw); go_simp; (first | done | with_reducible rfl)
      simp only [Act.put, List.setIfInBounds_toArray, List.set_cons_zero, List.set_cons_succ]
      refine wpAnyH_take (i := 5) (oi := ⟨_, _, _, _, _, _⟩) (v := ?_) rfl (by kernel_rfl) (by kernel_rfl) (by kernel_rfl) (fun _ _ _ h => h) (Or.inl ⟨by rfl, ?_⟩) (by assumption) ?_
      rotate_left
      · intro w hSw; (try dsimp only at hSw); go_simp; (first | done | with_reducible rfl)
      simp only [Act.put, List.setIfInBounds_toArray, List.set_cons_zero, List.set_cons_succ]
      refine wpAnyH_take (i := 6) (oi := ⟨_, _, _, _, _, _⟩) (v := ?_) rfl (by kernel_rfl) (by kernel_rfl) (by kernel_rfl) (fun _ _ _ h => h) (Or.inl ⟨by rfl, ?_⟩) (by assumption) ?_
      rotate_left
      · intro w hSw; (try dsimp only at hSw); go_simp; (first | done | with_reducible rfl)
      simp only [Act.put, List.setIfInBounds_toArray, List.set_cons_zero, List.set_cons_succ]
      refine wpAnyH_take (i := 7) (oi := ⟨_, _, _, _, _, _⟩) (v := ?_) rfl (by kernel_rfl) (by kernel_rfl) (by kernel_rfl) (fun _ _ _ h => h) (Or.inl ⟨by rfl, ?_⟩) (by assumption) ?_
      rotate_left
      · intro w hSw; (try dsimp only at hSw); go_simp; (first | done | with_reducible rfl)
      simp only [Act.put, List.setIfInBounds_toArray, List.set_cons_zero, List.set_cons_succ]
      refine wpAnyH_take (i := 8) (oi := ⟨_, _, _, _, _, _⟩) (v := ?_) rfl (by kernel_rfl) (by kernel_rfl) (by kernel_rfl) (fun _ _ _ h => h) (Or.inl ⟨by rfl, ?_⟩) (by assumption) ?_
      rotate_left
      · intro w hSw; (try dsimp only at hSw); go_simp; (first | done | with_reducible rfl)
      simp only [Act.put, List.setIfInBounds_toArray, List.set_cons_zero, List.set_cons_succ]
      refine wpAnyH_ready (rs := [9]) (by kernel_rfl) (by simp) ?_
      refine AllReadyH.cons (o := ⟨_, _, _, _, _, _⟩) rfl (fun K hK => ?_) AllReadyH.nil
      go_simp
      go_at_call 8
      with_reducible refine (C2.out _ (D1 hB1)).mono ?_
      rintro e w6 ⟨rfl, hb⟩
      have hB2 := bel_then hB1 hb
      go_wp2_with fail
      refine hK.out _ _ (KEEP.out _ hB2) (fun hH2 => ?_)
      clear hK K hH1 hb
      refine wpAnyH_take (i := 10) (oi := ⟨_, _, _, _, _, _⟩) (v := ?_) rfl (by kernel_rfl) (by kernel_rfl) (by kernel_rfl) (fun _ _ _ h => h) (Or.inl ⟨by rfl, ?_⟩) (by assumption) ?_
      rotate_left
      · intro w hSw; (try dsimp only at hSw); go_simp; (first | done | with_reducible rfl)
      simp only [Act.put, List.setIfInBounds_toArray, List.set_cons_zero, List.set_cons_succ]
      refine wpAnyH_take (i := 11) (oi := ⟨_, _, _, _, _, _⟩) (v := ?_) rfl (by kernel_rfl) (by kernel_rfl) (by kernel_rfl) (fun _ _ _ h => h) (Or.inl ⟨by rfl, ?_⟩) (by assumption) ?_
      rotate_left
      · intro w hSw; (try dsimp only at hSw); go_simp; (first | done | with_reducible rfl)
      simp only [Act.put, List.setIfInBounds_toArray, List.set_cons_zero, List.set_cons_succ]
      refine wpAnyH_take (i := 12) (oi := ⟨_, _, _, _, _, _⟩) (v := ?_) rfl (by kernel_rfl) (by kernel_rfl) (by kernel_rfl) (fun _ _ _ h => h) (Or.inl ⟨by rfl, ?_⟩) (by assumption) ?_
      rotate_left
      · intro w hSw; (try dsimp only at hSw); go_simp; (first | done | with_reducible rfl)
      simp only [Act.put, List.setIfInBounds_toArray, List.set_cons_zero, List.set_cons_succ]
      refine wpAnyH_take (i := 13) (oi := ⟨_, _, _, _, _, _⟩) (v := ?_) rfl (by kernel_rfl) (by kernel_rfl) (by kernel_rfl) (fun _ _ _ h => h) (Or.inl ⟨by rfl, ?_⟩) (by assumption) ?_
      rotate_left
      · intro w hSw; (try dsimp only at hSw); go_simp; (first | done | with_reducible rfl)
      simp only [Act.put, List.setIfInBounds_toArray, List.set_cons_zero, List.set_cons_succ]
      refine wpAnyH_take (i := 14) (oi := ⟨_, _, _, _, _, _⟩) (v := ?_) rfl (by kernel_rfl) (by kernel_rfl) (by kernel_rfl) (fun _ _ _ h => h) (Or.inl ⟨by rfl, ?_⟩) (by assumption) ?_
      rotate_left
      · intro w hSw; (try dsimp only at hSw); go_simp; (first | done | with_reducible rfl)
      simp only [Act.put, List.setIfInBounds_toArray, List.set_cons_zero, List.set_cons_succ]
      refine wpAnyH_ready (rs := [15]) (by kernel_rfl) (by simp) ?_
      refine AllReadyH.cons (o := ⟨_, _, _, _, _, _⟩) rfl (fun K hK => ?_) AllReadyH.nil
      go_simp
      go_at_call 8
      with_reducible refine (C3.out _ (D1 hB2)).mono ?_
      rintro e w7 ⟨rfl, hb⟩
      have hB3 := bel_then hB2 hb
      go_wp2_with fail
      refine hK.out _ _ (KEEP.out _ hB3) (fun hH3 => ?_)
      clear hK K hH2 hb
      refine wpAnyH_take (i := 16) (oi := ⟨_, _, _, _, _, _⟩) (v := ?_) rfl (by kernel_rfl) (by kernel_rfl) (by kernel_rfl) (fun _ _ _ h => h) (Or.inl ⟨by rfl, ?_⟩) (by assumption) ?_
      rotate_left
      · intro w hSw; (try dsimp only at hSw); go_simp; (first | done | with_reducible rfl)
      simp only [Act.put, List.setIfInBounds_toArray, List.set_cons_zero, List.set_cons_succ]
      refine wpAnyH_take (i := 17) (oi := ⟨_, _, _, _, _, _⟩) (v := ?_) rfl (by kernel_rfl) (by kernel_rfl) (by kernel_rfl) (fun _ _ _ h => h) (Or.inl ⟨by rfl, ?_⟩) (by assumption) ?_
      rotate_left
      · intro w hSw; (try dsimp only at hSw); go_simp; (first | done | with_reducible rfl)
      simp only [Act.put, List.setIfInBounds_toArray, List.set_cons_zero, List.set_cons_succ]
      refine wpAnyH_take (i := 18) (oi := ⟨_, _, _, _, _, _⟩) (v := ?_) rfl (by kernel_rfl) (by kernel_rfl) (by kernel_rfl) (fun _ _ _ h => h) (Or.inl ⟨by rfl, ?_⟩) (by assumption) ?_
      rotate_left
      · intro w hSw; (try dsimp only at hSw); go_simp; (first | done | with_reducible rfl)
      simp only [Act.put, List.setIfInBounds_toArray, List.set_cons_zero, List.set_cons_succ]
      refine wpAnyH_take (i := 19) (oi := ⟨_, _, _, _, _, _⟩) (v := ?_) rfl (by kernel_rfl) (by kernel_rfl) (by kernel_rfl) (fun _ _ _ h => h) (Or.inl ⟨by rfl, ?_⟩) (by assumption) ?_
      rotate_left
      · intro w hSw; (try dsimp only at hSw); go_simp; (first | done | with_reducible rfl)
      simp only [Act.put, List.setIfInBounds_toArray, List.set_cons_zero, List.set_cons_succ]
      refine wpAnyH_take (i := 20) (oi := ⟨_, _, _, _, _, _⟩) (v := ?_) rfl (by kernel_rfl) (by kernel_rfl) (by kernel_rfl) (fun _ _ _ h => h) (Or.inl ⟨by rfl, ?_⟩) (by assumption) ?_
      rotate_left
      · intro w hSw; (try dsimp only at hSw); go_simp; (first | done | with_reducible rfl)
      simp only [Act.put, List.setIfInBounds_toArray, List.set_cons_zero, List.set_cons_succ]
      refine wpAnyH_take (i := 21) (oi := ⟨_, _, _, _, _, _⟩) (v := undef) rfl (by kernel_rfl) (by kernel_rfl) (by kernel_rfl) (fun _ _ _ h => h) (Or.inr ⟨by rfl, rfl⟩) (by assumption) ?_
      simp only [Act.put, List.setIfInBounds_toArray, List.set_cons_zero, List.set_cons_succ]
      refine wpAnyH_take (i := 22) (oi := ⟨_, _, _, _, _, _⟩) (v := undef) rfl (by kernel_rfl) (by kernel_rfl) (by kernel_rfl) (fun _ _ _ h => h) (Or.inr ⟨by rfl, rfl⟩) (by assumption) ?_
      simp only [Act.put, List.setIfInBounds_toArray, List.set_cons_zero, List.set_cons_succ]
      refine wpAnyH_take (i := 23) (oi := ⟨_, _, _, _, _, _⟩) (v := undef) rfl (by kernel_rfl) (by kernel_rfl) (by kernel_rfl) (fun _ _ _ h => h) (Or.inr ⟨by rfl, rfl⟩) (by assumption) ?_
      simp only [Act.put, List.setIfInBounds_toArray, List.set_cons_zero, List.set_cons_succ]
      refine wpAnyH_take (i := 24) (oi := ⟨_, _, _, _, _, _⟩) (v := undef) rfl (by kernel_rfl) (by kernel_rfl) (by kernel_rfl) (fun _ _ _ h => h) (Or.inr ⟨by rfl, rfl⟩) (by assumption) ?_
      simp only [Act.put, List.setIfInBounds_toArray, List.set_cons_zero, List.set_cons_succ]
      refine wpAnyH_take (i := 25) (oi := ⟨_, _, _, _, _, _⟩) (v := undef) rfl (by kernel_rfl) (by kernel_rfl) (by kernel_rfl) (fun _ _ _ h => h) (Or.inr ⟨by rfl, rfl⟩) (by assumption) ?_
      simp only [Act.put, List.setIfInBounds_toArray, List.set_cons_zero, List.set_cons_succ]
      refine wpAnyH_take (i := 26) (oi := ⟨_, _, _, _, _, _⟩) (v := ?_) rfl (by kernel_rfl) (by kernel_rfl) (by kernel_rfl) (fun _ _ _ h => h) (Or.inl ⟨by rfl, ?_⟩) (by assumption) ?_
      rotate_left
      · intro w hSw; (try dsimp only at hSw); go_simp; (first | done | with_reducible rfl)
      simp only [Act.put, List.setIfInBounds_toArray, List.set_cons_zero, List.set_cons_succ]
      refine wpAnyH_take (i := 27) (oi := ⟨_, _, _, _, _, _⟩) (v := ?_) rfl (by kernel_rfl) (by kernel_rfl) (by kernel_rfl) (fun _ _ _ h => h) (Or.inl ⟨by rfl, ?_⟩) (by assumption) ?_
      rotate_left
      · intro w hSw; (try dsimp only at hSw); go_simp; (first | done | with_reducible rfl)
      simp only [Act.put, List.setIfInBounds_toArray, List.set_cons_zero, List.set_cons_succ]
      refine wpAnyH_take (i := 28) (oi := ⟨_, _, _, _, _, _⟩) (v := ?_) rfl (by kernel_rfl) (by kernel_rfl) (by kernel_rfl) (fun _ _ _ h => h) (Or.inl ⟨by rfl, ?_⟩) (by assumption) ?_
      rotate_left
      · intro w hSw; (try dsimp only at hSw); go_simp; (first | done | with_reducible rfl)
      simp only [Act.put, List.setIfInBounds_toArray, List.set_cons_zero, List.set_cons_succ]
      refine wpAnyH_take (i := 29) (oi := ⟨_, _, _, _, _, _⟩) (v := ?_) rfl (by kernel_rfl) (by kernel_rfl) (by kernel_rfl) (fun _ _ _ h => h) (Or.inl ⟨by rfl, ?_⟩) (by assumption) ?_
      rotate_left
      · intro w hSw; (try dsimp only at hSw); go_simp; (first | done | with_reducible rfl)
      simp only [Act.put, List.setIfInBounds_toArray, List.set_cons_zero, List.set_cons_succ]
      refine wpAnyH_ready (rs := [30]) (by kernel_rfl) (by simp) ?_
      refine AllReadyH.cons (o := ⟨_, _, _, _, _, _⟩) rfl (fun K hK => ?_) AllReadyH.nil
      go_simp
      go_at_call 11
      with_reducible refine (C7.out _ (D4 hB3)).mono ?_
      rintro e w8 ⟨rfl, hb⟩
      have hB4 := bel_then hB3 hb
      go_wp2_with fail
      refine hK.out _ _ (KEEP.out _ hB4) (fun hH4 => ?_)
      clear hK K hH3 hb
      refine wpAnyH_take (i := 31) (oi := ⟨_, _, _, _, _, _⟩) (v := ?_) rfl (by kernel_rfl) (by kernel_rfl) (by kernel_rfl) (fun _ _ _ h => h) (Or.inl ⟨by rfl, ?_⟩) (by assumption) ?_
      rotate_left
      · intro w hSw; (try dsimp only at hSw); go_simp; (first | done | with_reducible rfl)
      simp only [Act.put, List.setIfInBounds_toArray, List.set_cons_zero, List.set_cons_succ]
      refine wpAnyH_take (i := 32) (oi := ⟨_, _, _, _, _, _⟩) (v := ?_) rfl (by kernel_rfl) (by kernel_rfl) (by kernel_rfl) (fun _ _ _ h => h) (Or.inl ⟨by rfl, ?_⟩) (by assumption) ?_
      rotate_left
      · intro w hSw; (try dsimp only at hSw); go_simp; (first | done | with_reducible rfl)
      simp only [Act.put, List.setIfInBounds_toArray, List.set_cons_zero, List.set_cons_succ]
      refine wpAnyH_take (i := 33) (oi := ⟨_, _, _, _, _, _⟩) (v := ?_) rfl (by kernel_rfl) (by kernel_rfl) (by kernel_rfl) (fun _ _ _ h => h) (Or.inl ⟨by rfl, ?_⟩) (by assumption) ?_
      rotate_left
      · intro w hSw; (try dsimp only at hSw); go_simp; (first | done | with_reducible rfl)
      simp only [Act.put, List.setIfInBounds_toArray, List.set_cons_zero, List.set_cons_succ]
      refine wpAnyH_take (i := 34) (oi := ⟨_, _, _, _, _, _⟩) (v := ?_) rfl (by kernel_rfl) (by kernel_rfl) (by kernel_rfl) (fun _ _ _ h => h) (Or.inl ⟨by rfl, ?_⟩) (by assumption) ?_
      rotate_left
      · intro w hSw; (try dsimp only at hSw); go_simp; (first | done | with_reducible rfl)
      simp only [Act.put, List.setIfInBounds_toArray, List.set_cons_zero, List.set_cons_succ]
      refine wpAnyH_take (i := 36) (oi := ⟨_, _, _, _, _, _⟩) (v := ?_) rfl (by kernel_rfl) (by kernel_rfl) (by kernel_rfl) (fun _ _ _ h => h) (Or.inl ⟨by rfl, ?_⟩) (by assumption) ?_
      rotate_left
      · intro w hSw; (try dsimp only at hSw); go_simp; (first | done | with_reducible rfl)
      simp only [Act.put, List.setIfInBounds_toArray, List.set_cons_zero, List.set_cons_succ]
      refine wpAnyH_ready (rs := [35]) (by kernel_rfl) (by simp) ?_
      refine AllReadyH.cons (o := ⟨_, _, _, _, _, _⟩) rfl (fun K hK => ?_) AllReadyH.nil
      go_simp
      go_at_call 11
      with_reducible refine (C7.out _ (D4 hB4)).mono ?_
      rintro e w9 ⟨rfl, hb⟩
      have hB5 := bel_then hB4 hb
      go_wp2_with fail
      refine hK.out _ _ (KEEP.out _ hB5) (fun hH5 => ?_)
      clear hK K hH4 hb
      refine wpAnyH_ready (rs := [37]) (by kernel_rfl) (by simp) ?_
      refine AllReadyH.cons (o := ⟨_, _, _, _, _, _⟩) rfl (fun K hK => ?_) AllReadyH.nil
      go_simp
      go_at_call 12
      with_reducible refine (C8.out _ (D4 hB5)).mono ?_
      rintro e w10 ⟨rfl, hb⟩
      have hB6 := bel_then hB5 hb
      go_wp2_with fail
      refine hK.out _ _ (KEEP.out _ hB6) (fun hH6 => ?_)
      clear hK K hH5 hb
      refine wpAnyH_take (i := 38) (oi := ⟨_, _, _, _, _, _⟩) (v := ?_) rfl (by kernel_rfl) (by kernel_rfl) (by kernel_rfl) (fun _ _ _ h => h) (Or.inl ⟨by rfl, ?_⟩) (by assumption) ?_
      rotate_left
      · intro w hSw; (try dsimp only at hSw); go_simp; (first | done | with_reducible rfl)
      simp only [Act.put, List.setIfInBounds_toArray, List.set_cons_zero, List.set_cons_succ]
      refine wpAnyH_take (i := 39) (oi := ⟨_, _, _, _, _, _⟩) (v := ?_) rfl (by kernel_rfl) (by kernel_rfl) (by kernel_rfl) (fun _ _ _ h => h) (Or.inl ⟨by rfl, ?_⟩) (by assumption) ?_
      rotate_left
      · intro w hSw; (try dsimp only at hSw); go_simp; (first | done | with_reducible rfl)
      simp only [Act.put, List.setIfInBounds_toArray, List.set_cons_zero, List.set_cons_succ]
      refine wpAnyH_take (i := 40) (oi := ⟨_, _, _, _, _, _⟩) (v := ?_) rfl (by kernel_rfl) (by kernel_rfl) (by kernel_rfl) (fun _ _ _ h => h) (Or.inl ⟨by rfl, ?_⟩) (by assumption) ?_
      rotate_left
      · intro w hSw; (try dsimp only at hSw); go_simp; (first | done | with_reducible rfl)
      simp only [Act.put, List.setIfInBounds_toArray, List.set_cons_zero, List.set_cons_succ]
      refine wpAnyH_done (by kernel_rfl) ?_ _
      go_wp2_with fail
      go_ret
      exact ⟨rfl, bel_then bE hB6⟩
    · have hzz := HZ.out rfl
      subst hzz
      go_region_held3 (fun w' => w'.cell? ⟨w1.heap.size, 0, none⟩ = some (.int .i64 k1) ∧ w'.cell? ⟨w1.heap.size, 1, none⟩ = some (.string t1) ∧ w'.cell? ⟨w1.heap.size, 2, none⟩ = some (.int .i64 n1) ∧ w'.cell? ⟨w1.heap.size, 3, none⟩ = some (.slice a1 m1 c1) ∧ w'.cell? ⟨w1.heap.size, 4, none⟩ = some (.int .i64 y1) ∧ w'.cell? ⟨w1.heap.size, 5, none⟩ = some (.slice b1 q1 d1) ∧ w'.cell? ⟨w1.heap.size + 1, 0, none⟩ = some (.int .i64 k2) ∧ w'.cell? ⟨w1.heap.size + 1, 1, none⟩ = some (.string t2) ∧ w'.cell? ⟨w1.heap.size + 1, 2, none⟩ = some (.int .i64 n2) ∧ w'.cell? ⟨w1.heap.size + 1, 3, none⟩ = some (.slice a2 m2 c2) ∧ w'.cell? ⟨w1.heap.size + 1, 4, none⟩ = some (.int .i64 y2) ∧ w'.cell? ⟨w1.heap.size + 1, 5, none⟩ = some (.slice b2 q2 d2) ∧ w'.cell? ⟨w4.heap.size, 0, none⟩ = some (.int .i64 k3) ∧ w'.cell? ⟨w4.heap.size, 1, none⟩ = some (.string t3) ∧ w'.cell? ⟨w4.heap.size, 2, none⟩ = some (.int .i64 n3) ∧ w'.cell? ⟨w4.heap.size, 3, none⟩ = some (.slice a3 m3 c3) ∧ w'.cell? ⟨w4.heap.size, 4, none⟩ = some (.int .i64 y3) ∧ w'.cell? ⟨w4.heap.size, 5, none⟩ = some (.slice b3 q3 d3)) (with_reducible exact KEEP.out _ (by with_reducible assumption)) (first
        | (go_simp; go_at_call 10; with_reducible refine (C4.out _ (D1 (by with_reducible assumption))).mono ?_; rintro e wk ⟨rfl, hb⟩; have hB := bel_then (U := U) (by with_reducible assumption) hb; obtain ⟨s0, s1, s2, s3, s4, s5, s6, s7, s8, s9, s10, s11, s12, s13, s14, s15, s16, s17⟩ := KEEP.out _ hB)
        | (go_simp; go_at_call 8; with_reducible refine (C2.out _ (D1 (by with_reducible assumption))).mono ?_; rintro e wk ⟨rfl, hb⟩; have hB := bel_then (U := U) (by with_reducible assumption) hb; obtain ⟨s0, s1, s2, s3, s4, s5, s6, s7, s8, s9, s10, s11, s12, s13, s14, s15, s16, s17⟩ := KEEP.out _ hB)
        | (go_simp; go_at_call 8; with_reducible refine (C3.out _ (D1 (by with_reducible assumption))).mono ?_; rintro e wk ⟨rfl, hb⟩; have hB := bel_then (U := U) (by with_reducible assumption) hb; obtain ⟨s0, s1, s2, s3, s4, s5, s6, s7, s8, s9, s10, s11, s12, s13, s14, s15, s16, s17⟩ := KEEP.out _ hB)
        | (go_simp; go_at_call 11; with_reducible refine (C5.out _ (D1 (by with_reducible assumption))).mono ?_; rintro e wk ⟨rfl, hb⟩; have hB := bel_then (U := U) (by with_reducible assumption) hb; obtain ⟨s0, s1, s2, s3, s4, s5, s6, s7, s8, s9, s10, s11, s12, s13, s14, s15, s16, s17⟩ := KEEP.out _ hB)
        | (go_simp; go_at_call 11; with_reducible refine (C6.out _ (D1 (by with_reducible assumption))).mono ?_; rintro e wk ⟨rfl, hb⟩; have hB := bel_then (U := U) (by with_reducible assumption) hb; obtain ⟨s0, s1, s2, s3, s4, s5, s6, s7, s8, s9, s10, s11, s12, s13, s14, s15, s16, s17⟩ := KEEP.out _ hB)
        | (go_simp; go_at_call 11; with_reducible refine (C7.out _ (D4 (by with_reducible assumption))).mono ?_; rintro e wk ⟨rfl, hb⟩; have hB := bel_then (U := U) (by with_reducible assumption) hb; obtain ⟨s0, s1, s2, s3, s4, s5, s6, s7, s8, s9, s10, s11, s12, s13, s14, s15, s16, s17⟩ := KEEP.out _ hB)
        | (go_simp; go_at_call 12; with_reducible refine (C8.out _ (D4 (by with_reducible assumption))).mono ?_; rintro e wk ⟨rfl, hb⟩; have hB := bel_then (U := U) (by with_reducible assumption) hb; obtain ⟨s0, s1, s2, s3, s4, s5, s6, s7, s8, s9, s10, s11, s12, s13, s14, s15, s16, s17⟩ := KEEP.out _ hB))
      all_goals
        go_wp2_with fail
        go_ret
        exact ⟨rfl, bel_then bE (by with_reducible assumption)⟩
end Go.Proofs.Ytlmmomffanakiaa
