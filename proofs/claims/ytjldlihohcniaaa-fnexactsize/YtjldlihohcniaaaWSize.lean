/- The walk of FnExactSize: it returns true. -/
import Derived.Test.YtjldlihohcniaaaTreeC
import Derived.Test.YtjldlihohcniaaaTreeE
import Derived.Test.YtjldlihohcniaaaTreeZ
namespace Go.Proofs.Ytjldlihohcniaaa
open Go.RowKit

set_option maxRecDepth 100000 in
set_option maxHeartbeats 1600000 in
theorem exact_size (t : Nd) (lo hi : Nat) (v : List Value) (w : World) (hN : NAt w lo hi t v) (hh : hi ≤ w.heap.size) :
    Calls Try.prog 4 #[.agg v.toArray] w fun e w' => e = .returned (.bool true) ∧ Below w.heap.size w w' := by
  have hsz : ∀ W', Below w.heap.size w W' → _ := fun W' hW => sz_any t lo hi v 1048576 W' (hN.below hW hh) (Nat.le_trans hh hW.size) (by decide) (by decide)
  have hto : ∀ W', Below w.heap.size w W' → wt t ≤ 1048576 → _ := fun W' hW h1 => to_any t lo hi v W' (hN.below hW hh) (Nat.le_trans hh hW.size) h1
  obtain ⟨k, tx, n, ms, a', ca', y, b', cb', kk, rfl⟩ := nd_cells hN
  have h0 := bel_alloc w (Obj.cells #[Value.int IntKind.i64 k, Value.string tx, Value.int IntKind.i64 n, Value.slice a' ms ca', Value.int IntKind.i64 y, Value.slice b' kk cb'] 35)
  have hs0 : w.heap.size ≤ (w.alloc (Obj.cells #[Value.int IntKind.i64 k, Value.string tx, Value.int IntKind.i64 n, Value.slice a' ms ca', Value.int IntKind.i64 y, Value.slice b' kk cb'] 35)).heap.size := h0.size
  go_enter Try.func4, Try.ntmps4
  go_wp2_with fail
  refine (hsz _ h0).mono ?_
  rintro e w1 ⟨⟨r, rfl, hr⟩, hb1⟩
  by_cases hneg : r < 0
  · clear hsz hto
    go_wp2_with fail
    go_ret
    exact ⟨rfl, h0.trans (hb1.mono hs0)⟩
  · have h1 : wt t ≤ 1048576 := by omega
    have c0 := st_cell hb1 0
    have c1 := st_cell hb1 1
    have c2 := st_cell hb1 2
    have c3 := st_cell hb1 3
    have c4 := st_cell hb1 4
    have c5 := st_cell hb1 5
    simp only [List.getElem?_toArray, List.getElem?_cons_zero, List.getElem?_cons_succ] at c0 c1 c2 c3 c4 c5
    go_wp2_with fail
    refine (hto _ (h0.trans (hb1.mono hs0)) h1).mono ?_
    rintro e w2 ⟨⟨v2, rfl, hN2⟩, hb2⟩
    have hb2' := hb1.trans (hb2.mono hb1.size)
    go_wp2_with fail
    refine (size_spec t _ _ _ _ hN2 (Nat.le_refl _) h1).mono ?_
    rintro e w3 ⟨rfl, hb3⟩
    have hb3' := hb2'.trans (hb3.mono hb2'.size)
    clear c0 c1 c2 c3 c4 c5
    have c0 := st_cell hb3' 0
    have c1 := st_cell hb3' 1
    have c2 := st_cell hb3' 2
    have c3 := st_cell hb3' 3
    have c4 := st_cell hb3' 4
    have c5 := st_cell hb3' 5
    simp only [List.getElem?_toArray, List.getElem?_cons_zero, List.getElem?_cons_succ] at c0 c1 c2 c3 c4 c5
    go_wp2_with fail
    refine (hto _ (h0.trans (hb3'.mono hs0)) h1).mono ?_
    rintro e w4 ⟨⟨v4, rfl, hN4⟩, hb4⟩
    have hb4' := hb3'.trans (hb4.mono hb3'.size)
    have hN4' := hN4
    obtain ⟨k4, tx4, n4, ms4, a4, ca4, y4, b4, cb4, kk4, rfl⟩ := nd_cells hN4
    clear c0 c1 c2 c3 c4 c5
    have c0 := st_cell hb4' 0
    have c1 := st_cell hb4' 1
    have c2 := st_cell hb4' 2
    have c3 := st_cell hb4' 3
    have c4 := st_cell hb4' 4
    have c5 := st_cell hb4' 5
    simp only [List.getElem?_toArray, List.getElem?_cons_zero, List.getElem?_cons_succ] at c0 c1 c2 c3 c4 c5
    go_wp2_with fail
    have h4x := bel_alloc w4 (Obj.cells #[Value.int IntKind.i64 k4, Value.string tx4, Value.int IntKind.i64 n4, Value.slice a4 ms4 ca4, Value.int IntKind.i64 y4, Value.slice b4 kk4 cb4] 27)
    refine (size_impl t _ _ _ _ (hN4'.below h4x (Nat.le_refl _)) h4x.size h1).mono ?_
    rintro e w5 ⟨rfl, hb5⟩
    have hb5x := h4x.trans (hb5.mono h4x.size)
    have hb5' := hb4'.trans (hb5x.mono hb4'.size)
    clear c0 c1 c2 c3 c4 c5
    have c0 := st_cell hb5' 0
    have c1 := st_cell hb5' 1
    have c2 := st_cell hb5' 2
    have c3 := st_cell hb5' 3
    have c4 := st_cell hb5' 4
    have c5 := st_cell hb5' 5
    simp only [List.getElem?_toArray, List.getElem?_cons_zero, List.getElem?_cons_succ] at c0 c1 c2 c3 c4 c5
    have d0 := st_cell hb5 0
    have d1 := st_cell hb5 1
    have d2 := st_cell hb5 2
    have d3 := st_cell hb5 3
    have d4 := st_cell hb5 4
    have d5 := st_cell hb5 5
    simp only [List.getElem?_toArray, List.getElem?_cons_zero, List.getElem?_cons_succ] at d0 d1 d2 d3 d4 d5
    have kx : w.heap.size < w5.heap.size := by have := hb5'.size; rw [size_alloc] at this; omega
    have ky : w4.heap.size < w5.heap.size := by have := hb5.size; rw [size_alloc] at this; omega
    have hB5 : Below w.heap.size w w5.drew := (h0.trans (hb5'.mono hs0)).drew
    have hN5 : NAt w5.drew _ _ t _ := hN4'.below hb5x.drew (Nat.le_refl _)
    have hlt5 : w4.heap.size ≤ w5.heap.size := hb5x.size
    go_wp2_with fail
    go_region_held (fun w' => w'.cell? ⟨w.heap.size, 0, none⟩ = some (.int .i64 k) ∧ w'.cell? ⟨w.heap.size, 1, none⟩ = some (.string tx) ∧ w'.cell? ⟨w.heap.size, 2, none⟩ = some (.int .i64 n) ∧ w'.cell? ⟨w.heap.size, 3, none⟩ = some (.slice a' ms ca') ∧ w'.cell? ⟨w.heap.size, 4, none⟩ = some (.int .i64 y) ∧ w'.cell? ⟨w.heap.size, 5, none⟩ = some (.slice b' kk cb') ∧ w'.cell? ⟨w4.heap.size, 0, none⟩ = some (.int .i64 k4) ∧ w'.cell? ⟨w4.heap.size, 1, none⟩ = some (.string tx4) ∧ w'.cell? ⟨w4.heap.size, 2, none⟩ = some (.int .i64 n4) ∧ w'.cell? ⟨w4.heap.size, 3, none⟩ = some (.slice a4 ms4 ca4) ∧ w'.cell? ⟨w4.heap.size, 4, none⟩ = some (.int .i64 y4) ∧ w'.cell? ⟨w4.heap.size, 5, none⟩ = some (.slice b4 kk4 cb4)) (go_keep) (first | (go_at_call 14; refine (hto _ hB5 h1).mono ?_; rintro e w6 ⟨⟨v6, rfl, hN6⟩, hb6⟩; have qc0 := (hb6.cell (p := ⟨w.heap.size, 0, none⟩) kx).trans c0; have qd0 := (hb6.cell (p := ⟨w4.heap.size, 0, none⟩) ky).trans d0; have qc1 := (hb6.cell (p := ⟨w.heap.size, 1, none⟩) kx).trans c1; have qd1 := (hb6.cell (p := ⟨w4.heap.size, 1, none⟩) ky).trans d1; have qc2 := (hb6.cell (p := ⟨w.heap.size, 2, none⟩) kx).trans c2; have qd2 := (hb6.cell (p := ⟨w4.heap.size, 2, none⟩) ky).trans d2; have qc3 := (hb6.cell (p := ⟨w.heap.size, 3, none⟩) kx).trans c3; have qd3 := (hb6.cell (p := ⟨w4.heap.size, 3, none⟩) ky).trans d3; have qc4 := (hb6.cell (p := ⟨w.heap.size, 4, none⟩) kx).trans c4; have qd4 := (hb6.cell (p := ⟨w4.heap.size, 4, none⟩) ky).trans d4; have qc5 := (hb6.cell (p := ⟨w.heap.size, 5, none⟩) kx).trans c5; have qd5 := (hb6.cell (p := ⟨w4.heap.size, 5, none⟩) ky).trans d5) | (go_at_call 15; refine (eq_same t _ _ _ _ _ _ _ (hN5.below hb6 hlt5) hN6 (Nat.le_trans hlt5 hb6.size) (Nat.le_refl _) h1).mono ?_; rintro e w7 ⟨rfl, hb7⟩; have pc0 := (hb7.cell (p := ⟨w.heap.size, 0, none⟩) (Nat.lt_of_lt_of_le kx hb6.size)).trans qc0; have pd0 := (hb7.cell (p := ⟨w4.heap.size, 0, none⟩) (Nat.lt_of_lt_of_le ky hb6.size)).trans qd0; have pc1 := (hb7.cell (p := ⟨w.heap.size, 1, none⟩) (Nat.lt_of_lt_of_le kx hb6.size)).trans qc1; have pd1 := (hb7.cell (p := ⟨w4.heap.size, 1, none⟩) (Nat.lt_of_lt_of_le ky hb6.size)).trans qd1; have pc2 := (hb7.cell (p := ⟨w.heap.size, 2, none⟩) (Nat.lt_of_lt_of_le kx hb6.size)).trans qc2; have pd2 := (hb7.cell (p := ⟨w4.heap.size, 2, none⟩) (Nat.lt_of_lt_of_le ky hb6.size)).trans qd2; have pc3 := (hb7.cell (p := ⟨w.heap.size, 3, none⟩) (Nat.lt_of_lt_of_le kx hb6.size)).trans qc3; have pd3 := (hb7.cell (p := ⟨w4.heap.size, 3, none⟩) (Nat.lt_of_lt_of_le ky hb6.size)).trans qd3; have pc4 := (hb7.cell (p := ⟨w.heap.size, 4, none⟩) (Nat.lt_of_lt_of_le kx hb6.size)).trans qc4; have pd4 := (hb7.cell (p := ⟨w4.heap.size, 4, none⟩) (Nat.lt_of_lt_of_le ky hb6.size)).trans qd4; have pc5 := (hb7.cell (p := ⟨w.heap.size, 5, none⟩) (Nat.lt_of_lt_of_le kx hb6.size)).trans qc5; have pd5 := (hb7.cell (p := ⟨w4.heap.size, 5, none⟩) (Nat.lt_of_lt_of_le ky hb6.size)).trans qd5))
    go_wp2_with fail
    go_ret
    exact ⟨rfl, hB5.trans ((hb6.trans (hb7.mono hb6.size)).mono (Nat.le_of_lt kx))⟩
end Go.Proofs.Ytjldlihohcniaaa
