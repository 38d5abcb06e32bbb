/- The walk of FnExactSameVm: it returns true. -/
import Derived.Test.YtgibejgemokljaaSamS
import Derived.Test.YtgibejgemokljaaSamE
import Derived.Test.YtgibejgemokljaaOwV
import Derived.Test.YtgibejgemokljaaVmE
import Derived.Test.YtgibejgemokljaaVmS
import Derived.Deep.RegionHeld3
import Derived.Deep.Cut
namespace Go.Proofs.Ytgibejgemokljaa
open Go.RowKit

theorem rowsB2 (w : World) (A B : Obj) : ((w.alloc A).alloc B).heap[w.heap.size]? = some A ∧ ((w.alloc A).alloc B).heap[w.heap.size + 1]? = some B ∧ ((w.alloc A).alloc B).heap.size = w.heap.size + 2 ∧ Below w.heap.size w ((w.alloc A).alloc B) := by
  have h0 : (w.alloc A).heap[w.heap.size]? = some A := heap_alloc_new _ _
  have h1 : ((w.alloc A).alloc B).heap[(w.alloc A).heap.size]? = some B := heap_alloc_new _ _
  have z : (w.alloc A).heap.size = w.heap.size + 1 := by simp
  refine ⟨((bel_alloc (w.alloc A) B).block w.heap.size (by omega)).trans h0, by rw [z] at h1; exact h1, by simp, (bel_alloc w A).trans ((bel_alloc _ B).mono (by omega))⟩
/-- In the whole of a world. -/
theorem at0 {α : Type} {k : Nat} {D : World → (Nat → Prop) → α → List Value → Prop} {C : World → Nat → Nat → α → List Value → Prop} (hL : Lies D C) {w : World} {l h : Nat} {xs : List α} {a : Option Addr} (hh : h ≤ w.heap.size) (hd : RowD k D w (In l h) xs a) : RowAt k C w 0 w.heap.size xs a :=
  hd.lies hL fun _ hb => ⟨Nat.zero_le _, Nat.lt_of_lt_of_le hb.2 hh⟩
theorem st0 {α : Type} {D : World → (Nat → Prop) → α → List Value → Prop} {C : World → Nat → Nat → α → List Value → Prop} (hL : Lies D C) {w : World} {l h : Nat} {x : α} {cs : List Value} (hh : h ≤ w.heap.size) (hd : D w (In l h) x cs) : C w 0 w.heap.size x cs :=
  hL _ _ _ _ _ _ (fun _ hb => ⟨Nat.zero_le _, Nat.lt_of_lt_of_le hb.2 hh⟩) hd
theorem at0_b {α : Type} {k : Nat} {C : World → Nat → Nat → α → List Value → Prop} (hK : Keeps C) {w w' : World} {xs : List α} {a : Option Addr} (h : RowAt k C w 0 w.heap.size xs a) (hb : Below w.heap.size w w') : RowAt k C w' 0 w'.heap.size xs a :=
  (h.below hK hb (Nat.le_refl _)).wide hK (Nat.le_refl _) hb.size
theorem st0_b {α : Type} {C : World → Nat → Nat → α → List Value → Prop} (hK : Keeps C) {w w' : World} {x : α} {cs : List Value} (h : C w 0 w.heap.size x cs) (hb : Below w.heap.size w w') : C w' 0 w'.heap.size x cs :=
  hK _ _ _ _ _ _ _ _ (Nat.le_refl _) hb.size (fun _ _ hp => hb.cell hp) h
theorem bel_stepd {W0 W W' : World} (h : Below W0.heap.size W0 W) (hb : Below W.heap.size W W') : Below W0.heap.size W0 W' := h.trans (hb.mono h.size)
set_option maxRecDepth 100000 in
set_option maxHeartbeats 3200000 in
theorem exact_samevm (x0 : VmD) (cs0 : List Value) (x1 : VmD) (cs1 : List Value) (w : World) (hC0 : VmC w 0 w.heap.size x0 cs0) (hC1 : VmC w 0 w.heap.size x1 cs1) :
    Calls Try.prog 3 #[.agg cs0.toArray, .agg cs1.toArray] w fun e w' => e = .returned (.bool true) ∧ Below w.heap.size w w' := by
  obtain ⟨V0, hV⟩ : ∃ V0 : Bool, V0 = true ↔ x0 = x1 := by
    by_cases h : x0 = x1
    · exact ⟨true, fun _ => h, fun _ => rfl⟩
    · exact ⟨false, fun h' => absurd h' (by decide), fun h' => absurd h' h⟩
  have hC0' := hC0
  obtain ⟨m0_ok, m0_a_heap_tables, m0_c_heap_tables, m0_a_heap_cells, m0_c_heap_cells, m0_a_funs, m0_c_funs, m0_a_frames, m0_c_frames, m0_a_out, m0_c_out, rfl, m0_l_heap_tables, m0_r_heap_tables, m0_l_heap_cells, m0_r_heap_cells, m0_l_funs, m0_r_funs, m0_l_frames, m0_r_frames, m0_l_out, m0_r_out⟩ := hC0'
  clear m0_r_heap_tables m0_r_heap_cells m0_r_funs m0_r_frames m0_r_out
  have hC1' := hC1
  obtain ⟨m1_ok, m1_a_heap_tables, m1_c_heap_tables, m1_a_heap_cells, m1_c_heap_cells, m1_a_funs, m1_c_funs, m1_a_frames, m1_c_frames, m1_a_out, m1_c_out, rfl, m1_l_heap_tables, m1_r_heap_tables, m1_l_heap_cells, m1_r_heap_cells, m1_l_funs, m1_r_funs, m1_l_frames, m1_r_frames, m1_l_out, m1_r_out⟩ := hC1'
  clear m1_r_heap_tables m1_r_heap_cells m1_r_funs m1_r_frames m1_r_out
  obtain ⟨W0, hW0⟩ : ∃ W0, W0 = ((w.alloc (Obj.cells #[.slice m0_a_heap_tables x0.heap.tables.length m0_c_heap_tables, .slice m0_a_heap_cells x0.heap.cells.length m0_c_heap_cells, .slice m0_a_funs x0.funs.length m0_c_funs, .slice m0_a_frames x0.frames.length m0_c_frames, .slice m0_a_out x0.out.length m0_c_out, .int .i64 x0.steps, .int .i64 x0.kind, .int .i64 x0.value.k, .int .i64 x0.value.n, .string x0.value.s] 32)).alloc (Obj.cells #[.slice m1_a_heap_tables x1.heap.tables.length m1_c_heap_tables, .slice m1_a_heap_cells x1.heap.cells.length m1_c_heap_cells, .slice m1_a_funs x1.funs.length m1_c_funs, .slice m1_a_frames x1.frames.length m1_c_frames, .slice m1_a_out x1.out.length m1_c_out, .int .i64 x1.steps, .int .i64 x1.kind, .int .i64 x1.value.k, .int .i64 x1.value.n, .string x1.value.s] 32)) := ⟨_, rfl⟩
  obtain ⟨rA0, rA1, hs0, B0⟩ := rowsB2 w (Obj.cells #[.slice m0_a_heap_tables x0.heap.tables.length m0_c_heap_tables, .slice m0_a_heap_cells x0.heap.cells.length m0_c_heap_cells, .slice m0_a_funs x0.funs.length m0_c_funs, .slice m0_a_frames x0.frames.length m0_c_frames, .slice m0_a_out x0.out.length m0_c_out, .int .i64 x0.steps, .int .i64 x0.kind, .int .i64 x0.value.k, .int .i64 x0.value.n, .string x0.value.s] 32) (Obj.cells #[.slice m1_a_heap_tables x1.heap.tables.length m1_c_heap_tables, .slice m1_a_heap_cells x1.heap.cells.length m1_c_heap_cells, .slice m1_a_funs x1.funs.length m1_c_funs, .slice m1_a_frames x1.frames.length m1_c_frames, .slice m1_a_out x1.out.length m1_c_out, .int .i64 x1.steps, .int .i64 x1.kind, .int .i64 x1.value.k, .int .i64 x1.value.n, .string x1.value.s] 32)
  rw [← hW0] at rA0 rA1 hs0 B0
  have p0_0 := cell_of_row _ _ 0 _ _ _ rA0
  have p0_1 := cell_of_row _ _ 1 _ _ _ rA0
  have p0_2 := cell_of_row _ _ 2 _ _ _ rA0
  have p0_3 := cell_of_row _ _ 3 _ _ _ rA0
  have p0_4 := cell_of_row _ _ 4 _ _ _ rA0
  have p0_5 := cell_of_row _ _ 5 _ _ _ rA0
  have p0_6 := cell_of_row _ _ 6 _ _ _ rA0
  have p0_7 := cell_of_row _ _ 7 _ _ _ rA0
  have p0_8 := cell_of_row _ _ 8 _ _ _ rA0
  have p0_9 := cell_of_row _ _ 9 _ _ _ rA0
  simp only [List.getElem?_toArray, List.getElem?_cons_zero, List.getElem?_cons_succ] at p0_0 p0_1 p0_2 p0_3 p0_4 p0_5 p0_6 p0_7 p0_8 p0_9
  clear rA0
  have p1_0 := cell_of_row _ _ 0 _ _ _ rA1
  have p1_1 := cell_of_row _ _ 1 _ _ _ rA1
  have p1_2 := cell_of_row _ _ 2 _ _ _ rA1
  have p1_3 := cell_of_row _ _ 3 _ _ _ rA1
  have p1_4 := cell_of_row _ _ 4 _ _ _ rA1
  have p1_5 := cell_of_row _ _ 5 _ _ _ rA1
  have p1_6 := cell_of_row _ _ 6 _ _ _ rA1
  have p1_7 := cell_of_row _ _ 7 _ _ _ rA1
  have p1_8 := cell_of_row _ _ 8 _ _ _ rA1
  have p1_9 := cell_of_row _ _ 9 _ _ _ rA1
  simp only [List.getElem?_toArray, List.getElem?_cons_zero, List.getElem?_cons_succ] at p1_0 p1_1 p1_2 p1_3 p1_4 p1_5 p1_6 p1_7 p1_8 p1_9
  clear rA1
  go_enter Try.func3, Try.ntmps3
  go_wp2_with fail
  rw [← hW0]
  clear hW0
  refine (szVm_any x0 _ 0 w.heap.size 1048576 W0 B0.size (VmC_keeps.below hC0 B0 (Nat.le_refl _)) (by decide) (by decide)).mono ?_
  rintro e w1 ⟨⟨r1, rfl, hr1⟩, hb1⟩
  have B1 := B0.trans (hb1.mono B0.size)
  have hs1 := hb1.size
  have p0_0 := (hb1.cell (p := ⟨w.heap.size, 0, none⟩) (by show w.heap.size < _; omega)).trans p0_0
  have p0_1 := (hb1.cell (p := ⟨w.heap.size, 1, none⟩) (by show w.heap.size < _; omega)).trans p0_1
  have p0_2 := (hb1.cell (p := ⟨w.heap.size, 2, none⟩) (by show w.heap.size < _; omega)).trans p0_2
  have p0_3 := (hb1.cell (p := ⟨w.heap.size, 3, none⟩) (by show w.heap.size < _; omega)).trans p0_3
  have p0_4 := (hb1.cell (p := ⟨w.heap.size, 4, none⟩) (by show w.heap.size < _; omega)).trans p0_4
  have p0_5 := (hb1.cell (p := ⟨w.heap.size, 5, none⟩) (by show w.heap.size < _; omega)).trans p0_5
  have p0_6 := (hb1.cell (p := ⟨w.heap.size, 6, none⟩) (by show w.heap.size < _; omega)).trans p0_6
  have p0_7 := (hb1.cell (p := ⟨w.heap.size, 7, none⟩) (by show w.heap.size < _; omega)).trans p0_7
  have p0_8 := (hb1.cell (p := ⟨w.heap.size, 8, none⟩) (by show w.heap.size < _; omega)).trans p0_8
  have p0_9 := (hb1.cell (p := ⟨w.heap.size, 9, none⟩) (by show w.heap.size < _; omega)).trans p0_9
  have p1_0 := (hb1.cell (p := ⟨w.heap.size + 1, 0, none⟩) (by show w.heap.size + 1 < _; omega)).trans p1_0
  have p1_1 := (hb1.cell (p := ⟨w.heap.size + 1, 1, none⟩) (by show w.heap.size + 1 < _; omega)).trans p1_1
  have p1_2 := (hb1.cell (p := ⟨w.heap.size + 1, 2, none⟩) (by show w.heap.size + 1 < _; omega)).trans p1_2
  have p1_3 := (hb1.cell (p := ⟨w.heap.size + 1, 3, none⟩) (by show w.heap.size + 1 < _; omega)).trans p1_3
  have p1_4 := (hb1.cell (p := ⟨w.heap.size + 1, 4, none⟩) (by show w.heap.size + 1 < _; omega)).trans p1_4
  have p1_5 := (hb1.cell (p := ⟨w.heap.size + 1, 5, none⟩) (by show w.heap.size + 1 < _; omega)).trans p1_5
  have p1_6 := (hb1.cell (p := ⟨w.heap.size + 1, 6, none⟩) (by show w.heap.size + 1 < _; omega)).trans p1_6
  have p1_7 := (hb1.cell (p := ⟨w.heap.size + 1, 7, none⟩) (by show w.heap.size + 1 < _; omega)).trans p1_7
  have p1_8 := (hb1.cell (p := ⟨w.heap.size + 1, 8, none⟩) (by show w.heap.size + 1 < _; omega)).trans p1_8
  have p1_9 := (hb1.cell (p := ⟨w.heap.size + 1, 9, none⟩) (by show w.heap.size + 1 < _; omega)).trans p1_9
  by_cases hneg1 : r1 < 0
  · go_wp2_with fail
    go_ret
    exact ⟨rfl, B1⟩
  · skip
    have hw0 : x0.wt ≤ 1048576 := by rcases hr1 with h | h; exact absurd h (by omega); omega
    go_wp2_with fail
    refine (szVm_any x1 _ 0 w.heap.size r1 w1 B1.size (VmC_keeps.below hC1 B1 (Nat.le_refl _)) (by omega) (by omega)).mono ?_
    rintro e w2 ⟨⟨r2, rfl, hr2⟩, hb2⟩
    have B2 := B1.trans (hb2.mono B1.size)
    have hs2 := hb2.size
    have p0_0 := (hb2.cell (p := ⟨w.heap.size, 0, none⟩) (by show w.heap.size < _; omega)).trans p0_0
    have p0_1 := (hb2.cell (p := ⟨w.heap.size, 1, none⟩) (by show w.heap.size < _; omega)).trans p0_1
    have p0_2 := (hb2.cell (p := ⟨w.heap.size, 2, none⟩) (by show w.heap.size < _; omega)).trans p0_2
    have p0_3 := (hb2.cell (p := ⟨w.heap.size, 3, none⟩) (by show w.heap.size < _; omega)).trans p0_3
    have p0_4 := (hb2.cell (p := ⟨w.heap.size, 4, none⟩) (by show w.heap.size < _; omega)).trans p0_4
    have p0_5 := (hb2.cell (p := ⟨w.heap.size, 5, none⟩) (by show w.heap.size < _; omega)).trans p0_5
    have p0_6 := (hb2.cell (p := ⟨w.heap.size, 6, none⟩) (by show w.heap.size < _; omega)).trans p0_6
    have p0_7 := (hb2.cell (p := ⟨w.heap.size, 7, none⟩) (by show w.heap.size < _; omega)).trans p0_7
    have p0_8 := (hb2.cell (p := ⟨w.heap.size, 8, none⟩) (by show w.heap.size < _; omega)).trans p0_8
    have p0_9 := (hb2.cell (p := ⟨w.heap.size, 9, none⟩) (by show w.heap.size < _; omega)).trans p0_9
    have p1_0 := (hb2.cell (p := ⟨w.heap.size + 1, 0, none⟩) (by show w.heap.size + 1 < _; omega)).trans p1_0
    have p1_1 := (hb2.cell (p := ⟨w.heap.size + 1, 1, none⟩) (by show w.heap.size + 1 < _; omega)).trans p1_1
    have p1_2 := (hb2.cell (p := ⟨w.heap.size + 1, 2, none⟩) (by show w.heap.size + 1 < _; omega)).trans p1_2
    have p1_3 := (hb2.cell (p := ⟨w.heap.size + 1, 3, none⟩) (by show w.heap.size + 1 < _; omega)).trans p1_3
    have p1_4 := (hb2.cell (p := ⟨w.heap.size + 1, 4, none⟩) (by show w.heap.size + 1 < _; omega)).trans p1_4
    have p1_5 := (hb2.cell (p := ⟨w.heap.size + 1, 5, none⟩) (by show w.heap.size + 1 < _; omega)).trans p1_5
    have p1_6 := (hb2.cell (p := ⟨w.heap.size + 1, 6, none⟩) (by show w.heap.size + 1 < _; omega)).trans p1_6
    have p1_7 := (hb2.cell (p := ⟨w.heap.size + 1, 7, none⟩) (by show w.heap.size + 1 < _; omega)).trans p1_7
    have p1_8 := (hb2.cell (p := ⟨w.heap.size + 1, 8, none⟩) (by show w.heap.size + 1 < _; omega)).trans p1_8
    have p1_9 := (hb2.cell (p := ⟨w.heap.size + 1, 9, none⟩) (by show w.heap.size + 1 < _; omega)).trans p1_9
    by_cases hneg2 : r2 < 0
    · go_wp2_with fail
      go_ret
      exact ⟨rfl, B2⟩
    · skip
      have hw1 : x1.wt ≤ 1048576 := by rcases hr2 with h | h; exact absurd h (by omega); omega
      clear hr1 hb1 hr2 hb2 hneg1 B0
      have HTO0 : Hid (∀ W, Below w2.heap.size w2 W → Calls Try.prog 9 #[.agg #[.slice m0_a_heap_tables x0.heap.tables.length m0_c_heap_tables, .slice m0_a_heap_cells x0.heap.cells.length m0_c_heap_cells, .slice m0_a_funs x0.funs.length m0_c_funs, .slice m0_a_frames x0.frames.length m0_c_frames, .slice m0_a_out x0.out.length m0_c_out, .int .i64 x0.steps, .int .i64 x0.kind, .int .i64 x0.value.k, .int .i64 x0.value.n, .string x0.value.s]] W fun e w' => (∃ cs, e = .returned (.agg cs.toArray) ∧ VmC w' 0 w'.heap.size x0 cs) ∧ Below W.heap.size W w') := fun W hW => (owVm_any x0 _ 0 w.heap.size W (Nat.le_trans B2.size hW.size) hw0 (VmC_keeps.below (VmC_keeps.below hC0 B2 (Nat.le_refl _)) hW B2.size)).mono fun e w' ⟨⟨cs, he, hR⟩, hb⟩ => ⟨⟨cs, he, st0 VmOwn_lies (Nat.le_refl _) hR⟩, hb⟩
      have HEQ0 : Hid (∀ W cs cs', VmC W 0 W.heap.size x0 cs → VmC W 0 W.heap.size x0 cs' → Calls Try.prog 11 #[.agg cs.toArray, .agg cs'.toArray] W fun e w' => e = .returned (.bool true) ∧ Below W.heap.size W w') := fun W cs cs' h1 h2 => eqVm_same x0 cs cs' _ _ _ _ W (Nat.le_refl _) (Nat.le_refl _) (by omega) h1 h2
      have HTO1 : Hid (∀ W, Below w2.heap.size w2 W → Calls Try.prog 9 #[.agg #[.slice m1_a_heap_tables x1.heap.tables.length m1_c_heap_tables, .slice m1_a_heap_cells x1.heap.cells.length m1_c_heap_cells, .slice m1_a_funs x1.funs.length m1_c_funs, .slice m1_a_frames x1.frames.length m1_c_frames, .slice m1_a_out x1.out.length m1_c_out, .int .i64 x1.steps, .int .i64 x1.kind, .int .i64 x1.value.k, .int .i64 x1.value.n, .string x1.value.s]] W fun e w' => (∃ cs, e = .returned (.agg cs.toArray) ∧ VmC w' 0 w'.heap.size x1 cs) ∧ Below W.heap.size W w') := fun W hW => (owVm_any x1 _ 0 w.heap.size W (Nat.le_trans B2.size hW.size) hw1 (VmC_keeps.below (VmC_keeps.below hC1 B2 (Nat.le_refl _)) hW B2.size)).mono fun e w' ⟨⟨cs, he, hR⟩, hb⟩ => ⟨⟨cs, he, st0 VmOwn_lies (Nat.le_refl _) hR⟩, hb⟩
      have HEQ1 : Hid (∀ W cs cs', VmC W 0 W.heap.size x1 cs → VmC W 0 W.heap.size x1 cs' → Calls Try.prog 11 #[.agg cs.toArray, .agg cs'.toArray] W fun e w' => e = .returned (.bool true) ∧ Below W.heap.size W w') := fun W cs cs' h1 h2 => eqVm_same x1 cs cs' _ _ _ _ W (Nat.le_refl _) (Nat.le_refl _) (by omega) h1 h2
      have HS : Hid (∀ W d0 d1, VmC W 0 W.heap.size x0 d0 → VmC W 0 W.heap.size x1 d1 → Calls Try.prog 8 #[.agg d0.toArray, .agg d1.toArray] W fun e w' => e = .returned (.bool (V0)) ∧ Below W.heap.size W w') := fun W d0 d1 h0 h1 => same_spec x0 x1 d0 d1 0 W.heap.size 0 W.heap.size V0 hV W (Nat.le_refl _) (Nat.le_refl _) h0 h1
      have HI : Hid (∀ W d0 d1, VmC W 0 W.heap.size x0 d0 → VmC W 0 W.heap.size x1 d1 → Calls Try.prog 10 #[.agg d0.toArray, .agg d1.toArray] W fun e w' => e = .returned (.bool (V0)) ∧ Below W.heap.size W w') := fun W d0 d1 h0 h1 => same_impl x0 x1 d0 d1 0 W.heap.size 0 W.heap.size V0 hV W (Nat.le_refl _) (Nat.le_refl _) h0 h1
      clear hV
      have HBK : Hid (Below w.heap.size w w2) := B2
      have KEEP : Hid (∀ W' : World, Below w2.heap.size w2 W' → (fun w' => Below w2.heap.size w2 w' ∧ w'.cell? ⟨w.heap.size, 0, none⟩ = some (.slice m0_a_heap_tables x0.heap.tables.length m0_c_heap_tables) ∧ w'.cell? ⟨w.heap.size, 1, none⟩ = some (.slice m0_a_heap_cells x0.heap.cells.length m0_c_heap_cells) ∧ w'.cell? ⟨w.heap.size, 2, none⟩ = some (.slice m0_a_funs x0.funs.length m0_c_funs) ∧ w'.cell? ⟨w.heap.size, 3, none⟩ = some (.slice m0_a_frames x0.frames.length m0_c_frames) ∧ w'.cell? ⟨w.heap.size, 4, none⟩ = some (.slice m0_a_out x0.out.length m0_c_out) ∧ w'.cell? ⟨w.heap.size, 5, none⟩ = some (.int .i64 x0.steps) ∧ w'.cell? ⟨w.heap.size, 6, none⟩ = some (.int .i64 x0.kind) ∧ w'.cell? ⟨w.heap.size, 7, none⟩ = some (.int .i64 x0.value.k) ∧ w'.cell? ⟨w.heap.size, 8, none⟩ = some (.int .i64 x0.value.n) ∧ w'.cell? ⟨w.heap.size, 9, none⟩ = some (.string x0.value.s) ∧ w'.cell? ⟨w.heap.size + 1, 0, none⟩ = some (.slice m1_a_heap_tables x1.heap.tables.length m1_c_heap_tables) ∧ w'.cell? ⟨w.heap.size + 1, 1, none⟩ = some (.slice m1_a_heap_cells x1.heap.cells.length m1_c_heap_cells) ∧ w'.cell? ⟨w.heap.size + 1, 2, none⟩ = some (.slice m1_a_funs x1.funs.length m1_c_funs) ∧ w'.cell? ⟨w.heap.size + 1, 3, none⟩ = some (.slice m1_a_frames x1.frames.length m1_c_frames) ∧ w'.cell? ⟨w.heap.size + 1, 4, none⟩ = some (.slice m1_a_out x1.out.length m1_c_out) ∧ w'.cell? ⟨w.heap.size + 1, 5, none⟩ = some (.int .i64 x1.steps) ∧ w'.cell? ⟨w.heap.size + 1, 6, none⟩ = some (.int .i64 x1.kind) ∧ w'.cell? ⟨w.heap.size + 1, 7, none⟩ = some (.int .i64 x1.value.k) ∧ w'.cell? ⟨w.heap.size + 1, 8, none⟩ = some (.int .i64 x1.value.n) ∧ w'.cell? ⟨w.heap.size + 1, 9, none⟩ = some (.string x1.value.s)) W') := fun W' hB => ⟨hB, (hB.cell (p := ⟨w.heap.size, 0, none⟩) (by show w.heap.size < _; omega)).trans p0_0, (hB.cell (p := ⟨w.heap.size, 1, none⟩) (by show w.heap.size < _; omega)).trans p0_1, (hB.cell (p := ⟨w.heap.size, 2, none⟩) (by show w.heap.size < _; omega)).trans p0_2, (hB.cell (p := ⟨w.heap.size, 3, none⟩) (by show w.heap.size < _; omega)).trans p0_3, (hB.cell (p := ⟨w.heap.size, 4, none⟩) (by show w.heap.size < _; omega)).trans p0_4, (hB.cell (p := ⟨w.heap.size, 5, none⟩) (by show w.heap.size < _; omega)).trans p0_5, (hB.cell (p := ⟨w.heap.size, 6, none⟩) (by show w.heap.size < _; omega)).trans p0_6, (hB.cell (p := ⟨w.heap.size, 7, none⟩) (by show w.heap.size < _; omega)).trans p0_7, (hB.cell (p := ⟨w.heap.size, 8, none⟩) (by show w.heap.size < _; omega)).trans p0_8, (hB.cell (p := ⟨w.heap.size, 9, none⟩) (by show w.heap.size < _; omega)).trans p0_9, (hB.cell (p := ⟨w.heap.size + 1, 0, none⟩) (by show w.heap.size + 1 < _; omega)).trans p1_0, (hB.cell (p := ⟨w.heap.size + 1, 1, none⟩) (by show w.heap.size + 1 < _; omega)).trans p1_1, (hB.cell (p := ⟨w.heap.size + 1, 2, none⟩) (by show w.heap.size + 1 < _; omega)).trans p1_2, (hB.cell (p := ⟨w.heap.size + 1, 3, none⟩) (by show w.heap.size + 1 < _; omega)).trans p1_3, (hB.cell (p := ⟨w.heap.size + 1, 4, none⟩) (by show w.heap.size + 1 < _; omega)).trans p1_4, (hB.cell (p := ⟨w.heap.size + 1, 5, none⟩) (by show w.heap.size + 1 < _; omega)).trans p1_5, (hB.cell (p := ⟨w.heap.size + 1, 6, none⟩) (by show w.heap.size + 1 < _; omega)).trans p1_6, (hB.cell (p := ⟨w.heap.size + 1, 7, none⟩) (by show w.heap.size + 1 < _; omega)).trans p1_7, (hB.cell (p := ⟨w.heap.size + 1, 8, none⟩) (by show w.heap.size + 1 < _; omega)).trans p1_8, (hB.cell (p := ⟨w.heap.size + 1, 9, none⟩) (by show w.heap.size + 1 < _; omega)).trans p1_9⟩
      have hq0 : Below w2.heap.size w2 w2.drew := (Below.refl _ _).drew
      clear p0_0 p0_1 p0_2 p0_3 p0_4 p0_5 p0_6 p0_7 p0_8 p0_9 p1_0 p1_1 p1_2 p1_3 p1_4 p1_5 p1_6 p1_7 p1_8 p1_9
      clear hC0 m0_ok m0_l_heap_tables m0_l_heap_cells m0_l_funs m0_l_frames m0_l_out hC1 m1_ok m1_l_heap_tables m1_l_heap_cells m1_l_funs m1_l_frames m1_l_out B2
      go_wp2_with fail
      go_cut [6] from 10 (fun u wx => u = .bool V0 ∧ Below w2.heap.size w2 wx)
      case first =>
        go_region_held3 (fun w' => Below w2.heap.size w2 w' ∧ w'.cell? ⟨w.heap.size, 0, none⟩ = some (.slice m0_a_heap_tables x0.heap.tables.length m0_c_heap_tables) ∧ w'.cell? ⟨w.heap.size, 1, none⟩ = some (.slice m0_a_heap_cells x0.heap.cells.length m0_c_heap_cells) ∧ w'.cell? ⟨w.heap.size, 2, none⟩ = some (.slice m0_a_funs x0.funs.length m0_c_funs) ∧ w'.cell? ⟨w.heap.size, 3, none⟩ = some (.slice m0_a_frames x0.frames.length m0_c_frames) ∧ w'.cell? ⟨w.heap.size, 4, none⟩ = some (.slice m0_a_out x0.out.length m0_c_out) ∧ w'.cell? ⟨w.heap.size, 5, none⟩ = some (.int .i64 x0.steps) ∧ w'.cell? ⟨w.heap.size, 6, none⟩ = some (.int .i64 x0.kind) ∧ w'.cell? ⟨w.heap.size, 7, none⟩ = some (.int .i64 x0.value.k) ∧ w'.cell? ⟨w.heap.size, 8, none⟩ = some (.int .i64 x0.value.n) ∧ w'.cell? ⟨w.heap.size, 9, none⟩ = some (.string x0.value.s) ∧ w'.cell? ⟨w.heap.size + 1, 0, none⟩ = some (.slice m1_a_heap_tables x1.heap.tables.length m1_c_heap_tables) ∧ w'.cell? ⟨w.heap.size + 1, 1, none⟩ = some (.slice m1_a_heap_cells x1.heap.cells.length m1_c_heap_cells) ∧ w'.cell? ⟨w.heap.size + 1, 2, none⟩ = some (.slice m1_a_funs x1.funs.length m1_c_funs) ∧ w'.cell? ⟨w.heap.size + 1, 3, none⟩ = some (.slice m1_a_frames x1.frames.length m1_c_frames) ∧ w'.cell? ⟨w.heap.size + 1, 4, none⟩ = some (.slice m1_a_out x1.out.length m1_c_out) ∧ w'.cell? ⟨w.heap.size + 1, 5, none⟩ = some (.int .i64 x1.steps) ∧ w'.cell? ⟨w.heap.size + 1, 6, none⟩ = some (.int .i64 x1.kind) ∧ w'.cell? ⟨w.heap.size + 1, 7, none⟩ = some (.int .i64 x1.value.k) ∧ w'.cell? ⟨w.heap.size + 1, 8, none⟩ = some (.int .i64 x1.value.n) ∧ w'.cell? ⟨w.heap.size + 1, 9, none⟩ = some (.string x1.value.s)) (first | (with_reducible assumption) | exact KEEP.out _ (by with_reducible assumption)) (first | (go_at_call 9; (first | with_reducible refine (HTO0.out _ (bel_of (by with_reducible assumption))).mono ?_ | with_reducible refine (HTO0.out _ (by with_reducible assumption)).mono ?_); rintro e w' ⟨⟨t0, rfl, hT0⟩, hb'⟩; (first | (have hq' := bel_step (by with_reducible assumption) hb') | (have hq' := bel_stepd (by with_reducible assumption) hb')); (first | (have hT1 := st0_b VmC_keeps hT1 hb') | skip)) | (go_at_call 9; (first | with_reducible refine (HTO1.out _ (bel_of (by with_reducible assumption))).mono ?_ | with_reducible refine (HTO1.out _ (by with_reducible assumption)).mono ?_); rintro e w' ⟨⟨t1, rfl, hT1⟩, hb'⟩; (first | (have hq' := bel_step (by with_reducible assumption) hb') | (have hq' := bel_stepd (by with_reducible assumption) hb')); (first | (have hT0 := st0_b VmC_keeps hT0 hb') | skip)) | (go_at_call 8; refine (HS.out _ _ _ hT0 hT1).mono ?_; rintro e w' ⟨rfl, hb'⟩; have hq' := bel_step (by with_reducible assumption) hb'))
        all_goals
          go_wp2_with fail
          go_meet
          case rel => exact ⟨rfl, by first | (with_reducible assumption) | exact bel_of (by with_reducible assumption)⟩
      case rest =>
        rename World => wA
        obtain ⟨rfl, hqA⟩ := hcut
        have zA := hqA.size
        have p0_0 := (KEEP.out _ hqA).2.1
        have p0_1 := (KEEP.out _ hqA).2.2.1
        have p0_2 := (KEEP.out _ hqA).2.2.2.1
        have p0_3 := (KEEP.out _ hqA).2.2.2.2.1
        have p0_4 := (KEEP.out _ hqA).2.2.2.2.2.1
        have p0_5 := (KEEP.out _ hqA).2.2.2.2.2.2.1
        have p0_6 := (KEEP.out _ hqA).2.2.2.2.2.2.2.1
        have p0_7 := (KEEP.out _ hqA).2.2.2.2.2.2.2.2.1
        have p0_8 := (KEEP.out _ hqA).2.2.2.2.2.2.2.2.2.1
        have p0_9 := (KEEP.out _ hqA).2.2.2.2.2.2.2.2.2.2.1
        have p1_0 := (KEEP.out _ hqA).2.2.2.2.2.2.2.2.2.2.2.1
        have p1_1 := (KEEP.out _ hqA).2.2.2.2.2.2.2.2.2.2.2.2.1
        have p1_2 := (KEEP.out _ hqA).2.2.2.2.2.2.2.2.2.2.2.2.2.1
        have p1_3 := (KEEP.out _ hqA).2.2.2.2.2.2.2.2.2.2.2.2.2.2.1
        have p1_4 := (KEEP.out _ hqA).2.2.2.2.2.2.2.2.2.2.2.2.2.2.2.1
        have p1_5 := (KEEP.out _ hqA).2.2.2.2.2.2.2.2.2.2.2.2.2.2.2.2.1
        have p1_6 := (KEEP.out _ hqA).2.2.2.2.2.2.2.2.2.2.2.2.2.2.2.2.2.1
        have p1_7 := (KEEP.out _ hqA).2.2.2.2.2.2.2.2.2.2.2.2.2.2.2.2.2.2.1
        have p1_8 := (KEEP.out _ hqA).2.2.2.2.2.2.2.2.2.2.2.2.2.2.2.2.2.2.2.1
        have p1_9 := (KEEP.out _ hqA).2.2.2.2.2.2.2.2.2.2.2.2.2.2.2.2.2.2.2.2
        go_wp2_with fail
        refine (HTO0.out _ hqA).mono ?_
        rintro e wB0 ⟨⟨ys0, rfl, hX0⟩, hbB0⟩
        have hqB0 : Below w2.heap.size w2 wB0 := hqA.trans (hbB0.mono hqA.size)
        clear p0_0 p0_1 p0_2 p0_3 p0_4 p0_5 p0_6 p0_7 p0_8 p0_9 p1_0 p1_1 p1_2 p1_3 p1_4 p1_5 p1_6 p1_7 p1_8 p1_9
        have zB0 := hbB0.size
        have hY0 := hX0
        obtain ⟨v0_ok, v0_a_heap_tables, v0_c_heap_tables, v0_a_heap_cells, v0_c_heap_cells, v0_a_funs, v0_c_funs, v0_a_frames, v0_c_frames, v0_a_out, v0_c_out, rfl, v0_l_heap_tables, v0_r_heap_tables, v0_l_heap_cells, v0_r_heap_cells, v0_l_funs, v0_r_funs, v0_l_frames, v0_r_frames, v0_l_out, v0_r_out⟩ := hY0
        clear v0_r_heap_tables v0_l_heap_tables v0_r_heap_cells v0_l_heap_cells v0_r_funs v0_l_funs v0_r_frames v0_l_frames v0_r_out v0_l_out v0_ok
        have p0_0 := (KEEP.out _ hqB0).2.1
        have p0_1 := (KEEP.out _ hqB0).2.2.1
        have p0_2 := (KEEP.out _ hqB0).2.2.2.1
        have p0_3 := (KEEP.out _ hqB0).2.2.2.2.1
        have p0_4 := (KEEP.out _ hqB0).2.2.2.2.2.1
        have p0_5 := (KEEP.out _ hqB0).2.2.2.2.2.2.1
        have p0_6 := (KEEP.out _ hqB0).2.2.2.2.2.2.2.1
        have p0_7 := (KEEP.out _ hqB0).2.2.2.2.2.2.2.2.1
        have p0_8 := (KEEP.out _ hqB0).2.2.2.2.2.2.2.2.2.1
        have p0_9 := (KEEP.out _ hqB0).2.2.2.2.2.2.2.2.2.2.1
        have p1_0 := (KEEP.out _ hqB0).2.2.2.2.2.2.2.2.2.2.2.1
        have p1_1 := (KEEP.out _ hqB0).2.2.2.2.2.2.2.2.2.2.2.2.1
        have p1_2 := (KEEP.out _ hqB0).2.2.2.2.2.2.2.2.2.2.2.2.2.1
        have p1_3 := (KEEP.out _ hqB0).2.2.2.2.2.2.2.2.2.2.2.2.2.2.1
        have p1_4 := (KEEP.out _ hqB0).2.2.2.2.2.2.2.2.2.2.2.2.2.2.2.1
        have p1_5 := (KEEP.out _ hqB0).2.2.2.2.2.2.2.2.2.2.2.2.2.2.2.2.1
        have p1_6 := (KEEP.out _ hqB0).2.2.2.2.2.2.2.2.2.2.2.2.2.2.2.2.2.1
        have p1_7 := (KEEP.out _ hqB0).2.2.2.2.2.2.2.2.2.2.2.2.2.2.2.2.2.2.1
        have p1_8 := (KEEP.out _ hqB0).2.2.2.2.2.2.2.2.2.2.2.2.2.2.2.2.2.2.2.1
        have p1_9 := (KEEP.out _ hqB0).2.2.2.2.2.2.2.2.2.2.2.2.2.2.2.2.2.2.2.2
        clear p0_0 p0_1 p0_2 p0_3 p0_4 p0_5 p0_6 p0_7 p0_8 p0_9
        have al_p1_0 : ∀ O : Obj, (wB0.alloc O).cell? ⟨w.heap.size + 1, 0, none⟩ = some (.slice m1_a_heap_tables x1.heap.tables.length m1_c_heap_tables) := fun O => ((bel_alloc wB0 O).cell (p := ⟨w.heap.size + 1, 0, none⟩) (by show w.heap.size + 1 < _; omega)).trans p1_0
        have al_p1_1 : ∀ O : Obj, (wB0.alloc O).cell? ⟨w.heap.size + 1, 1, none⟩ = some (.slice m1_a_heap_cells x1.heap.cells.length m1_c_heap_cells) := fun O => ((bel_alloc wB0 O).cell (p := ⟨w.heap.size + 1, 1, none⟩) (by show w.heap.size + 1 < _; omega)).trans p1_1
        have al_p1_2 : ∀ O : Obj, (wB0.alloc O).cell? ⟨w.heap.size + 1, 2, none⟩ = some (.slice m1_a_funs x1.funs.length m1_c_funs) := fun O => ((bel_alloc wB0 O).cell (p := ⟨w.heap.size + 1, 2, none⟩) (by show w.heap.size + 1 < _; omega)).trans p1_2
        have al_p1_3 : ∀ O : Obj, (wB0.alloc O).cell? ⟨w.heap.size + 1, 3, none⟩ = some (.slice m1_a_frames x1.frames.length m1_c_frames) := fun O => ((bel_alloc wB0 O).cell (p := ⟨w.heap.size + 1, 3, none⟩) (by show w.heap.size + 1 < _; omega)).trans p1_3
        have al_p1_4 : ∀ O : Obj, (wB0.alloc O).cell? ⟨w.heap.size + 1, 4, none⟩ = some (.slice m1_a_out x1.out.length m1_c_out) := fun O => ((bel_alloc wB0 O).cell (p := ⟨w.heap.size + 1, 4, none⟩) (by show w.heap.size + 1 < _; omega)).trans p1_4
        have al_p1_5 : ∀ O : Obj, (wB0.alloc O).cell? ⟨w.heap.size + 1, 5, none⟩ = some (.int .i64 x1.steps) := fun O => ((bel_alloc wB0 O).cell (p := ⟨w.heap.size + 1, 5, none⟩) (by show w.heap.size + 1 < _; omega)).trans p1_5
        have al_p1_6 : ∀ O : Obj, (wB0.alloc O).cell? ⟨w.heap.size + 1, 6, none⟩ = some (.int .i64 x1.kind) := fun O => ((bel_alloc wB0 O).cell (p := ⟨w.heap.size + 1, 6, none⟩) (by show w.heap.size + 1 < _; omega)).trans p1_6
        have al_p1_7 : ∀ O : Obj, (wB0.alloc O).cell? ⟨w.heap.size + 1, 7, none⟩ = some (.int .i64 x1.value.k) := fun O => ((bel_alloc wB0 O).cell (p := ⟨w.heap.size + 1, 7, none⟩) (by show w.heap.size + 1 < _; omega)).trans p1_7
        have al_p1_8 : ∀ O : Obj, (wB0.alloc O).cell? ⟨w.heap.size + 1, 8, none⟩ = some (.int .i64 x1.value.n) := fun O => ((bel_alloc wB0 O).cell (p := ⟨w.heap.size + 1, 8, none⟩) (by show w.heap.size + 1 < _; omega)).trans p1_8
        have al_p1_9 : ∀ O : Obj, (wB0.alloc O).cell? ⟨w.heap.size + 1, 9, none⟩ = some (.string x1.value.s) := fun O => ((bel_alloc wB0 O).cell (p := ⟨w.heap.size + 1, 9, none⟩) (by show w.heap.size + 1 < _; omega)).trans p1_9
        go_wp2_with fail
        clear al_p1_0 al_p1_1 al_p1_2 al_p1_3 al_p1_4 al_p1_5 al_p1_6 al_p1_7 al_p1_8 al_p1_9
        clear p1_0 p1_1 p1_2 p1_3 p1_4 p1_5 p1_6 p1_7 p1_8 p1_9
        obtain ⟨WC0, hWC0⟩ : ∃ W, W = wB0.alloc (Obj.cells #[.slice v0_a_heap_tables x0.heap.tables.length v0_c_heap_tables, .slice v0_a_heap_cells x0.heap.cells.length v0_c_heap_cells, .slice v0_a_funs x0.funs.length v0_c_funs, .slice v0_a_frames x0.frames.length v0_c_frames, .slice v0_a_out x0.out.length v0_c_out, .int .i64 x0.steps, .int .i64 x0.kind, .int .i64 x0.value.k, .int .i64 x0.value.n, .string x0.value.s] 43) := ⟨_, rfl⟩
        rw [← hWC0]
        have hbC0 : Below wB0.heap.size wB0 WC0 := by rw [hWC0]; exact bel_alloc _ _
        have rV0 : WC0.heap[wB0.heap.size]? = some (Obj.cells #[.slice v0_a_heap_tables x0.heap.tables.length v0_c_heap_tables, .slice v0_a_heap_cells x0.heap.cells.length v0_c_heap_cells, .slice v0_a_funs x0.funs.length v0_c_funs, .slice v0_a_frames x0.frames.length v0_c_frames, .slice v0_a_out x0.out.length v0_c_out, .int .i64 x0.steps, .int .i64 x0.kind, .int .i64 x0.value.k, .int .i64 x0.value.n, .string x0.value.s] 43) := by rw [hWC0]; exact heap_alloc_new _ _
        have zC0 : WC0.heap.size = wB0.heap.size + 1 := by rw [hWC0]; simp
        clear hWC0
        have u0_0 := cell_of_row _ _ 0 _ _ _ rV0
        have u0_1 := cell_of_row _ _ 1 _ _ _ rV0
        have u0_2 := cell_of_row _ _ 2 _ _ _ rV0
        have u0_3 := cell_of_row _ _ 3 _ _ _ rV0
        have u0_4 := cell_of_row _ _ 4 _ _ _ rV0
        have u0_5 := cell_of_row _ _ 5 _ _ _ rV0
        have u0_6 := cell_of_row _ _ 6 _ _ _ rV0
        have u0_7 := cell_of_row _ _ 7 _ _ _ rV0
        have u0_8 := cell_of_row _ _ 8 _ _ _ rV0
        have u0_9 := cell_of_row _ _ 9 _ _ _ rV0
        simp only [List.getElem?_toArray, List.getElem?_cons_zero, List.getElem?_cons_succ] at u0_0 u0_1 u0_2 u0_3 u0_4 u0_5 u0_6 u0_7 u0_8 u0_9
        clear rV0
        have hqC0 : Below w2.heap.size w2 WC0 := hqB0.trans (hbC0.mono hqB0.size)
        have hX0 := st0_b VmC_keeps hX0 hbC0
        have p0_0 := (KEEP.out _ hqC0).2.1
        have p0_1 := (KEEP.out _ hqC0).2.2.1
        have p0_2 := (KEEP.out _ hqC0).2.2.2.1
        have p0_3 := (KEEP.out _ hqC0).2.2.2.2.1
        have p0_4 := (KEEP.out _ hqC0).2.2.2.2.2.1
        have p0_5 := (KEEP.out _ hqC0).2.2.2.2.2.2.1
        have p0_6 := (KEEP.out _ hqC0).2.2.2.2.2.2.2.1
        have p0_7 := (KEEP.out _ hqC0).2.2.2.2.2.2.2.2.1
        have p0_8 := (KEEP.out _ hqC0).2.2.2.2.2.2.2.2.2.1
        have p0_9 := (KEEP.out _ hqC0).2.2.2.2.2.2.2.2.2.2.1
        have p1_0 := (KEEP.out _ hqC0).2.2.2.2.2.2.2.2.2.2.2.1
        have p1_1 := (KEEP.out _ hqC0).2.2.2.2.2.2.2.2.2.2.2.2.1
        have p1_2 := (KEEP.out _ hqC0).2.2.2.2.2.2.2.2.2.2.2.2.2.1
        have p1_3 := (KEEP.out _ hqC0).2.2.2.2.2.2.2.2.2.2.2.2.2.2.1
        have p1_4 := (KEEP.out _ hqC0).2.2.2.2.2.2.2.2.2.2.2.2.2.2.2.1
        have p1_5 := (KEEP.out _ hqC0).2.2.2.2.2.2.2.2.2.2.2.2.2.2.2.2.1
        have p1_6 := (KEEP.out _ hqC0).2.2.2.2.2.2.2.2.2.2.2.2.2.2.2.2.2.1
        have p1_7 := (KEEP.out _ hqC0).2.2.2.2.2.2.2.2.2.2.2.2.2.2.2.2.2.2.1
        have p1_8 := (KEEP.out _ hqC0).2.2.2.2.2.2.2.2.2.2.2.2.2.2.2.2.2.2.2.1
        have p1_9 := (KEEP.out _ hqC0).2.2.2.2.2.2.2.2.2.2.2.2.2.2.2.2.2.2.2.2
        go_wp2_with fail
        refine (HTO1.out _ hqC0).mono ?_
        rintro e wB1 ⟨⟨ys1, rfl, hX1⟩, hbB1⟩
        have hqB1 : Below w2.heap.size w2 wB1 := hqC0.trans (hbB1.mono hqC0.size)
        have hX0 := st0_b VmC_keeps hX0 hbB1
        clear p0_0 p0_1 p0_2 p0_3 p0_4 p0_5 p0_6 p0_7 p0_8 p0_9 p1_0 p1_1 p1_2 p1_3 p1_4 p1_5 p1_6 p1_7 p1_8 p1_9
        have u0_0 := (hbB1.cell (p := ⟨wB0.heap.size, 0, none⟩) (by show wB0.heap.size < _; omega)).trans u0_0
        have u0_1 := (hbB1.cell (p := ⟨wB0.heap.size, 1, none⟩) (by show wB0.heap.size < _; omega)).trans u0_1
        have u0_2 := (hbB1.cell (p := ⟨wB0.heap.size, 2, none⟩) (by show wB0.heap.size < _; omega)).trans u0_2
        have u0_3 := (hbB1.cell (p := ⟨wB0.heap.size, 3, none⟩) (by show wB0.heap.size < _; omega)).trans u0_3
        have u0_4 := (hbB1.cell (p := ⟨wB0.heap.size, 4, none⟩) (by show wB0.heap.size < _; omega)).trans u0_4
        have u0_5 := (hbB1.cell (p := ⟨wB0.heap.size, 5, none⟩) (by show wB0.heap.size < _; omega)).trans u0_5
        have u0_6 := (hbB1.cell (p := ⟨wB0.heap.size, 6, none⟩) (by show wB0.heap.size < _; omega)).trans u0_6
        have u0_7 := (hbB1.cell (p := ⟨wB0.heap.size, 7, none⟩) (by show wB0.heap.size < _; omega)).trans u0_7
        have u0_8 := (hbB1.cell (p := ⟨wB0.heap.size, 8, none⟩) (by show wB0.heap.size < _; omega)).trans u0_8
        have u0_9 := (hbB1.cell (p := ⟨wB0.heap.size, 9, none⟩) (by show wB0.heap.size < _; omega)).trans u0_9
        have zB1 := hbB1.size
        have hY1 := hX1
        obtain ⟨v1_ok, v1_a_heap_tables, v1_c_heap_tables, v1_a_heap_cells, v1_c_heap_cells, v1_a_funs, v1_c_funs, v1_a_frames, v1_c_frames, v1_a_out, v1_c_out, rfl, v1_l_heap_tables, v1_r_heap_tables, v1_l_heap_cells, v1_r_heap_cells, v1_l_funs, v1_r_funs, v1_l_frames, v1_r_frames, v1_l_out, v1_r_out⟩ := hY1
        clear v1_r_heap_tables v1_l_heap_tables v1_r_heap_cells v1_l_heap_cells v1_r_funs v1_l_funs v1_r_frames v1_l_frames v1_r_out v1_l_out v1_ok
        have al_u0_0 : ∀ O : Obj, (wB1.alloc O).cell? ⟨wB0.heap.size, 0, none⟩ = some (.slice v0_a_heap_tables x0.heap.tables.length v0_c_heap_tables) := fun O => ((bel_alloc wB1 O).cell (p := ⟨wB0.heap.size, 0, none⟩) (by show wB0.heap.size < _; omega)).trans u0_0
        have al_u0_1 : ∀ O : Obj, (wB1.alloc O).cell? ⟨wB0.heap.size, 1, none⟩ = some (.slice v0_a_heap_cells x0.heap.cells.length v0_c_heap_cells) := fun O => ((bel_alloc wB1 O).cell (p := ⟨wB0.heap.size, 1, none⟩) (by show wB0.heap.size < _; omega)).trans u0_1
        have al_u0_2 : ∀ O : Obj, (wB1.alloc O).cell? ⟨wB0.heap.size, 2, none⟩ = some (.slice v0_a_funs x0.funs.length v0_c_funs) := fun O => ((bel_alloc wB1 O).cell (p := ⟨wB0.heap.size, 2, none⟩) (by show wB0.heap.size < _; omega)).trans u0_2
        have al_u0_3 : ∀ O : Obj, (wB1.alloc O).cell? ⟨wB0.heap.size, 3, none⟩ = some (.slice v0_a_frames x0.frames.length v0_c_frames) := fun O => ((bel_alloc wB1 O).cell (p := ⟨wB0.heap.size, 3, none⟩) (by show wB0.heap.size < _; omega)).trans u0_3
        have al_u0_4 : ∀ O : Obj, (wB1.alloc O).cell? ⟨wB0.heap.size, 4, none⟩ = some (.slice v0_a_out x0.out.length v0_c_out) := fun O => ((bel_alloc wB1 O).cell (p := ⟨wB0.heap.size, 4, none⟩) (by show wB0.heap.size < _; omega)).trans u0_4
        have al_u0_5 : ∀ O : Obj, (wB1.alloc O).cell? ⟨wB0.heap.size, 5, none⟩ = some (.int .i64 x0.steps) := fun O => ((bel_alloc wB1 O).cell (p := ⟨wB0.heap.size, 5, none⟩) (by show wB0.heap.size < _; omega)).trans u0_5
        have al_u0_6 : ∀ O : Obj, (wB1.alloc O).cell? ⟨wB0.heap.size, 6, none⟩ = some (.int .i64 x0.kind) := fun O => ((bel_alloc wB1 O).cell (p := ⟨wB0.heap.size, 6, none⟩) (by show wB0.heap.size < _; omega)).trans u0_6
        have al_u0_7 : ∀ O : Obj, (wB1.alloc O).cell? ⟨wB0.heap.size, 7, none⟩ = some (.int .i64 x0.value.k) := fun O => ((bel_alloc wB1 O).cell (p := ⟨wB0.heap.size, 7, none⟩) (by show wB0.heap.size < _; omega)).trans u0_7
        have al_u0_8 : ∀ O : Obj, (wB1.alloc O).cell? ⟨wB0.heap.size, 8, none⟩ = some (.int .i64 x0.value.n) := fun O => ((bel_alloc wB1 O).cell (p := ⟨wB0.heap.size, 8, none⟩) (by show wB0.heap.size < _; omega)).trans u0_8
        have al_u0_9 : ∀ O : Obj, (wB1.alloc O).cell? ⟨wB0.heap.size, 9, none⟩ = some (.string x0.value.s) := fun O => ((bel_alloc wB1 O).cell (p := ⟨wB0.heap.size, 9, none⟩) (by show wB0.heap.size < _; omega)).trans u0_9
        go_wp2_with fail
        clear al_u0_0 al_u0_1 al_u0_2 al_u0_3 al_u0_4 al_u0_5 al_u0_6 al_u0_7 al_u0_8 al_u0_9
        obtain ⟨WC1, hWC1⟩ : ∃ W, W = wB1.alloc (Obj.cells #[.slice v1_a_heap_tables x1.heap.tables.length v1_c_heap_tables, .slice v1_a_heap_cells x1.heap.cells.length v1_c_heap_cells, .slice v1_a_funs x1.funs.length v1_c_funs, .slice v1_a_frames x1.frames.length v1_c_frames, .slice v1_a_out x1.out.length v1_c_out, .int .i64 x1.steps, .int .i64 x1.kind, .int .i64 x1.value.k, .int .i64 x1.value.n, .string x1.value.s] 43) := ⟨_, rfl⟩
        rw [← hWC1]
        have hbC1 : Below wB1.heap.size wB1 WC1 := by rw [hWC1]; exact bel_alloc _ _
        have rV1 : WC1.heap[wB1.heap.size]? = some (Obj.cells #[.slice v1_a_heap_tables x1.heap.tables.length v1_c_heap_tables, .slice v1_a_heap_cells x1.heap.cells.length v1_c_heap_cells, .slice v1_a_funs x1.funs.length v1_c_funs, .slice v1_a_frames x1.frames.length v1_c_frames, .slice v1_a_out x1.out.length v1_c_out, .int .i64 x1.steps, .int .i64 x1.kind, .int .i64 x1.value.k, .int .i64 x1.value.n, .string x1.value.s] 43) := by rw [hWC1]; exact heap_alloc_new _ _
        have zC1 : WC1.heap.size = wB1.heap.size + 1 := by rw [hWC1]; simp
        clear hWC1
        have u0_0 := (hbC1.cell (p := ⟨wB0.heap.size, 0, none⟩) (by show wB0.heap.size < _; omega)).trans u0_0
        have u0_1 := (hbC1.cell (p := ⟨wB0.heap.size, 1, none⟩) (by show wB0.heap.size < _; omega)).trans u0_1
        have u0_2 := (hbC1.cell (p := ⟨wB0.heap.size, 2, none⟩) (by show wB0.heap.size < _; omega)).trans u0_2
        have u0_3 := (hbC1.cell (p := ⟨wB0.heap.size, 3, none⟩) (by show wB0.heap.size < _; omega)).trans u0_3
        have u0_4 := (hbC1.cell (p := ⟨wB0.heap.size, 4, none⟩) (by show wB0.heap.size < _; omega)).trans u0_4
        have u0_5 := (hbC1.cell (p := ⟨wB0.heap.size, 5, none⟩) (by show wB0.heap.size < _; omega)).trans u0_5
        have u0_6 := (hbC1.cell (p := ⟨wB0.heap.size, 6, none⟩) (by show wB0.heap.size < _; omega)).trans u0_6
        have u0_7 := (hbC1.cell (p := ⟨wB0.heap.size, 7, none⟩) (by show wB0.heap.size < _; omega)).trans u0_7
        have u0_8 := (hbC1.cell (p := ⟨wB0.heap.size, 8, none⟩) (by show wB0.heap.size < _; omega)).trans u0_8
        have u0_9 := (hbC1.cell (p := ⟨wB0.heap.size, 9, none⟩) (by show wB0.heap.size < _; omega)).trans u0_9
        have u1_0 := cell_of_row _ _ 0 _ _ _ rV1
        have u1_1 := cell_of_row _ _ 1 _ _ _ rV1
        have u1_2 := cell_of_row _ _ 2 _ _ _ rV1
        have u1_3 := cell_of_row _ _ 3 _ _ _ rV1
        have u1_4 := cell_of_row _ _ 4 _ _ _ rV1
        have u1_5 := cell_of_row _ _ 5 _ _ _ rV1
        have u1_6 := cell_of_row _ _ 6 _ _ _ rV1
        have u1_7 := cell_of_row _ _ 7 _ _ _ rV1
        have u1_8 := cell_of_row _ _ 8 _ _ _ rV1
        have u1_9 := cell_of_row _ _ 9 _ _ _ rV1
        simp only [List.getElem?_toArray, List.getElem?_cons_zero, List.getElem?_cons_succ] at u1_0 u1_1 u1_2 u1_3 u1_4 u1_5 u1_6 u1_7 u1_8 u1_9
        clear rV1
        have hqC1 : Below w2.heap.size w2 WC1 := hqB1.trans (hbC1.mono hqB1.size)
        have hX0 := st0_b VmC_keeps hX0 hbC1
        have hX1 := st0_b VmC_keeps hX1 hbC1
        go_wp2_with fail
        refine (HI.out _ _ _ hX0 hX1).mono ?_
        rintro e wG ⟨rfl, hbG⟩
        have zG := hbG.size
        have hqG : Below w2.heap.size w2 wG := hqC1.trans (hbG.mono hqC1.size)
        have hX0 := st0_b VmC_keeps hX0 hbG
        have hX1 := st0_b VmC_keeps hX1 hbG
        have u0_0 := (hbG.cell (p := ⟨wB0.heap.size, 0, none⟩) (by show wB0.heap.size < _; omega)).trans u0_0
        have u0_1 := (hbG.cell (p := ⟨wB0.heap.size, 1, none⟩) (by show wB0.heap.size < _; omega)).trans u0_1
        have u0_2 := (hbG.cell (p := ⟨wB0.heap.size, 2, none⟩) (by show wB0.heap.size < _; omega)).trans u0_2
        have u0_3 := (hbG.cell (p := ⟨wB0.heap.size, 3, none⟩) (by show wB0.heap.size < _; omega)).trans u0_3
        have u0_4 := (hbG.cell (p := ⟨wB0.heap.size, 4, none⟩) (by show wB0.heap.size < _; omega)).trans u0_4
        have u0_5 := (hbG.cell (p := ⟨wB0.heap.size, 5, none⟩) (by show wB0.heap.size < _; omega)).trans u0_5
        have u0_6 := (hbG.cell (p := ⟨wB0.heap.size, 6, none⟩) (by show wB0.heap.size < _; omega)).trans u0_6
        have u0_7 := (hbG.cell (p := ⟨wB0.heap.size, 7, none⟩) (by show wB0.heap.size < _; omega)).trans u0_7
        have u0_8 := (hbG.cell (p := ⟨wB0.heap.size, 8, none⟩) (by show wB0.heap.size < _; omega)).trans u0_8
        have u0_9 := (hbG.cell (p := ⟨wB0.heap.size, 9, none⟩) (by show wB0.heap.size < _; omega)).trans u0_9
        have u1_0 := (hbG.cell (p := ⟨wB1.heap.size, 0, none⟩) (by show wB1.heap.size < _; omega)).trans u1_0
        have u1_1 := (hbG.cell (p := ⟨wB1.heap.size, 1, none⟩) (by show wB1.heap.size < _; omega)).trans u1_1
        have u1_2 := (hbG.cell (p := ⟨wB1.heap.size, 2, none⟩) (by show wB1.heap.size < _; omega)).trans u1_2
        have u1_3 := (hbG.cell (p := ⟨wB1.heap.size, 3, none⟩) (by show wB1.heap.size < _; omega)).trans u1_3
        have u1_4 := (hbG.cell (p := ⟨wB1.heap.size, 4, none⟩) (by show wB1.heap.size < _; omega)).trans u1_4
        have u1_5 := (hbG.cell (p := ⟨wB1.heap.size, 5, none⟩) (by show wB1.heap.size < _; omega)).trans u1_5
        have u1_6 := (hbG.cell (p := ⟨wB1.heap.size, 6, none⟩) (by show wB1.heap.size < _; omega)).trans u1_6
        have u1_7 := (hbG.cell (p := ⟨wB1.heap.size, 7, none⟩) (by show wB1.heap.size < _; omega)).trans u1_7
        have u1_8 := (hbG.cell (p := ⟨wB1.heap.size, 8, none⟩) (by show wB1.heap.size < _; omega)).trans u1_8
        have u1_9 := (hbG.cell (p := ⟨wB1.heap.size, 9, none⟩) (by show wB1.heap.size < _; omega)).trans u1_9
        have p0_0 := (KEEP.out _ hqG).2.1
        have p0_1 := (KEEP.out _ hqG).2.2.1
        have p0_2 := (KEEP.out _ hqG).2.2.2.1
        have p0_3 := (KEEP.out _ hqG).2.2.2.2.1
        have p0_4 := (KEEP.out _ hqG).2.2.2.2.2.1
        have p0_5 := (KEEP.out _ hqG).2.2.2.2.2.2.1
        have p0_6 := (KEEP.out _ hqG).2.2.2.2.2.2.2.1
        have p0_7 := (KEEP.out _ hqG).2.2.2.2.2.2.2.2.1
        have p0_8 := (KEEP.out _ hqG).2.2.2.2.2.2.2.2.2.1
        have p0_9 := (KEEP.out _ hqG).2.2.2.2.2.2.2.2.2.2.1
        have p1_0 := (KEEP.out _ hqG).2.2.2.2.2.2.2.2.2.2.2.1
        have p1_1 := (KEEP.out _ hqG).2.2.2.2.2.2.2.2.2.2.2.2.1
        have p1_2 := (KEEP.out _ hqG).2.2.2.2.2.2.2.2.2.2.2.2.2.1
        have p1_3 := (KEEP.out _ hqG).2.2.2.2.2.2.2.2.2.2.2.2.2.2.1
        have p1_4 := (KEEP.out _ hqG).2.2.2.2.2.2.2.2.2.2.2.2.2.2.2.1
        have p1_5 := (KEEP.out _ hqG).2.2.2.2.2.2.2.2.2.2.2.2.2.2.2.2.1
        have p1_6 := (KEEP.out _ hqG).2.2.2.2.2.2.2.2.2.2.2.2.2.2.2.2.2.1
        have p1_7 := (KEEP.out _ hqG).2.2.2.2.2.2.2.2.2.2.2.2.2.2.2.2.2.2.1
        have p1_8 := (KEEP.out _ hqG).2.2.2.2.2.2.2.2.2.2.2.2.2.2.2.2.2.2.2.1
        have p1_9 := (KEEP.out _ hqG).2.2.2.2.2.2.2.2.2.2.2.2.2.2.2.2.2.2.2.2
        clear p1_0 p1_1 p1_2 p1_3 p1_4 p1_5 p1_6 p1_7 p1_8 p1_9
        have Hu1_0 : Hid (wG.cell? ⟨wB1.heap.size, 0, none⟩ = some (.slice v1_a_heap_tables x1.heap.tables.length v1_c_heap_tables)) := u1_0
        have Hu1_1 : Hid (wG.cell? ⟨wB1.heap.size, 1, none⟩ = some (.slice v1_a_heap_cells x1.heap.cells.length v1_c_heap_cells)) := u1_1
        have Hu1_2 : Hid (wG.cell? ⟨wB1.heap.size, 2, none⟩ = some (.slice v1_a_funs x1.funs.length v1_c_funs)) := u1_2
        have Hu1_3 : Hid (wG.cell? ⟨wB1.heap.size, 3, none⟩ = some (.slice v1_a_frames x1.frames.length v1_c_frames)) := u1_3
        have Hu1_4 : Hid (wG.cell? ⟨wB1.heap.size, 4, none⟩ = some (.slice v1_a_out x1.out.length v1_c_out)) := u1_4
        have Hu1_5 : Hid (wG.cell? ⟨wB1.heap.size, 5, none⟩ = some (.int .i64 x1.steps)) := u1_5
        have Hu1_6 : Hid (wG.cell? ⟨wB1.heap.size, 6, none⟩ = some (.int .i64 x1.kind)) := u1_6
        have Hu1_7 : Hid (wG.cell? ⟨wB1.heap.size, 7, none⟩ = some (.int .i64 x1.value.k)) := u1_7
        have Hu1_8 : Hid (wG.cell? ⟨wB1.heap.size, 8, none⟩ = some (.int .i64 x1.value.n)) := u1_8
        have Hu1_9 : Hid (wG.cell? ⟨wB1.heap.size, 9, none⟩ = some (.string x1.value.s)) := u1_9
        clear u1_0 u1_1 u1_2 u1_3 u1_4 u1_5 u1_6 u1_7 u1_8 u1_9
        have sK0 := hqG.size
        have KEEP0 : Hid (∀ W' : World, Below wG.heap.size wG W' → (fun w' => Below wG.heap.size wG w' ∧ w'.cell? ⟨wB0.heap.size, 0, none⟩ = some (.slice v0_a_heap_tables x0.heap.tables.length v0_c_heap_tables) ∧ w'.cell? ⟨wB0.heap.size, 1, none⟩ = some (.slice v0_a_heap_cells x0.heap.cells.length v0_c_heap_cells) ∧ w'.cell? ⟨wB0.heap.size, 2, none⟩ = some (.slice v0_a_funs x0.funs.length v0_c_funs) ∧ w'.cell? ⟨wB0.heap.size, 3, none⟩ = some (.slice v0_a_frames x0.frames.length v0_c_frames) ∧ w'.cell? ⟨wB0.heap.size, 4, none⟩ = some (.slice v0_a_out x0.out.length v0_c_out) ∧ w'.cell? ⟨wB0.heap.size, 5, none⟩ = some (.int .i64 x0.steps) ∧ w'.cell? ⟨wB0.heap.size, 6, none⟩ = some (.int .i64 x0.kind) ∧ w'.cell? ⟨wB0.heap.size, 7, none⟩ = some (.int .i64 x0.value.k) ∧ w'.cell? ⟨wB0.heap.size, 8, none⟩ = some (.int .i64 x0.value.n) ∧ w'.cell? ⟨wB0.heap.size, 9, none⟩ = some (.string x0.value.s) ∧ w'.cell? ⟨w.heap.size, 0, none⟩ = some (.slice m0_a_heap_tables x0.heap.tables.length m0_c_heap_tables) ∧ w'.cell? ⟨w.heap.size, 1, none⟩ = some (.slice m0_a_heap_cells x0.heap.cells.length m0_c_heap_cells) ∧ w'.cell? ⟨w.heap.size, 2, none⟩ = some (.slice m0_a_funs x0.funs.length m0_c_funs) ∧ w'.cell? ⟨w.heap.size, 3, none⟩ = some (.slice m0_a_frames x0.frames.length m0_c_frames) ∧ w'.cell? ⟨w.heap.size, 4, none⟩ = some (.slice m0_a_out x0.out.length m0_c_out) ∧ w'.cell? ⟨w.heap.size, 5, none⟩ = some (.int .i64 x0.steps) ∧ w'.cell? ⟨w.heap.size, 6, none⟩ = some (.int .i64 x0.kind) ∧ w'.cell? ⟨w.heap.size, 7, none⟩ = some (.int .i64 x0.value.k) ∧ w'.cell? ⟨w.heap.size, 8, none⟩ = some (.int .i64 x0.value.n) ∧ w'.cell? ⟨w.heap.size, 9, none⟩ = some (.string x0.value.s)) W') := fun W' hB => ⟨hB, (hB.cell (p := ⟨wB0.heap.size, 0, none⟩) (by show wB0.heap.size < _; omega)).trans u0_0, (hB.cell (p := ⟨wB0.heap.size, 1, none⟩) (by show wB0.heap.size < _; omega)).trans u0_1, (hB.cell (p := ⟨wB0.heap.size, 2, none⟩) (by show wB0.heap.size < _; omega)).trans u0_2, (hB.cell (p := ⟨wB0.heap.size, 3, none⟩) (by show wB0.heap.size < _; omega)).trans u0_3, (hB.cell (p := ⟨wB0.heap.size, 4, none⟩) (by show wB0.heap.size < _; omega)).trans u0_4, (hB.cell (p := ⟨wB0.heap.size, 5, none⟩) (by show wB0.heap.size < _; omega)).trans u0_5, (hB.cell (p := ⟨wB0.heap.size, 6, none⟩) (by show wB0.heap.size < _; omega)).trans u0_6, (hB.cell (p := ⟨wB0.heap.size, 7, none⟩) (by show wB0.heap.size < _; omega)).trans u0_7, (hB.cell (p := ⟨wB0.heap.size, 8, none⟩) (by show wB0.heap.size < _; omega)).trans u0_8, (hB.cell (p := ⟨wB0.heap.size, 9, none⟩) (by show wB0.heap.size < _; omega)).trans u0_9, (hB.cell (p := ⟨w.heap.size, 0, none⟩) (by show w.heap.size < _; omega)).trans p0_0, (hB.cell (p := ⟨w.heap.size, 1, none⟩) (by show w.heap.size < _; omega)).trans p0_1, (hB.cell (p := ⟨w.heap.size, 2, none⟩) (by show w.heap.size < _; omega)).trans p0_2, (hB.cell (p := ⟨w.heap.size, 3, none⟩) (by show w.heap.size < _; omega)).trans p0_3, (hB.cell (p := ⟨w.heap.size, 4, none⟩) (by show w.heap.size < _; omega)).trans p0_4, (hB.cell (p := ⟨w.heap.size, 5, none⟩) (by show w.heap.size < _; omega)).trans p0_5, (hB.cell (p := ⟨w.heap.size, 6, none⟩) (by show w.heap.size < _; omega)).trans p0_6, (hB.cell (p := ⟨w.heap.size, 7, none⟩) (by show w.heap.size < _; omega)).trans p0_7, (hB.cell (p := ⟨w.heap.size, 8, none⟩) (by show w.heap.size < _; omega)).trans p0_8, (hB.cell (p := ⟨w.heap.size, 9, none⟩) (by show w.heap.size < _; omega)).trans p0_9⟩
        have hTO0 : Hid (∀ W, Below wG.heap.size wG W → Calls Try.prog 9 #[.agg #[.slice m0_a_heap_tables x0.heap.tables.length m0_c_heap_tables, .slice m0_a_heap_cells x0.heap.cells.length m0_c_heap_cells, .slice m0_a_funs x0.funs.length m0_c_funs, .slice m0_a_frames x0.frames.length m0_c_frames, .slice m0_a_out x0.out.length m0_c_out, .int .i64 x0.steps, .int .i64 x0.kind, .int .i64 x0.value.k, .int .i64 x0.value.n, .string x0.value.s]] W fun e w' => (∃ cs, e = .returned (.agg cs.toArray) ∧ VmC w' 0 w'.heap.size x0 cs) ∧ Below W.heap.size W w') := fun W hW => HTO0.out W (hqG.trans (hW.mono hqG.size))
        have hEQ0 : Hid (∀ W cs', Below wG.heap.size wG W → VmC W 0 W.heap.size x0 cs' → Calls Try.prog 11 #[.agg #[.slice v0_a_heap_tables x0.heap.tables.length v0_c_heap_tables, .slice v0_a_heap_cells x0.heap.cells.length v0_c_heap_cells, .slice v0_a_funs x0.funs.length v0_c_funs, .slice v0_a_frames x0.frames.length v0_c_frames, .slice v0_a_out x0.out.length v0_c_out, .int .i64 x0.steps, .int .i64 x0.kind, .int .i64 x0.value.k, .int .i64 x0.value.n, .string x0.value.s], .agg cs'.toArray] W fun e w' => e = .returned (.bool true) ∧ Below W.heap.size W w') := fun W cs' hW h2 => HEQ0.out W _ cs' (st0_b VmC_keeps hX0 hW) h2
        have hq00 : Below wG.heap.size wG wG.drew := (Below.refl _ _).drew
        clear u0_0 u0_1 u0_2 u0_3 u0_4 u0_5 u0_6 u0_7 u0_8 u0_9 p0_0 p0_1 p0_2 p0_3 p0_4 p0_5 p0_6 p0_7 p0_8 p0_9
        go_wp2_with fail
        go_cut [39] from 35 (fun u wx => u = .bool false ∧ Below wG.heap.size wG wx)
        case first =>
          go_region_held3 (fun w' => Below wG.heap.size wG w' ∧ w'.cell? ⟨wB0.heap.size, 0, none⟩ = some (.slice v0_a_heap_tables x0.heap.tables.length v0_c_heap_tables) ∧ w'.cell? ⟨wB0.heap.size, 1, none⟩ = some (.slice v0_a_heap_cells x0.heap.cells.length v0_c_heap_cells) ∧ w'.cell? ⟨wB0.heap.size, 2, none⟩ = some (.slice v0_a_funs x0.funs.length v0_c_funs) ∧ w'.cell? ⟨wB0.heap.size, 3, none⟩ = some (.slice v0_a_frames x0.frames.length v0_c_frames) ∧ w'.cell? ⟨wB0.heap.size, 4, none⟩ = some (.slice v0_a_out x0.out.length v0_c_out) ∧ w'.cell? ⟨wB0.heap.size, 5, none⟩ = some (.int .i64 x0.steps) ∧ w'.cell? ⟨wB0.heap.size, 6, none⟩ = some (.int .i64 x0.kind) ∧ w'.cell? ⟨wB0.heap.size, 7, none⟩ = some (.int .i64 x0.value.k) ∧ w'.cell? ⟨wB0.heap.size, 8, none⟩ = some (.int .i64 x0.value.n) ∧ w'.cell? ⟨wB0.heap.size, 9, none⟩ = some (.string x0.value.s) ∧ w'.cell? ⟨w.heap.size, 0, none⟩ = some (.slice m0_a_heap_tables x0.heap.tables.length m0_c_heap_tables) ∧ w'.cell? ⟨w.heap.size, 1, none⟩ = some (.slice m0_a_heap_cells x0.heap.cells.length m0_c_heap_cells) ∧ w'.cell? ⟨w.heap.size, 2, none⟩ = some (.slice m0_a_funs x0.funs.length m0_c_funs) ∧ w'.cell? ⟨w.heap.size, 3, none⟩ = some (.slice m0_a_frames x0.frames.length m0_c_frames) ∧ w'.cell? ⟨w.heap.size, 4, none⟩ = some (.slice m0_a_out x0.out.length m0_c_out) ∧ w'.cell? ⟨w.heap.size, 5, none⟩ = some (.int .i64 x0.steps) ∧ w'.cell? ⟨w.heap.size, 6, none⟩ = some (.int .i64 x0.kind) ∧ w'.cell? ⟨w.heap.size, 7, none⟩ = some (.int .i64 x0.value.k) ∧ w'.cell? ⟨w.heap.size, 8, none⟩ = some (.int .i64 x0.value.n) ∧ w'.cell? ⟨w.heap.size, 9, none⟩ = some (.string x0.value.s)) (first | (with_reducible assumption) | exact KEEP0.out _ (by with_reducible assumption)) (first | (go_at_call 9; (first | with_reducible refine (hTO0.out _ (bel_of (by with_reducible assumption))).mono ?_ | with_reducible refine (hTO0.out _ (by with_reducible assumption)).mono ?_); rintro e w' ⟨⟨t0, rfl, hZ0⟩, hb'⟩; (first | (have hq' := bel_step (by with_reducible assumption) hb') | (have hq' := bel_stepd (by with_reducible assumption) hb'))) | (go_at_call 11; (first | refine (hEQ0.out _ _ (by with_reducible assumption) hZ0).mono ?_ | refine (hEQ0.out _ _ (bel_of (by with_reducible assumption)) hZ0).mono ?_); rintro e w'' ⟨rfl, hb''⟩; (first | (have hq'' := bel_step (by with_reducible assumption) hb'') | (have hq'' := bel_stepd (by with_reducible assumption) hb''))))
          all_goals
            go_wp2_with fail
            go_meet
            case rel => exact ⟨rfl, by first | (with_reducible assumption) | exact bel_of (by with_reducible assumption)⟩
        case rest =>
          rename World => wI0
          obtain ⟨rfl, hbI0⟩ := hcut
          have hqI0 : Below w2.heap.size w2 wI0 := hqG.trans (hbI0.mono hqG.size)
          have zI0 := hbI0.size
          have hX0 := st0_b VmC_keeps hX0 hbI0
          have hX1 := st0_b VmC_keeps hX1 hbI0
          have u1_0 := (hbI0.cell (p := ⟨wB1.heap.size, 0, none⟩) (by show wB1.heap.size < _; omega)).trans Hu1_0.out
          have u1_1 := (hbI0.cell (p := ⟨wB1.heap.size, 1, none⟩) (by show wB1.heap.size < _; omega)).trans Hu1_1.out
          have u1_2 := (hbI0.cell (p := ⟨wB1.heap.size, 2, none⟩) (by show wB1.heap.size < _; omega)).trans Hu1_2.out
          have u1_3 := (hbI0.cell (p := ⟨wB1.heap.size, 3, none⟩) (by show wB1.heap.size < _; omega)).trans Hu1_3.out
          have u1_4 := (hbI0.cell (p := ⟨wB1.heap.size, 4, none⟩) (by show wB1.heap.size < _; omega)).trans Hu1_4.out
          have u1_5 := (hbI0.cell (p := ⟨wB1.heap.size, 5, none⟩) (by show wB1.heap.size < _; omega)).trans Hu1_5.out
          have u1_6 := (hbI0.cell (p := ⟨wB1.heap.size, 6, none⟩) (by show wB1.heap.size < _; omega)).trans Hu1_6.out
          have u1_7 := (hbI0.cell (p := ⟨wB1.heap.size, 7, none⟩) (by show wB1.heap.size < _; omega)).trans Hu1_7.out
          have u1_8 := (hbI0.cell (p := ⟨wB1.heap.size, 8, none⟩) (by show wB1.heap.size < _; omega)).trans Hu1_8.out
          have u1_9 := (hbI0.cell (p := ⟨wB1.heap.size, 9, none⟩) (by show wB1.heap.size < _; omega)).trans Hu1_9.out
          clear Hu1_0 Hu1_1 Hu1_2 Hu1_3 Hu1_4 Hu1_5 Hu1_6 Hu1_7 Hu1_8 Hu1_9 KEEP0 hTO0 hEQ0
          have p0_0 := (KEEP.out _ hqI0).2.1
          have p0_1 := (KEEP.out _ hqI0).2.2.1
          have p0_2 := (KEEP.out _ hqI0).2.2.2.1
          have p0_3 := (KEEP.out _ hqI0).2.2.2.2.1
          have p0_4 := (KEEP.out _ hqI0).2.2.2.2.2.1
          have p0_5 := (KEEP.out _ hqI0).2.2.2.2.2.2.1
          have p0_6 := (KEEP.out _ hqI0).2.2.2.2.2.2.2.1
          have p0_7 := (KEEP.out _ hqI0).2.2.2.2.2.2.2.2.1
          have p0_8 := (KEEP.out _ hqI0).2.2.2.2.2.2.2.2.2.1
          have p0_9 := (KEEP.out _ hqI0).2.2.2.2.2.2.2.2.2.2.1
          have p1_0 := (KEEP.out _ hqI0).2.2.2.2.2.2.2.2.2.2.2.1
          have p1_1 := (KEEP.out _ hqI0).2.2.2.2.2.2.2.2.2.2.2.2.1
          have p1_2 := (KEEP.out _ hqI0).2.2.2.2.2.2.2.2.2.2.2.2.2.1
          have p1_3 := (KEEP.out _ hqI0).2.2.2.2.2.2.2.2.2.2.2.2.2.2.1
          have p1_4 := (KEEP.out _ hqI0).2.2.2.2.2.2.2.2.2.2.2.2.2.2.2.1
          have p1_5 := (KEEP.out _ hqI0).2.2.2.2.2.2.2.2.2.2.2.2.2.2.2.2.1
          have p1_6 := (KEEP.out _ hqI0).2.2.2.2.2.2.2.2.2.2.2.2.2.2.2.2.2.1
          have p1_7 := (KEEP.out _ hqI0).2.2.2.2.2.2.2.2.2.2.2.2.2.2.2.2.2.2.1
          have p1_8 := (KEEP.out _ hqI0).2.2.2.2.2.2.2.2.2.2.2.2.2.2.2.2.2.2.2.1
          have p1_9 := (KEEP.out _ hqI0).2.2.2.2.2.2.2.2.2.2.2.2.2.2.2.2.2.2.2.2
          clear p0_0 p0_1 p0_2 p0_3 p0_4 p0_5 p0_6 p0_7 p0_8 p0_9
          have sK1 := hqI0.size
          have KEEP1 : Hid (∀ W' : World, Below wI0.heap.size wI0 W' → (fun w' => Below wI0.heap.size wI0 w' ∧ w'.cell? ⟨wB1.heap.size, 0, none⟩ = some (.slice v1_a_heap_tables x1.heap.tables.length v1_c_heap_tables) ∧ w'.cell? ⟨wB1.heap.size, 1, none⟩ = some (.slice v1_a_heap_cells x1.heap.cells.length v1_c_heap_cells) ∧ w'.cell? ⟨wB1.heap.size, 2, none⟩ = some (.slice v1_a_funs x1.funs.length v1_c_funs) ∧ w'.cell? ⟨wB1.heap.size, 3, none⟩ = some (.slice v1_a_frames x1.frames.length v1_c_frames) ∧ w'.cell? ⟨wB1.heap.size, 4, none⟩ = some (.slice v1_a_out x1.out.length v1_c_out) ∧ w'.cell? ⟨wB1.heap.size, 5, none⟩ = some (.int .i64 x1.steps) ∧ w'.cell? ⟨wB1.heap.size, 6, none⟩ = some (.int .i64 x1.kind) ∧ w'.cell? ⟨wB1.heap.size, 7, none⟩ = some (.int .i64 x1.value.k) ∧ w'.cell? ⟨wB1.heap.size, 8, none⟩ = some (.int .i64 x1.value.n) ∧ w'.cell? ⟨wB1.heap.size, 9, none⟩ = some (.string x1.value.s) ∧ w'.cell? ⟨w.heap.size + 1, 0, none⟩ = some (.slice m1_a_heap_tables x1.heap.tables.length m1_c_heap_tables) ∧ w'.cell? ⟨w.heap.size + 1, 1, none⟩ = some (.slice m1_a_heap_cells x1.heap.cells.length m1_c_heap_cells) ∧ w'.cell? ⟨w.heap.size + 1, 2, none⟩ = some (.slice m1_a_funs x1.funs.length m1_c_funs) ∧ w'.cell? ⟨w.heap.size + 1, 3, none⟩ = some (.slice m1_a_frames x1.frames.length m1_c_frames) ∧ w'.cell? ⟨w.heap.size + 1, 4, none⟩ = some (.slice m1_a_out x1.out.length m1_c_out) ∧ w'.cell? ⟨w.heap.size + 1, 5, none⟩ = some (.int .i64 x1.steps) ∧ w'.cell? ⟨w.heap.size + 1, 6, none⟩ = some (.int .i64 x1.kind) ∧ w'.cell? ⟨w.heap.size + 1, 7, none⟩ = some (.int .i64 x1.value.k) ∧ w'.cell? ⟨w.heap.size + 1, 8, none⟩ = some (.int .i64 x1.value.n) ∧ w'.cell? ⟨w.heap.size + 1, 9, none⟩ = some (.string x1.value.s)) W') := fun W' hB => ⟨hB, (hB.cell (p := ⟨wB1.heap.size, 0, none⟩) (by show wB1.heap.size < _; omega)).trans u1_0, (hB.cell (p := ⟨wB1.heap.size, 1, none⟩) (by show wB1.heap.size < _; omega)).trans u1_1, (hB.cell (p := ⟨wB1.heap.size, 2, none⟩) (by show wB1.heap.size < _; omega)).trans u1_2, (hB.cell (p := ⟨wB1.heap.size, 3, none⟩) (by show wB1.heap.size < _; omega)).trans u1_3, (hB.cell (p := ⟨wB1.heap.size, 4, none⟩) (by show wB1.heap.size < _; omega)).trans u1_4, (hB.cell (p := ⟨wB1.heap.size, 5, none⟩) (by show wB1.heap.size < _; omega)).trans u1_5, (hB.cell (p := ⟨wB1.heap.size, 6, none⟩) (by show wB1.heap.size < _; omega)).trans u1_6, (hB.cell (p := ⟨wB1.heap.size, 7, none⟩) (by show wB1.heap.size < _; omega)).trans u1_7, (hB.cell (p := ⟨wB1.heap.size, 8, none⟩) (by show wB1.heap.size < _; omega)).trans u1_8, (hB.cell (p := ⟨wB1.heap.size, 9, none⟩) (by show wB1.heap.size < _; omega)).trans u1_9, (hB.cell (p := ⟨w.heap.size + 1, 0, none⟩) (by show w.heap.size + 1 < _; omega)).trans p1_0, (hB.cell (p := ⟨w.heap.size + 1, 1, none⟩) (by show w.heap.size + 1 < _; omega)).trans p1_1, (hB.cell (p := ⟨w.heap.size + 1, 2, none⟩) (by show w.heap.size + 1 < _; omega)).trans p1_2, (hB.cell (p := ⟨w.heap.size + 1, 3, none⟩) (by show w.heap.size + 1 < _; omega)).trans p1_3, (hB.cell (p := ⟨w.heap.size + 1, 4, none⟩) (by show w.heap.size + 1 < _; omega)).trans p1_4, (hB.cell (p := ⟨w.heap.size + 1, 5, none⟩) (by show w.heap.size + 1 < _; omega)).trans p1_5, (hB.cell (p := ⟨w.heap.size + 1, 6, none⟩) (by show w.heap.size + 1 < _; omega)).trans p1_6, (hB.cell (p := ⟨w.heap.size + 1, 7, none⟩) (by show w.heap.size + 1 < _; omega)).trans p1_7, (hB.cell (p := ⟨w.heap.size + 1, 8, none⟩) (by show w.heap.size + 1 < _; omega)).trans p1_8, (hB.cell (p := ⟨w.heap.size + 1, 9, none⟩) (by show w.heap.size + 1 < _; omega)).trans p1_9⟩
          have hTO1 : Hid (∀ W, Below wI0.heap.size wI0 W → Calls Try.prog 9 #[.agg #[.slice m1_a_heap_tables x1.heap.tables.length m1_c_heap_tables, .slice m1_a_heap_cells x1.heap.cells.length m1_c_heap_cells, .slice m1_a_funs x1.funs.length m1_c_funs, .slice m1_a_frames x1.frames.length m1_c_frames, .slice m1_a_out x1.out.length m1_c_out, .int .i64 x1.steps, .int .i64 x1.kind, .int .i64 x1.value.k, .int .i64 x1.value.n, .string x1.value.s]] W fun e w' => (∃ cs, e = .returned (.agg cs.toArray) ∧ VmC w' 0 w'.heap.size x1 cs) ∧ Below W.heap.size W w') := fun W hW => HTO1.out W (hqI0.trans (hW.mono hqI0.size))
          have hEQ1 : Hid (∀ W cs', Below wI0.heap.size wI0 W → VmC W 0 W.heap.size x1 cs' → Calls Try.prog 11 #[.agg #[.slice v1_a_heap_tables x1.heap.tables.length v1_c_heap_tables, .slice v1_a_heap_cells x1.heap.cells.length v1_c_heap_cells, .slice v1_a_funs x1.funs.length v1_c_funs, .slice v1_a_frames x1.frames.length v1_c_frames, .slice v1_a_out x1.out.length v1_c_out, .int .i64 x1.steps, .int .i64 x1.kind, .int .i64 x1.value.k, .int .i64 x1.value.n, .string x1.value.s], .agg cs'.toArray] W fun e w' => e = .returned (.bool true) ∧ Below W.heap.size W w') := fun W cs' hW h2 => HEQ1.out W _ cs' (st0_b VmC_keeps hX1 hW) h2
          have hq01 : Below wI0.heap.size wI0 wI0.drew := (Below.refl _ _).drew
          clear u1_0 u1_1 u1_2 u1_3 u1_4 u1_5 u1_6 u1_7 u1_8 u1_9 p1_0 p1_1 p1_2 p1_3 p1_4 p1_5 p1_6 p1_7 p1_8 p1_9
          go_wp2_with fail
          go_region_held3 (fun w' => Below wI0.heap.size wI0 w' ∧ w'.cell? ⟨wB1.heap.size, 0, none⟩ = some (.slice v1_a_heap_tables x1.heap.tables.length v1_c_heap_tables) ∧ w'.cell? ⟨wB1.heap.size, 1, none⟩ = some (.slice v1_a_heap_cells x1.heap.cells.length v1_c_heap_cells) ∧ w'.cell? ⟨wB1.heap.size, 2, none⟩ = some (.slice v1_a_funs x1.funs.length v1_c_funs) ∧ w'.cell? ⟨wB1.heap.size, 3, none⟩ = some (.slice v1_a_frames x1.frames.length v1_c_frames) ∧ w'.cell? ⟨wB1.heap.size, 4, none⟩ = some (.slice v1_a_out x1.out.length v1_c_out) ∧ w'.cell? ⟨wB1.heap.size, 5, none⟩ = some (.int .i64 x1.steps) ∧ w'.cell? ⟨wB1.heap.size, 6, none⟩ = some (.int .i64 x1.kind) ∧ w'.cell? ⟨wB1.heap.size, 7, none⟩ = some (.int .i64 x1.value.k) ∧ w'.cell? ⟨wB1.heap.size, 8, none⟩ = some (.int .i64 x1.value.n) ∧ w'.cell? ⟨wB1.heap.size, 9, none⟩ = some (.string x1.value.s) ∧ w'.cell? ⟨w.heap.size + 1, 0, none⟩ = some (.slice m1_a_heap_tables x1.heap.tables.length m1_c_heap_tables) ∧ w'.cell? ⟨w.heap.size + 1, 1, none⟩ = some (.slice m1_a_heap_cells x1.heap.cells.length m1_c_heap_cells) ∧ w'.cell? ⟨w.heap.size + 1, 2, none⟩ = some (.slice m1_a_funs x1.funs.length m1_c_funs) ∧ w'.cell? ⟨w.heap.size + 1, 3, none⟩ = some (.slice m1_a_frames x1.frames.length m1_c_frames) ∧ w'.cell? ⟨w.heap.size + 1, 4, none⟩ = some (.slice m1_a_out x1.out.length m1_c_out) ∧ w'.cell? ⟨w.heap.size + 1, 5, none⟩ = some (.int .i64 x1.steps) ∧ w'.cell? ⟨w.heap.size + 1, 6, none⟩ = some (.int .i64 x1.kind) ∧ w'.cell? ⟨w.heap.size + 1, 7, none⟩ = some (.int .i64 x1.value.k) ∧ w'.cell? ⟨w.heap.size + 1, 8, none⟩ = some (.int .i64 x1.value.n) ∧ w'.cell? ⟨w.heap.size + 1, 9, none⟩ = some (.string x1.value.s)) (first | (with_reducible assumption) | exact KEEP1.out _ (by with_reducible assumption)) (first | (go_at_call 9; (first | with_reducible refine (hTO1.out _ (bel_of (by with_reducible assumption))).mono ?_ | with_reducible refine (hTO1.out _ (by with_reducible assumption)).mono ?_); rintro e w' ⟨⟨t1, rfl, hZ1⟩, hb'⟩; (first | (have hq' := bel_step (by with_reducible assumption) hb') | (have hq' := bel_stepd (by with_reducible assumption) hb'))) | (go_at_call 11; (first | refine (hEQ1.out _ _ (by with_reducible assumption) hZ1).mono ?_ | refine (hEQ1.out _ _ (bel_of (by with_reducible assumption)) hZ1).mono ?_); rintro e w'' ⟨rfl, hb''⟩; (first | (have hq'' := bel_step (by with_reducible assumption) hb'') | (have hq'' := bel_stepd (by with_reducible assumption) hb''))))
          all_goals
            go_wp2_with fail
            go_ret
            exact ⟨rfl, HBK.out.trans ((hqI0.trans ((by first | (with_reducible assumption) | exact bel_of (by with_reducible assumption) : Below wI0.heap.size wI0 _).mono hqI0.size)).mono HBK.out.size)⟩
end Go.Proofs.Ytgibejgemokljaa
