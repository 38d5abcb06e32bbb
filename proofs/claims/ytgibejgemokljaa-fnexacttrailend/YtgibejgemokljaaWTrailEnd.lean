/- The walk of FnExactTrailEnd: it returns true. -/
import Derived.Test.YtgibejgemokljaaTenA
import Derived.Test.YtgibejgemokljaaTrC
import Derived.Test.YtgibejgemokljaaTrE
import Derived.Test.YtgibejgemokljaaTrS
import Derived.Deep.RegionHeld3
import Derived.Deep.Cut
namespace Go.Proofs.Ytgibejgemokljaa
open Go.RowKit

/-- In the whole of a world. -/
theorem at0 {α : Type} {k : Nat} {D : World → (Nat → Prop) → α → List Value → Prop} {C : World → Nat → Nat → α → List Value → Prop} (hL : Lies D C) {w : World} {l h : Nat} {xs : List α} {a : Option Addr} (hh : h ≤ w.heap.size) (hd : RowD k D w (In l h) xs a) : RowAt k C w 0 w.heap.size xs a :=
  hd.lies hL fun _ hb => ⟨Nat.zero_le _, Nat.lt_of_lt_of_le hb.2 hh⟩
theorem st0 {α : Type} {D : World → (Nat → Prop) → α → List Value → Prop} {C : World → Nat → Nat → α → List Value → Prop} (hL : Lies D C) {w : World} {l h : Nat} {x : α} {cs : List Value} (hh : h ≤ w.heap.size) (hd : D w (In l h) x cs) : C w 0 w.heap.size x cs :=
  hL _ _ _ _ _ _ (fun _ hb => ⟨Nat.zero_le _, Nat.lt_of_lt_of_le hb.2 hh⟩) hd
theorem at0_b {α : Type} {k : Nat} {C : World → Nat → Nat → α → List Value → Prop} (hK : Keeps C) {w w' : World} {xs : List α} {a : Option Addr} (h : RowAt k C w 0 w.heap.size xs a) (hb : Below w.heap.size w w') : RowAt k C w' 0 w'.heap.size xs a :=
  (h.below hK hb (Nat.le_refl _)).wide hK (Nat.le_refl _) hb.size
theorem st0_b {α : Type} {C : World → Nat → Nat → α → List Value → Prop} (hK : Keeps C) {w w' : World} {x : α} {cs : List Value} (h : C w 0 w.heap.size x cs) (hb : Below w.heap.size w w') : C w' 0 w'.heap.size x cs :=
  hK _ _ _ _ _ _ _ _ (Nat.le_refl _) hb.size (fun _ _ hp => hb.cell hp) h
theorem bel_stepd {W0 W W' : World} (h : Below W0.heap.size W0 W) (hb : Below W.heap.size W W') : Below W0.heap.size W0 W' := h.trans (hb.mono h.size)
set_option maxRecDepth 100000 in
set_option maxHeartbeats 3200000 in
theorem exact_trailend (x0 : TrailD) (cs0 : List Value) (w : World) (hC0 : TrailC w 0 w.heap.size x0 cs0) :
    Calls Try.prog 5 #[.agg cs0.toArray] w fun e w' => e = .returned (.bool true) ∧ Below w.heap.size w w' := by
  have hC0' := hC0
  obtain ⟨m0_ok, m0_a_code, m0_c_code, m0_a_marks, m0_c_marks, m0_a_now_heap_tables, m0_c_now_heap_tables, m0_a_now_heap_cells, m0_c_now_heap_cells, m0_a_now_funs, m0_c_now_funs, m0_a_now_frames, m0_c_now_frames, m0_a_now_out, m0_c_now_out, rfl, m0_l_code, m0_r_code, m0_l_marks, m0_r_marks, m0_l_now_heap_tables, m0_r_now_heap_tables, m0_l_now_heap_cells, m0_r_now_heap_cells, m0_l_now_funs, m0_r_now_funs, m0_l_now_frames, m0_r_now_frames, m0_l_now_out, m0_r_now_out⟩ := hC0'
  clear m0_r_code m0_r_marks m0_r_now_heap_tables m0_r_now_heap_cells m0_r_now_funs m0_r_now_frames m0_r_now_out
  obtain ⟨W0, hW0⟩ : ∃ W0, W0 = (w.alloc (Obj.cells #[.slice m0_a_code x0.code.length m0_c_code, .int .i64 x0.every, .slice m0_a_marks x0.marks.length m0_c_marks, .slice m0_a_now_heap_tables x0.now.heap.tables.length m0_c_now_heap_tables, .slice m0_a_now_heap_cells x0.now.heap.cells.length m0_c_now_heap_cells, .slice m0_a_now_funs x0.now.funs.length m0_c_now_funs, .slice m0_a_now_frames x0.now.frames.length m0_c_now_frames, .slice m0_a_now_out x0.now.out.length m0_c_now_out, .int .i64 x0.now.steps, .int .i64 x0.now.kind, .int .i64 x0.now.value.k, .int .i64 x0.now.value.n, .string x0.now.value.s] 62)) := ⟨_, rfl⟩
  have rA0 : W0.heap[w.heap.size]? = some (Obj.cells #[.slice m0_a_code x0.code.length m0_c_code, .int .i64 x0.every, .slice m0_a_marks x0.marks.length m0_c_marks, .slice m0_a_now_heap_tables x0.now.heap.tables.length m0_c_now_heap_tables, .slice m0_a_now_heap_cells x0.now.heap.cells.length m0_c_now_heap_cells, .slice m0_a_now_funs x0.now.funs.length m0_c_now_funs, .slice m0_a_now_frames x0.now.frames.length m0_c_now_frames, .slice m0_a_now_out x0.now.out.length m0_c_now_out, .int .i64 x0.now.steps, .int .i64 x0.now.kind, .int .i64 x0.now.value.k, .int .i64 x0.now.value.n, .string x0.now.value.s] 62) := by rw [hW0]; exact heap_alloc_new _ _
  have B0 : Below w.heap.size w W0 := by rw [hW0]; exact bel_alloc _ _
  have hs0 : W0.heap.size = w.heap.size + 1 := by rw [hW0]; simp
  have p0_0 := cell_of_row _ _ 0 _ _ _ rA0
  have p0_1 := cell_of_row _ _ 1 _ _ _ rA0
  have p0_2 := cell_of_row _ _ 2 _ _ _ rA0
  have p0_3 := cell_of_row _ _ 3 _ _ _ rA0
  have p0_4 := cell_of_row _ _ 4 _ _ _ rA0
  have p0_5 := cell_of_row _ _ 5 _ _ _ rA0
  have p0_6 := cell_of_row _ _ 6 _ _ _ rA0
  have p0_7 := cell_of_row _ _ 7 _ _ _ rA0
  have p0_8 := cell_of_row _ _ 8 _ _ _ rA0
  have p0_9 := cell_of_row _ _ 9 _ _ _ rA0
  have p0_10 := cell_of_row _ _ 10 _ _ _ rA0
  have p0_11 := cell_of_row _ _ 11 _ _ _ rA0
  have p0_12 := cell_of_row _ _ 12 _ _ _ rA0
  simp only [List.getElem?_toArray, List.getElem?_cons_zero, List.getElem?_cons_succ] at p0_0 p0_1 p0_2 p0_3 p0_4 p0_5 p0_6 p0_7 p0_8 p0_9 p0_10 p0_11 p0_12
  clear rA0
  go_enter Try.func5, Try.ntmps5
  go_wp2_with fail
  rw [← hW0]
  clear hW0
  refine (szTrail_any x0 _ 0 w.heap.size 1048576 W0 B0.size (TrailC_keeps.below hC0 B0 (Nat.le_refl _)) (by decide) (by decide)).mono ?_
  rintro e w1 ⟨⟨r1, rfl, hr1⟩, hb1⟩
  have B1 := B0.trans (hb1.mono B0.size)
  have hs1 := hb1.size
  have p0_0 := (hb1.cell (p := ⟨w.heap.size, 0, none⟩) (by show w.heap.size < _; omega)).trans p0_0
  have p0_1 := (hb1.cell (p := ⟨w.heap.size, 1, none⟩) (by show w.heap.size < _; omega)).trans p0_1
  have p0_2 := (hb1.cell (p := ⟨w.heap.size, 2, none⟩) (by show w.heap.size < _; omega)).trans p0_2
  have p0_3 := (hb1.cell (p := ⟨w.heap.size, 3, none⟩) (by show w.heap.size < _; omega)).trans p0_3
  have p0_4 := (hb1.cell (p := ⟨w.heap.size, 4, none⟩) (by show w.heap.size < _; omega)).trans p0_4
  have p0_5 := (hb1.cell (p := ⟨w.heap.size, 5, none⟩) (by show w.heap.size < _; omega)).trans p0_5
  have p0_6 := (hb1.cell (p := ⟨w.heap.size, 6, none⟩) (by show w.heap.size < _; omega)).trans p0_6
  have p0_7 := (hb1.cell (p := ⟨w.heap.size, 7, none⟩) (by show w.heap.size < _; omega)).trans p0_7
  have p0_8 := (hb1.cell (p := ⟨w.heap.size, 8, none⟩) (by show w.heap.size < _; omega)).trans p0_8
  have p0_9 := (hb1.cell (p := ⟨w.heap.size, 9, none⟩) (by show w.heap.size < _; omega)).trans p0_9
  have p0_10 := (hb1.cell (p := ⟨w.heap.size, 10, none⟩) (by show w.heap.size < _; omega)).trans p0_10
  have p0_11 := (hb1.cell (p := ⟨w.heap.size, 11, none⟩) (by show w.heap.size < _; omega)).trans p0_11
  have p0_12 := (hb1.cell (p := ⟨w.heap.size, 12, none⟩) (by show w.heap.size < _; omega)).trans p0_12
  by_cases hneg1 : r1 < 0
  · go_wp2_with fail
    go_ret
    exact ⟨rfl, B1⟩
  · skip
    have hw0 : x0.wt ≤ 1048576 := by rcases hr1 with h | h; exact absurd h (by omega); omega
    clear hr1 hb1  B0
    have HTO0 : Hid (∀ W, Below w1.heap.size w1 W → Calls Try.prog 23 #[.agg #[.slice m0_a_code x0.code.length m0_c_code, .int .i64 x0.every, .slice m0_a_marks x0.marks.length m0_c_marks, .slice m0_a_now_heap_tables x0.now.heap.tables.length m0_c_now_heap_tables, .slice m0_a_now_heap_cells x0.now.heap.cells.length m0_c_now_heap_cells, .slice m0_a_now_funs x0.now.funs.length m0_c_now_funs, .slice m0_a_now_frames x0.now.frames.length m0_c_now_frames, .slice m0_a_now_out x0.now.out.length m0_c_now_out, .int .i64 x0.now.steps, .int .i64 x0.now.kind, .int .i64 x0.now.value.k, .int .i64 x0.now.value.n, .string x0.now.value.s]] W fun e w' => (∃ cs, e = .returned (.agg cs.toArray) ∧ TrailC w' 0 w'.heap.size x0 cs) ∧ Below W.heap.size W w') := fun W hW => (owTrail_any x0 _ 0 w.heap.size W (Nat.le_trans B1.size hW.size) hw0 (TrailC_keeps.below (TrailC_keeps.below hC0 B1 (Nat.le_refl _)) hW B1.size)).mono fun e w' ⟨⟨cs, he, hR⟩, hb⟩ => ⟨⟨cs, he, st0 TrailOwn_lies (Nat.le_refl _) hR⟩, hb⟩
    have HEQ0 : Hid (∀ W cs cs', TrailC W 0 W.heap.size x0 cs → TrailC W 0 W.heap.size x0 cs' → Calls Try.prog 16 #[.agg cs.toArray, .agg cs'.toArray] W fun e w' => e = .returned (.bool true) ∧ Below W.heap.size W w') := fun W cs cs' h1 h2 => eqTrail_same x0 cs cs' _ _ _ _ W (Nat.le_refl _) (Nat.le_refl _) (by omega) h1 h2
    have HS : Hid (∀ W d0, TrailC W 0 W.heap.size x0 d0 → Calls Try.prog 22 #[.agg d0.toArray] W fun e w' => e = .returned (.bool ((x0.now.kind != 0))) ∧ Below W.heap.size W w') := fun W d0 h0 => tend_spec x0 d0 0 W.heap.size W h0
    have HI : Hid (∀ W d0, TrailC W 0 W.heap.size x0 d0 → Calls Try.prog 24 #[.agg d0.toArray] W fun e w' => e = .returned (.bool ((x0.now.kind != 0))) ∧ Below W.heap.size W w') := fun W d0 h0 => tend_impl x0 d0 0 W.heap.size W h0
    generalize (x0.now.kind != 0) = V at HS HI
    have HBK : Hid (Below w.heap.size w w1) := B1
    have KEEP : Hid (∀ W' : World, Below w1.heap.size w1 W' → (fun w' => Below w1.heap.size w1 w' ∧ w'.cell? ⟨w.heap.size, 0, none⟩ = some (.slice m0_a_code x0.code.length m0_c_code) ∧ w'.cell? ⟨w.heap.size, 1, none⟩ = some (.int .i64 x0.every) ∧ w'.cell? ⟨w.heap.size, 2, none⟩ = some (.slice m0_a_marks x0.marks.length m0_c_marks) ∧ w'.cell? ⟨w.heap.size, 3, none⟩ = some (.slice m0_a_now_heap_tables x0.now.heap.tables.length m0_c_now_heap_tables) ∧ w'.cell? ⟨w.heap.size, 4, none⟩ = some (.slice m0_a_now_heap_cells x0.now.heap.cells.length m0_c_now_heap_cells) ∧ w'.cell? ⟨w.heap.size, 5, none⟩ = some (.slice m0_a_now_funs x0.now.funs.length m0_c_now_funs) ∧ w'.cell? ⟨w.heap.size, 6, none⟩ = some (.slice m0_a_now_frames x0.now.frames.length m0_c_now_frames) ∧ w'.cell? ⟨w.heap.size, 7, none⟩ = some (.slice m0_a_now_out x0.now.out.length m0_c_now_out) ∧ w'.cell? ⟨w.heap.size, 8, none⟩ = some (.int .i64 x0.now.steps) ∧ w'.cell? ⟨w.heap.size, 9, none⟩ = some (.int .i64 x0.now.kind) ∧ w'.cell? ⟨w.heap.size, 10, none⟩ = some (.int .i64 x0.now.value.k) ∧ w'.cell? ⟨w.heap.size, 11, none⟩ = some (.int .i64 x0.now.value.n) ∧ w'.cell? ⟨w.heap.size, 12, none⟩ = some (.string x0.now.value.s)) W') := fun W' hB => ⟨hB, (hB.cell (p := ⟨w.heap.size, 0, none⟩) (by show w.heap.size < _; omega)).trans p0_0, (hB.cell (p := ⟨w.heap.size, 1, none⟩) (by show w.heap.size < _; omega)).trans p0_1, (hB.cell (p := ⟨w.heap.size, 2, none⟩) (by show w.heap.size < _; omega)).trans p0_2, (hB.cell (p := ⟨w.heap.size, 3, none⟩) (by show w.heap.size < _; omega)).trans p0_3, (hB.cell (p := ⟨w.heap.size, 4, none⟩) (by show w.heap.size < _; omega)).trans p0_4, (hB.cell (p := ⟨w.heap.size, 5, none⟩) (by show w.heap.size < _; omega)).trans p0_5, (hB.cell (p := ⟨w.heap.size, 6, none⟩) (by show w.heap.size < _; omega)).trans p0_6, (hB.cell (p := ⟨w.heap.size, 7, none⟩) (by show w.heap.size < _; omega)).trans p0_7, (hB.cell (p := ⟨w.heap.size, 8, none⟩) (by show w.heap.size < _; omega)).trans p0_8, (hB.cell (p := ⟨w.heap.size, 9, none⟩) (by show w.heap.size < _; omega)).trans p0_9, (hB.cell (p := ⟨w.heap.size, 10, none⟩) (by show w.heap.size < _; omega)).trans p0_10, (hB.cell (p := ⟨w.heap.size, 11, none⟩) (by show w.heap.size < _; omega)).trans p0_11, (hB.cell (p := ⟨w.heap.size, 12, none⟩) (by show w.heap.size < _; omega)).trans p0_12⟩
    have hq0 : Below w1.heap.size w1 w1.drew := (Below.refl _ _).drew
    clear p0_0 p0_1 p0_2 p0_3 p0_4 p0_5 p0_6 p0_7 p0_8 p0_9 p0_10 p0_11 p0_12
    clear hC0 m0_ok m0_l_code m0_l_marks m0_l_now_heap_tables m0_l_now_heap_cells m0_l_now_funs m0_l_now_frames m0_l_now_out B1
    have hqK : Below w1.heap.size w1 w1 := Below.refl _ _
    have p0_0 := (KEEP.out _ hqK).2.1
    have p0_1 := (KEEP.out _ hqK).2.2.1
    have p0_2 := (KEEP.out _ hqK).2.2.2.1
    have p0_3 := (KEEP.out _ hqK).2.2.2.2.1
    have p0_4 := (KEEP.out _ hqK).2.2.2.2.2.1
    have p0_5 := (KEEP.out _ hqK).2.2.2.2.2.2.1
    have p0_6 := (KEEP.out _ hqK).2.2.2.2.2.2.2.1
    have p0_7 := (KEEP.out _ hqK).2.2.2.2.2.2.2.2.1
    have p0_8 := (KEEP.out _ hqK).2.2.2.2.2.2.2.2.2.1
    have p0_9 := (KEEP.out _ hqK).2.2.2.2.2.2.2.2.2.2.1
    have p0_10 := (KEEP.out _ hqK).2.2.2.2.2.2.2.2.2.2.2.1
    have p0_11 := (KEEP.out _ hqK).2.2.2.2.2.2.2.2.2.2.2.2.1
    have p0_12 := (KEEP.out _ hqK).2.2.2.2.2.2.2.2.2.2.2.2.2
    go_wp2_with fail
    refine (HTO0.out _ hqK).mono ?_
    rintro e wY ⟨⟨ys0, rfl, hT0⟩, hbY⟩
    have hqY : Below w1.heap.size w1 wY := hqK.trans (hbY.mono hqK.size)
    go_wp2_with fail
    refine (HS.out _ _ hT0).mono ?_
    rintro e wA ⟨rfl, hbA⟩
    have hqA : Below w1.heap.size w1 wA := hqY.trans (hbA.mono hqY.size)
    clear hT0 p0_0 p0_1 p0_2 p0_3 p0_4 p0_5 p0_6 p0_7 p0_8 p0_9 p0_10 p0_11 p0_12
    have p0_0 := (KEEP.out _ hqA).2.1
    have p0_1 := (KEEP.out _ hqA).2.2.1
    have p0_2 := (KEEP.out _ hqA).2.2.2.1
    have p0_3 := (KEEP.out _ hqA).2.2.2.2.1
    have p0_4 := (KEEP.out _ hqA).2.2.2.2.2.1
    have p0_5 := (KEEP.out _ hqA).2.2.2.2.2.2.1
    have p0_6 := (KEEP.out _ hqA).2.2.2.2.2.2.2.1
    have p0_7 := (KEEP.out _ hqA).2.2.2.2.2.2.2.2.1
    have p0_8 := (KEEP.out _ hqA).2.2.2.2.2.2.2.2.2.1
    have p0_9 := (KEEP.out _ hqA).2.2.2.2.2.2.2.2.2.2.1
    have p0_10 := (KEEP.out _ hqA).2.2.2.2.2.2.2.2.2.2.2.1
    have p0_11 := (KEEP.out _ hqA).2.2.2.2.2.2.2.2.2.2.2.2.1
    have p0_12 := (KEEP.out _ hqA).2.2.2.2.2.2.2.2.2.2.2.2.2
    go_wp2_with fail
    refine (HTO0.out _ hqA).mono ?_
    rintro e wB0 ⟨⟨ys0, rfl, hX0⟩, hbB0⟩
    have hqB0 : Below w1.heap.size w1 wB0 := hqA.trans (hbB0.mono hqA.size)
    clear p0_0 p0_1 p0_2 p0_3 p0_4 p0_5 p0_6 p0_7 p0_8 p0_9 p0_10 p0_11 p0_12
    have zB0 := hbB0.size
    have hY0 := hX0
    obtain ⟨v0_ok, v0_a_code, v0_c_code, v0_a_marks, v0_c_marks, v0_a_now_heap_tables, v0_c_now_heap_tables, v0_a_now_heap_cells, v0_c_now_heap_cells, v0_a_now_funs, v0_c_now_funs, v0_a_now_frames, v0_c_now_frames, v0_a_now_out, v0_c_now_out, rfl, v0_l_code, v0_r_code, v0_l_marks, v0_r_marks, v0_l_now_heap_tables, v0_r_now_heap_tables, v0_l_now_heap_cells, v0_r_now_heap_cells, v0_l_now_funs, v0_r_now_funs, v0_l_now_frames, v0_r_now_frames, v0_l_now_out, v0_r_now_out⟩ := hY0
    clear v0_r_code v0_l_code v0_r_marks v0_l_marks v0_r_now_heap_tables v0_l_now_heap_tables v0_r_now_heap_cells v0_l_now_heap_cells v0_r_now_funs v0_l_now_funs v0_r_now_frames v0_l_now_frames v0_r_now_out v0_l_now_out v0_ok
    go_wp2_with fail
    obtain ⟨WC0, hWC0⟩ : ∃ W, W = wB0.alloc (Obj.cells #[.slice v0_a_code x0.code.length v0_c_code, .int .i64 x0.every, .slice v0_a_marks x0.marks.length v0_c_marks, .slice v0_a_now_heap_tables x0.now.heap.tables.length v0_c_now_heap_tables, .slice v0_a_now_heap_cells x0.now.heap.cells.length v0_c_now_heap_cells, .slice v0_a_now_funs x0.now.funs.length v0_c_now_funs, .slice v0_a_now_frames x0.now.frames.length v0_c_now_frames, .slice v0_a_now_out x0.now.out.length v0_c_now_out, .int .i64 x0.now.steps, .int .i64 x0.now.kind, .int .i64 x0.now.value.k, .int .i64 x0.now.value.n, .string x0.now.value.s] 51) := ⟨_, rfl⟩
    rw [← hWC0]
    have hbC0 : Below wB0.heap.size wB0 WC0 := by rw [hWC0]; exact bel_alloc _ _
    have rV0 : WC0.heap[wB0.heap.size]? = some (Obj.cells #[.slice v0_a_code x0.code.length v0_c_code, .int .i64 x0.every, .slice v0_a_marks x0.marks.length v0_c_marks, .slice v0_a_now_heap_tables x0.now.heap.tables.length v0_c_now_heap_tables, .slice v0_a_now_heap_cells x0.now.heap.cells.length v0_c_now_heap_cells, .slice v0_a_now_funs x0.now.funs.length v0_c_now_funs, .slice v0_a_now_frames x0.now.frames.length v0_c_now_frames, .slice v0_a_now_out x0.now.out.length v0_c_now_out, .int .i64 x0.now.steps, .int .i64 x0.now.kind, .int .i64 x0.now.value.k, .int .i64 x0.now.value.n, .string x0.now.value.s] 51) := by rw [hWC0]; exact heap_alloc_new _ _
    have zC0 : WC0.heap.size = wB0.heap.size + 1 := by rw [hWC0]; simp
    clear hWC0
    have u0_0 := cell_of_row _ _ 0 _ _ _ rV0
    have u0_1 := cell_of_row _ _ 1 _ _ _ rV0
    have u0_2 := cell_of_row _ _ 2 _ _ _ rV0
    have u0_3 := cell_of_row _ _ 3 _ _ _ rV0
    have u0_4 := cell_of_row _ _ 4 _ _ _ rV0
    have u0_5 := cell_of_row _ _ 5 _ _ _ rV0
    have u0_6 := cell_of_row _ _ 6 _ _ _ rV0
    have u0_7 := cell_of_row _ _ 7 _ _ _ rV0
    have u0_8 := cell_of_row _ _ 8 _ _ _ rV0
    have u0_9 := cell_of_row _ _ 9 _ _ _ rV0
    have u0_10 := cell_of_row _ _ 10 _ _ _ rV0
    have u0_11 := cell_of_row _ _ 11 _ _ _ rV0
    have u0_12 := cell_of_row _ _ 12 _ _ _ rV0
    simp only [List.getElem?_toArray, List.getElem?_cons_zero, List.getElem?_cons_succ] at u0_0 u0_1 u0_2 u0_3 u0_4 u0_5 u0_6 u0_7 u0_8 u0_9 u0_10 u0_11 u0_12
    clear rV0
    have hqC0 : Below w1.heap.size w1 WC0 := hqB0.trans (hbC0.mono hqB0.size)
    have hX0 := st0_b TrailC_keeps hX0 hbC0
    go_wp2_with fail
    refine (HI.out _ _ hX0).mono ?_
    rintro e wG ⟨rfl, hbG⟩
    have zG := hbG.size
    have hqG : Below w1.heap.size w1 wG := hqC0.trans (hbG.mono hqC0.size)
    have hX0 := st0_b TrailC_keeps hX0 hbG
    have u0_0 := (hbG.cell (p := ⟨wB0.heap.size, 0, none⟩) (by show wB0.heap.size < _; omega)).trans u0_0
    have u0_1 := (hbG.cell (p := ⟨wB0.heap.size, 1, none⟩) (by show wB0.heap.size < _; omega)).trans u0_1
    have u0_2 := (hbG.cell (p := ⟨wB0.heap.size, 2, none⟩) (by show wB0.heap.size < _; omega)).trans u0_2
    have u0_3 := (hbG.cell (p := ⟨wB0.heap.size, 3, none⟩) (by show wB0.heap.size < _; omega)).trans u0_3
    have u0_4 := (hbG.cell (p := ⟨wB0.heap.size, 4, none⟩) (by show wB0.heap.size < _; omega)).trans u0_4
    have u0_5 := (hbG.cell (p := ⟨wB0.heap.size, 5, none⟩) (by show wB0.heap.size < _; omega)).trans u0_5
    have u0_6 := (hbG.cell (p := ⟨wB0.heap.size, 6, none⟩) (by show wB0.heap.size < _; omega)).trans u0_6
    have u0_7 := (hbG.cell (p := ⟨wB0.heap.size, 7, none⟩) (by show wB0.heap.size < _; omega)).trans u0_7
    have u0_8 := (hbG.cell (p := ⟨wB0.heap.size, 8, none⟩) (by show wB0.heap.size < _; omega)).trans u0_8
    have u0_9 := (hbG.cell (p := ⟨wB0.heap.size, 9, none⟩) (by show wB0.heap.size < _; omega)).trans u0_9
    have u0_10 := (hbG.cell (p := ⟨wB0.heap.size, 10, none⟩) (by show wB0.heap.size < _; omega)).trans u0_10
    have u0_11 := (hbG.cell (p := ⟨wB0.heap.size, 11, none⟩) (by show wB0.heap.size < _; omega)).trans u0_11
    have u0_12 := (hbG.cell (p := ⟨wB0.heap.size, 12, none⟩) (by show wB0.heap.size < _; omega)).trans u0_12
    have p0_0 := (KEEP.out _ hqG).2.1
    have p0_1 := (KEEP.out _ hqG).2.2.1
    have p0_2 := (KEEP.out _ hqG).2.2.2.1
    have p0_3 := (KEEP.out _ hqG).2.2.2.2.1
    have p0_4 := (KEEP.out _ hqG).2.2.2.2.2.1
    have p0_5 := (KEEP.out _ hqG).2.2.2.2.2.2.1
    have p0_6 := (KEEP.out _ hqG).2.2.2.2.2.2.2.1
    have p0_7 := (KEEP.out _ hqG).2.2.2.2.2.2.2.2.1
    have p0_8 := (KEEP.out _ hqG).2.2.2.2.2.2.2.2.2.1
    have p0_9 := (KEEP.out _ hqG).2.2.2.2.2.2.2.2.2.2.1
    have p0_10 := (KEEP.out _ hqG).2.2.2.2.2.2.2.2.2.2.2.1
    have p0_11 := (KEEP.out _ hqG).2.2.2.2.2.2.2.2.2.2.2.2.1
    have p0_12 := (KEEP.out _ hqG).2.2.2.2.2.2.2.2.2.2.2.2.2
    have sK0 := hqG.size
    have KEEP0 : Hid (∀ W' : World, Below wG.heap.size wG W' → (fun w' => Below wG.heap.size wG w' ∧ w'.cell? ⟨wB0.heap.size, 0, none⟩ = some (.slice v0_a_code x0.code.length v0_c_code) ∧ w'.cell? ⟨wB0.heap.size, 1, none⟩ = some (.int .i64 x0.every) ∧ w'.cell? ⟨wB0.heap.size, 2, none⟩ = some (.slice v0_a_marks x0.marks.length v0_c_marks) ∧ w'.cell? ⟨wB0.heap.size, 3, none⟩ = some (.slice v0_a_now_heap_tables x0.now.heap.tables.length v0_c_now_heap_tables) ∧ w'.cell? ⟨wB0.heap.size, 4, none⟩ = some (.slice v0_a_now_heap_cells x0.now.heap.cells.length v0_c_now_heap_cells) ∧ w'.cell? ⟨wB0.heap.size, 5, none⟩ = some (.slice v0_a_now_funs x0.now.funs.length v0_c_now_funs) ∧ w'.cell? ⟨wB0.heap.size, 6, none⟩ = some (.slice v0_a_now_frames x0.now.frames.length v0_c_now_frames) ∧ w'.cell? ⟨wB0.heap.size, 7, none⟩ = some (.slice v0_a_now_out x0.now.out.length v0_c_now_out) ∧ w'.cell? ⟨wB0.heap.size, 8, none⟩ = some (.int .i64 x0.now.steps) ∧ w'.cell? ⟨wB0.heap.size, 9, none⟩ = some (.int .i64 x0.now.kind) ∧ w'.cell? ⟨wB0.heap.size, 10, none⟩ = some (.int .i64 x0.now.value.k) ∧ w'.cell? ⟨wB0.heap.size, 11, none⟩ = some (.int .i64 x0.now.value.n) ∧ w'.cell? ⟨wB0.heap.size, 12, none⟩ = some (.string x0.now.value.s) ∧ w'.cell? ⟨w.heap.size, 0, none⟩ = some (.slice m0_a_code x0.code.length m0_c_code) ∧ w'.cell? ⟨w.heap.size, 1, none⟩ = some (.int .i64 x0.every) ∧ w'.cell? ⟨w.heap.size, 2, none⟩ = some (.slice m0_a_marks x0.marks.length m0_c_marks) ∧ w'.cell? ⟨w.heap.size, 3, none⟩ = some (.slice m0_a_now_heap_tables x0.now.heap.tables.length m0_c_now_heap_tables) ∧ w'.cell? ⟨w.heap.size, 4, none⟩ = some (.slice m0_a_now_heap_cells x0.now.heap.cells.length m0_c_now_heap_cells) ∧ w'.cell? ⟨w.heap.size, 5, none⟩ = some (.slice m0_a_now_funs x0.now.funs.length m0_c_now_funs) ∧ w'.cell? ⟨w.heap.size, 6, none⟩ = some (.slice m0_a_now_frames x0.now.frames.length m0_c_now_frames) ∧ w'.cell? ⟨w.heap.size, 7, none⟩ = some (.slice m0_a_now_out x0.now.out.length m0_c_now_out) ∧ w'.cell? ⟨w.heap.size, 8, none⟩ = some (.int .i64 x0.now.steps) ∧ w'.cell? ⟨w.heap.size, 9, none⟩ = some (.int .i64 x0.now.kind) ∧ w'.cell? ⟨w.heap.size, 10, none⟩ = some (.int .i64 x0.now.value.k) ∧ w'.cell? ⟨w.heap.size, 11, none⟩ = some (.int .i64 x0.now.value.n) ∧ w'.cell? ⟨w.heap.size, 12, none⟩ = some (.string x0.now.value.s)) W') := fun W' hB => ⟨hB, (hB.cell (p := ⟨wB0.heap.size, 0, none⟩) (by show wB0.heap.size < _; omega)).trans u0_0, (hB.cell (p := ⟨wB0.heap.size, 1, none⟩) (by show wB0.heap.size < _; omega)).trans u0_1, (hB.cell (p := ⟨wB0.heap.size, 2, none⟩) (by show wB0.heap.size < _; omega)).trans u0_2, (hB.cell (p := ⟨wB0.heap.size, 3, none⟩) (by show wB0.heap.size < _; omega)).trans u0_3, (hB.cell (p := ⟨wB0.heap.size, 4, none⟩) (by show wB0.heap.size < _; omega)).trans u0_4, (hB.cell (p := ⟨wB0.heap.size, 5, none⟩) (by show wB0.heap.size < _; omega)).trans u0_5, (hB.cell (p := ⟨wB0.heap.size, 6, none⟩) (by show wB0.heap.size < _; omega)).trans u0_6, (hB.cell (p := ⟨wB0.heap.size, 7, none⟩) (by show wB0.heap.size < _; omega)).trans u0_7, (hB.cell (p := ⟨wB0.heap.size, 8, none⟩) (by show wB0.heap.size < _; omega)).trans u0_8, (hB.cell (p := ⟨wB0.heap.size, 9, none⟩) (by show wB0.heap.size < _; omega)).trans u0_9, (hB.cell (p := ⟨wB0.heap.size, 10, none⟩) (by show wB0.heap.size < _; omega)).trans u0_10, (hB.cell (p := ⟨wB0.heap.size, 11, none⟩) (by show wB0.heap.size < _; omega)).trans u0_11, (hB.cell (p := ⟨wB0.heap.size, 12, none⟩) (by show wB0.heap.size < _; omega)).trans u0_12, (hB.cell (p := ⟨w.heap.size, 0, none⟩) (by show w.heap.size < _; omega)).trans p0_0, (hB.cell (p := ⟨w.heap.size, 1, none⟩) (by show w.heap.size < _; omega)).trans p0_1, (hB.cell (p := ⟨w.heap.size, 2, none⟩) (by show w.heap.size < _; omega)).trans p0_2, (hB.cell (p := ⟨w.heap.size, 3, none⟩) (by show w.heap.size < _; omega)).trans p0_3, (hB.cell (p := ⟨w.heap.size, 4, none⟩) (by show w.heap.size < _; omega)).trans p0_4, (hB.cell (p := ⟨w.heap.size, 5, none⟩) (by show w.heap.size < _; omega)).trans p0_5, (hB.cell (p := ⟨w.heap.size, 6, none⟩) (by show w.heap.size < _; omega)).trans p0_6, (hB.cell (p := ⟨w.heap.size, 7, none⟩) (by show w.heap.size < _; omega)).trans p0_7, (hB.cell (p := ⟨w.heap.size, 8, none⟩) (by show w.heap.size < _; omega)).trans p0_8, (hB.cell (p := ⟨w.heap.size, 9, none⟩) (by show w.heap.size < _; omega)).trans p0_9, (hB.cell (p := ⟨w.heap.size, 10, none⟩) (by show w.heap.size < _; omega)).trans p0_10, (hB.cell (p := ⟨w.heap.size, 11, none⟩) (by show w.heap.size < _; omega)).trans p0_11, (hB.cell (p := ⟨w.heap.size, 12, none⟩) (by show w.heap.size < _; omega)).trans p0_12⟩
    have hTO0 : Hid (∀ W, Below wG.heap.size wG W → Calls Try.prog 23 #[.agg #[.slice m0_a_code x0.code.length m0_c_code, .int .i64 x0.every, .slice m0_a_marks x0.marks.length m0_c_marks, .slice m0_a_now_heap_tables x0.now.heap.tables.length m0_c_now_heap_tables, .slice m0_a_now_heap_cells x0.now.heap.cells.length m0_c_now_heap_cells, .slice m0_a_now_funs x0.now.funs.length m0_c_now_funs, .slice m0_a_now_frames x0.now.frames.length m0_c_now_frames, .slice m0_a_now_out x0.now.out.length m0_c_now_out, .int .i64 x0.now.steps, .int .i64 x0.now.kind, .int .i64 x0.now.value.k, .int .i64 x0.now.value.n, .string x0.now.value.s]] W fun e w' => (∃ cs, e = .returned (.agg cs.toArray) ∧ TrailC w' 0 w'.heap.size x0 cs) ∧ Below W.heap.size W w') := fun W hW => HTO0.out W (hqG.trans (hW.mono hqG.size))
    have hEQ0 : Hid (∀ W cs', Below wG.heap.size wG W → TrailC W 0 W.heap.size x0 cs' → Calls Try.prog 16 #[.agg #[.slice v0_a_code x0.code.length v0_c_code, .int .i64 x0.every, .slice v0_a_marks x0.marks.length v0_c_marks, .slice v0_a_now_heap_tables x0.now.heap.tables.length v0_c_now_heap_tables, .slice v0_a_now_heap_cells x0.now.heap.cells.length v0_c_now_heap_cells, .slice v0_a_now_funs x0.now.funs.length v0_c_now_funs, .slice v0_a_now_frames x0.now.frames.length v0_c_now_frames, .slice v0_a_now_out x0.now.out.length v0_c_now_out, .int .i64 x0.now.steps, .int .i64 x0.now.kind, .int .i64 x0.now.value.k, .int .i64 x0.now.value.n, .string x0.now.value.s], .agg cs'.toArray] W fun e w' => e = .returned (.bool true) ∧ Below W.heap.size W w') := fun W cs' hW h2 => HEQ0.out W _ cs' (st0_b TrailC_keeps hX0 hW) h2
    have hq00 : Below wG.heap.size wG wG.drew := (Below.refl _ _).drew
    clear u0_0 u0_1 u0_2 u0_3 u0_4 u0_5 u0_6 u0_7 u0_8 u0_9 u0_10 u0_11 u0_12 p0_0 p0_1 p0_2 p0_3 p0_4 p0_5 p0_6 p0_7 p0_8 p0_9 p0_10 p0_11 p0_12
    go_wp2_with fail
    go_region_held3 (fun w' => Below wG.heap.size wG w' ∧ w'.cell? ⟨wB0.heap.size, 0, none⟩ = some (.slice v0_a_code x0.code.length v0_c_code) ∧ w'.cell? ⟨wB0.heap.size, 1, none⟩ = some (.int .i64 x0.every) ∧ w'.cell? ⟨wB0.heap.size, 2, none⟩ = some (.slice v0_a_marks x0.marks.length v0_c_marks) ∧ w'.cell? ⟨wB0.heap.size, 3, none⟩ = some (.slice v0_a_now_heap_tables x0.now.heap.tables.length v0_c_now_heap_tables) ∧ w'.cell? ⟨wB0.heap.size, 4, none⟩ = some (.slice v0_a_now_heap_cells x0.now.heap.cells.length v0_c_now_heap_cells) ∧ w'.cell? ⟨wB0.heap.size, 5, none⟩ = some (.slice v0_a_now_funs x0.now.funs.length v0_c_now_funs) ∧ w'.cell? ⟨wB0.heap.size, 6, none⟩ = some (.slice v0_a_now_frames x0.now.frames.length v0_c_now_frames) ∧ w'.cell? ⟨wB0.heap.size, 7, none⟩ = some (.slice v0_a_now_out x0.now.out.length v0_c_now_out) ∧ w'.cell? ⟨wB0.heap.size, 8, none⟩ = some (.int .i64 x0.now.steps) ∧ w'.cell? ⟨wB0.heap.size, 9, none⟩ = some (.int .i64 x0.now.kind) ∧ w'.cell? ⟨wB0.heap.size, 10, none⟩ = some (.int .i64 x0.now.value.k) ∧ w'.cell? ⟨wB0.heap.size, 11, none⟩ = some (.int .i64 x0.now.value.n) ∧ w'.cell? ⟨wB0.heap.size, 12, none⟩ = some (.string x0.now.value.s) ∧ w'.cell? ⟨w.heap.size, 0, none⟩ = some (.slice m0_a_code x0.code.length m0_c_code) ∧ w'.cell? ⟨w.heap.size, 1, none⟩ = some (.int .i64 x0.every) ∧ w'.cell? ⟨w.heap.size, 2, none⟩ = some (.slice m0_a_marks x0.marks.length m0_c_marks) ∧ w'.cell? ⟨w.heap.size, 3, none⟩ = some (.slice m0_a_now_heap_tables x0.now.heap.tables.length m0_c_now_heap_tables) ∧ w'.cell? ⟨w.heap.size, 4, none⟩ = some (.slice m0_a_now_heap_cells x0.now.heap.cells.length m0_c_now_heap_cells) ∧ w'.cell? ⟨w.heap.size, 5, none⟩ = some (.slice m0_a_now_funs x0.now.funs.length m0_c_now_funs) ∧ w'.cell? ⟨w.heap.size, 6, none⟩ = some (.slice m0_a_now_frames x0.now.frames.length m0_c_now_frames) ∧ w'.cell? ⟨w.heap.size, 7, none⟩ = some (.slice m0_a_now_out x0.now.out.length m0_c_now_out) ∧ w'.cell? ⟨w.heap.size, 8, none⟩ = some (.int .i64 x0.now.steps) ∧ w'.cell? ⟨w.heap.size, 9, none⟩ = some (.int .i64 x0.now.kind) ∧ w'.cell? ⟨w.heap.size, 10, none⟩ = some (.int .i64 x0.now.value.k) ∧ w'.cell? ⟨w.heap.size, 11, none⟩ = some (.int .i64 x0.now.value.n) ∧ w'.cell? ⟨w.heap.size, 12, none⟩ = some (.string x0.now.value.s)) (first | (with_reducible assumption) | exact KEEP0.out _ (by with_reducible assumption)) (first | (go_at_call 23; (first | refine (hTO0.out _ (bel_of (by with_reducible assumption))).mono ?_ | refine (hTO0.out _ (by with_reducible assumption)).mono ?_); rintro e w' ⟨⟨t0, rfl, hZ0⟩, hb'⟩; (first | (have hq' := bel_step (by with_reducible assumption) hb') | (have hq' := bel_stepd (by with_reducible assumption) hb'))) | (go_at_call 16; (first | refine (hEQ0.out _ _ (by with_reducible assumption) hZ0).mono ?_ | refine (hEQ0.out _ _ (bel_of (by with_reducible assumption)) hZ0).mono ?_); rintro e w'' ⟨rfl, hb''⟩; (first | (have hq'' := bel_step (by with_reducible assumption) hb'') | (have hq'' := bel_stepd (by with_reducible assumption) hb''))))
    all_goals
      go_wp2_with fail
      go_ret
      exact ⟨rfl, HBK.out.trans ((hqG.trans ((by first | (with_reducible assumption) | exact bel_of (by with_reducible assumption) : Below wG.heap.size wG _).mono hqG.size)).mono HBK.out.size)⟩
end Go.Proofs.Ytgibejgemokljaa
