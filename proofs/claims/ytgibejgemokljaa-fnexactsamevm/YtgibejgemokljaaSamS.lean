/- Machines compared: the specification. -/
import Derived.Test.YtgibejgemokljaaSamH
import Derived.Test.YtgibejgemokljaaSamE
namespace Go.Proofs.Ytgibejgemokljaa
open Go.RowKit

set_option maxRecDepth 100000 in
set_option maxHeartbeats 6400000 in
theorem same_spec (x y : VmD) (cs cs' : List Value) (lo hi lo' hi' : Nat) (V : Bool) (hV : V = true ↔ x = y) (w : World) (hh : hi ≤ w.heap.size) (hh' : hi' ≤ w.heap.size) (hC : VmC w lo hi x cs) (hD : VmC w lo' hi' y cs') :
    Calls Try.prog 8 #[.agg cs.toArray, .agg cs'.toArray] w fun e w' => e = .returned (.bool V) ∧ Below w.heap.size w w' := by
  obtain ⟨ok, a_heap_tables, c_heap_tables, a_heap_cells, c_heap_cells, a_funs, c_funs, a_frames, c_frames, a_out, c_out, rfl, l_heap_tables, r_heap_tables, l_heap_cells, r_heap_cells, l_funs, r_funs, l_frames, r_frames, l_out, r_out⟩ := hC
  obtain ⟨n_ok, n_a_heap_tables, n_c_heap_tables, n_a_heap_cells, n_c_heap_cells, n_a_funs, n_c_funs, n_a_frames, n_c_frames, n_a_out, n_c_out, rfl, n_l_heap_tables, n_r_heap_tables, n_l_heap_cells, n_r_heap_cells, n_l_funs, n_r_funs, n_l_frames, n_r_frames, n_l_out, n_r_out⟩ := hD
  obtain ⟨rA, rB, hs0, B0⟩ := rows2' w (Obj.cells #[.slice a_heap_tables x.heap.tables.length c_heap_tables, .slice a_heap_cells x.heap.cells.length c_heap_cells, .slice a_funs x.funs.length c_funs, .slice a_frames x.frames.length c_frames, .slice a_out x.out.length c_out, .int .i64 x.steps, .int .i64 x.kind, .int .i64 x.value.k, .int .i64 x.value.n, .string x.value.s] 43) (Obj.cells #[.slice n_a_heap_tables y.heap.tables.length n_c_heap_tables, .slice n_a_heap_cells y.heap.cells.length n_c_heap_cells, .slice n_a_funs y.funs.length n_c_funs, .slice n_a_frames y.frames.length n_c_frames, .slice n_a_out y.out.length n_c_out, .int .i64 y.steps, .int .i64 y.kind, .int .i64 y.value.k, .int .i64 y.value.n, .string y.value.s] 43)
  have hHx : HeapC w lo hi x.heap [.slice a_heap_tables x.heap.tables.length c_heap_tables, .slice a_heap_cells x.heap.cells.length c_heap_cells] := ⟨ok.heap, a_heap_tables, c_heap_tables, a_heap_cells, c_heap_cells, rfl, l_heap_tables, r_heap_tables, l_heap_cells, r_heap_cells⟩
  have hHy : HeapC w lo' hi' y.heap [.slice n_a_heap_tables y.heap.tables.length n_c_heap_tables, .slice n_a_heap_cells y.heap.cells.length n_c_heap_cells] := ⟨n_ok.heap, n_a_heap_tables, n_c_heap_tables, n_a_heap_cells, n_c_heap_cells, rfl, n_l_heap_tables, n_r_heap_tables, n_l_heap_cells, n_r_heap_cells⟩
  have hHx := HeapC_keeps.below hHx B0 hh
  have hHy := HeapC_keeps.below hHy B0 hh'
  clear r_heap_tables r_heap_cells n_r_heap_tables n_r_heap_cells
  have r_funs := r_funs.below ClosureC_keeps B0 hh
  have n_r_funs := n_r_funs.below ClosureC_keeps B0 hh'
  have r_frames := r_frames.below FrameC_keeps B0 hh
  have n_r_frames := n_r_frames.below FrameC_keeps B0 hh'
  have r_out := r_out.below StrC_keeps B0 hh
  have n_r_out := n_r_out.below StrC_keeps B0 hh'
  unfold maxLen at l_funs l_frames l_out
  go_enter Try.func8, Try.ntmps8
  go_upto_region 1 with fail
  obtain ⟨W0, hW0⟩ : ∃ W0, W0 = (w.alloc (Obj.cells #[.slice a_heap_tables x.heap.tables.length c_heap_tables, .slice a_heap_cells x.heap.cells.length c_heap_cells, .slice a_funs x.funs.length c_funs, .slice a_frames x.frames.length c_frames, .slice a_out x.out.length c_out, .int .i64 x.steps, .int .i64 x.kind, .int .i64 x.value.k, .int .i64 x.value.n, .string x.value.s] 43)).alloc (Obj.cells #[.slice n_a_heap_tables y.heap.tables.length n_c_heap_tables, .slice n_a_heap_cells y.heap.cells.length n_c_heap_cells, .slice n_a_funs y.funs.length n_c_funs, .slice n_a_frames y.frames.length n_c_frames, .slice n_a_out y.out.length n_c_out, .int .i64 y.steps, .int .i64 y.kind, .int .i64 y.value.k, .int .i64 y.value.n, .string y.value.s] 43) := ⟨_, rfl⟩
  rw [← hW0]
  rw [← hW0] at rA rB hs0 B0 hHx hHy r_funs n_r_funs r_frames n_r_frames r_out n_r_out
  have p0 := cell_of_row _ _ 0 _ _ _ rA
  have yv0 := cell_of_row _ _ 0 _ _ _ rB
  have p1 := cell_of_row _ _ 1 _ _ _ rA
  have yv1 := cell_of_row _ _ 1 _ _ _ rB
  have p2 := cell_of_row _ _ 2 _ _ _ rA
  have yv2 := cell_of_row _ _ 2 _ _ _ rB
  have p3 := cell_of_row _ _ 3 _ _ _ rA
  have yv3 := cell_of_row _ _ 3 _ _ _ rB
  have p4 := cell_of_row _ _ 4 _ _ _ rA
  have yv4 := cell_of_row _ _ 4 _ _ _ rB
  have p5 := cell_of_row _ _ 5 _ _ _ rA
  have yv5 := cell_of_row _ _ 5 _ _ _ rB
  have p6 := cell_of_row _ _ 6 _ _ _ rA
  have yv6 := cell_of_row _ _ 6 _ _ _ rB
  have p7 := cell_of_row _ _ 7 _ _ _ rA
  have yv7 := cell_of_row _ _ 7 _ _ _ rB
  have p8 := cell_of_row _ _ 8 _ _ _ rA
  have yv8 := cell_of_row _ _ 8 _ _ _ rB
  have p9 := cell_of_row _ _ 9 _ _ _ rA
  have yv9 := cell_of_row _ _ 9 _ _ _ rB
  simp only [List.getElem?_toArray, List.getElem?_cons_zero, List.getElem?_cons_succ] at p0 yv0 p1 yv1 p2 yv2 p3 yv3 p4 yv4 p5 yv5 p6 yv6 p7 yv7 p8 yv8 p9 yv9
  clear rA rB hW0
  have hzz := B0.size
  by_cases h0 : x.heap = y.heap
  · have H0 : Hid (x.heap = y.heap) := h0
    clear h0
    go_wp2_with fail
    refine (heap_spec x.heap y.heap _ _ lo hi lo' hi' true ⟨fun _ => H0.out, fun _ => rfl⟩ W0 (Nat.le_trans hh B0.size) (Nat.le_trans hh' B0.size) hHx hHy).mono ?_
    rintro e w1 ⟨rfl, hb1⟩
    have hz1 := hb1.size
    replace p0 := (hb1.cell (p := ⟨w.heap.size, 0, none⟩) (by show w.heap.size < _; omega)).trans p0
    replace yv0 := (hb1.cell (p := ⟨w.heap.size + 1, 0, none⟩) (by show w.heap.size + 1 < _; omega)).trans yv0
    replace p1 := (hb1.cell (p := ⟨w.heap.size, 1, none⟩) (by show w.heap.size < _; omega)).trans p1
    replace yv1 := (hb1.cell (p := ⟨w.heap.size + 1, 1, none⟩) (by show w.heap.size + 1 < _; omega)).trans yv1
    replace p2 := (hb1.cell (p := ⟨w.heap.size, 2, none⟩) (by show w.heap.size < _; omega)).trans p2
    replace yv2 := (hb1.cell (p := ⟨w.heap.size + 1, 2, none⟩) (by show w.heap.size + 1 < _; omega)).trans yv2
    replace p3 := (hb1.cell (p := ⟨w.heap.size, 3, none⟩) (by show w.heap.size < _; omega)).trans p3
    replace yv3 := (hb1.cell (p := ⟨w.heap.size + 1, 3, none⟩) (by show w.heap.size + 1 < _; omega)).trans yv3
    replace p4 := (hb1.cell (p := ⟨w.heap.size, 4, none⟩) (by show w.heap.size < _; omega)).trans p4
    replace yv4 := (hb1.cell (p := ⟨w.heap.size + 1, 4, none⟩) (by show w.heap.size + 1 < _; omega)).trans yv4
    replace p5 := (hb1.cell (p := ⟨w.heap.size, 5, none⟩) (by show w.heap.size < _; omega)).trans p5
    replace yv5 := (hb1.cell (p := ⟨w.heap.size + 1, 5, none⟩) (by show w.heap.size + 1 < _; omega)).trans yv5
    replace p6 := (hb1.cell (p := ⟨w.heap.size, 6, none⟩) (by show w.heap.size < _; omega)).trans p6
    replace yv6 := (hb1.cell (p := ⟨w.heap.size + 1, 6, none⟩) (by show w.heap.size + 1 < _; omega)).trans yv6
    replace p7 := (hb1.cell (p := ⟨w.heap.size, 7, none⟩) (by show w.heap.size < _; omega)).trans p7
    replace yv7 := (hb1.cell (p := ⟨w.heap.size + 1, 7, none⟩) (by show w.heap.size + 1 < _; omega)).trans yv7
    replace p8 := (hb1.cell (p := ⟨w.heap.size, 8, none⟩) (by show w.heap.size < _; omega)).trans p8
    replace yv8 := (hb1.cell (p := ⟨w.heap.size + 1, 8, none⟩) (by show w.heap.size + 1 < _; omega)).trans yv8
    replace p9 := (hb1.cell (p := ⟨w.heap.size, 9, none⟩) (by show w.heap.size < _; omega)).trans p9
    replace yv9 := (hb1.cell (p := ⟨w.heap.size + 1, 9, none⟩) (by show w.heap.size + 1 < _; omega)).trans yv9
    have B1 : Below w.heap.size w w1 := B0.trans (hb1.mono B0.size)
    replace r_funs := r_funs.below ClosureC_keeps hb1 (Nat.le_trans hh B0.size)
    replace n_r_funs := n_r_funs.below ClosureC_keeps hb1 (Nat.le_trans hh' B0.size)
    replace r_frames := r_frames.below FrameC_keeps hb1 (Nat.le_trans hh B0.size)
    replace n_r_frames := n_r_frames.below FrameC_keeps hb1 (Nat.le_trans hh' B0.size)
    replace r_out := r_out.below StrC_keeps hb1 (Nat.le_trans hh B0.size)
    replace n_r_out := n_r_out.below StrC_keeps hb1 (Nat.le_trans hh' B0.size)
    have hi1 : hi ≤ w1.heap.size := by have := B1.size; omega
    have hi1' : hi' ≤ w1.heap.size := by have := B1.size; omega
    clear hb1 hHx hHy
    by_cases t0 : x.funs.length = y.funs.length
    · skip
      by_cases t1 : x.frames.length = y.frames.length
      · skip
        by_cases t2 : x.out.length = y.out.length
        · skip
          by_cases t3 : x.steps = y.steps
          · skip
            by_cases t4 : x.kind = y.kind
            · skip
              by_cases t5 : x.value.k = y.value.k
              · skip
                by_cases t6 : x.value.n = y.value.n
                · skip
                  by_cases t7 : x.value.s = y.value.s
                  · skip
                    go_wp2_with fail
                    have T0 : Hid (x.funs.length = y.funs.length) := t0
                    have T1 : Hid (x.frames.length = y.frames.length) := t1
                    have T2 : Hid (x.out.length = y.out.length) := t2
                    have T3 : Hid (x.steps = y.steps) := t3
                    have T4 : Hid (x.kind = y.kind) := t4
                    have T5 : Hid (x.value.k = y.value.k) := t5
                    have T6 : Hid (x.value.n = y.value.n) := t6
                    have T7 : Hid (x.value.s = y.value.s) := t7
                    clear t0 t1 t2 t3 t4 t5 t6 t7
                    go_loopw [5] (fun z wr => ∃ i m : Nat, z = .int .i64 i ∧ i ≤ x.funs.length ∧ wr = w1.drewN m ∧ ∀ j (_ : j < i) (h1 : j < x.funs.length) (h2 : j < y.funs.length), x.funs[j] = y.funs[j]) (fun z _ => x.funs.length - (intOf z).toNat)
                    case atStart => exact ⟨0, 0, rfl, Nat.zero_le _, (World.drewN_zero _).symm, fun j h => absurd h (Nat.not_lt_zero _)⟩
                    case round =>
                      rename World => wo
                      obtain ⟨i, m, rfl, hil, rfl, hall⟩ := hrel
                      by_cases hlt : i < x.funs.length
                      · have hlt2 : i < y.funs.length := by have := T0.out; omega
                        obtain ⟨g, o, cx, hax, _, hg, hCx, _, hc⟩ := r_funs i hlt
                        obtain ⟨g', o', cy, hay, _, hg', hCy, _, hc'⟩ := n_r_funs i hlt2
                        obtain ⟨e_ok, e_a_ups, e_c_ups, rfl, e_l_ups, e_r_ups⟩ := hCx
                        obtain ⟨d_ok, d_a_ups, d_c_ups, rfl, d_l_ups, d_r_ups⟩ := hCy
                        have x0 := hc 0 (by decide)
                        have y0 := hc' 0 (by decide)
                        have x1 := hc 1 (by decide)
                        have y1 := hc' 1 (by decide)
                        simp only [List.getElem?_cons_zero, List.getElem?_cons_succ, Nat.add_zero] at x0 y0 x1 y1
                        have mc : i * 2 = 2 * i := Nat.mul_comm _ _
                        have HNX : Hid (¬ x.funs[i] = y.funs[i] → V = false) := fun h => vno hV fun e => ne_rows hlt hlt2 h (by rw [e])
                        have HY : Hid (x.funs[i] = y.funs[i] → ∀ j (_ : j < i + 1) (h1 : j < x.funs.length) (h2 : j < y.funs.length), x.funs[j] = y.funs[j]) := fun h j hj h1 h2 => by
                          by_cases e : j = i
                          · subst e; exact h
                          · exact hall j (by omega) h1 h2
                        clear hc hc' hall hV
                        subst hax hay
                        clear r_funs n_r_funs r_frames n_r_frames r_out n_r_out
                        generalize x.funs[i] = c at *
                        generalize y.funs[i] = d at *
                        by_cases hp : c.proto = d.proto
                        · by_cases hu : c.ups = d.ups
                          · have HU : Hid (c.ups = d.ups) := hu
                            have HYY : Hid (∀ j (_ : j < i + 1) (h1 : j < x.funs.length) (h2 : j < y.funs.length), x.funs[j] = y.funs[j]) := HY.out (clo_impl_ext c d hp hu)
                            clear hu HY HNX
                            have hq : ∀ q, Calls Try.prog 35 #[.slice e_a_ups c.ups.length e_c_ups, .slice d_a_ups d.ups.length d_c_ups] (w1.drewN (m + q)) fun e w' => e = .returned (.bool true) ∧ ∃ n, w' = w1.drewN (m + n) := fun q => (sint_spec c.ups d.ups e_a_ups d_a_ups e_c_ups d_c_ups lo hi lo' hi' true ⟨fun _ => HU.out, fun _ => rfl⟩ (w1.drewN (m + q)) e_l_ups (RowAt.later IntC_keeps (Nat.le_refl _) (Nat.le_refl _) (fun _ _ _ => rfl) e_r_ups) (RowAt.later IntC_keeps (Nat.le_refl _) (Nat.le_refl _) (fun _ _ _ => rfl) d_r_ups)).mono fun e w' ⟨he, k, hm⟩ => ⟨he, q + k, by rw [hm, World.drewN_drewN, Nat.add_assoc]⟩
                            go_wp2_with fail
                            go_quiet (first | (go_at_call 35; with_reducible refine hq _))
                            go_wp2_with fail
                            go_roundw
                            case rel => exact ⟨i + 1, _, by go_num, by omega, by first | rfl | exact World.drewN_drewN _ _ _, HYY.out⟩
                            case measure => simp [intOf]; omega
                          · have HU : Hid (¬ c.ups = d.ups) := hu
                            have hv : V = false := HNX.out fun e => hu (by rw [e])
                            clear hu HY HNX
                            subst hv
                            have hq : ∀ q, Calls Try.prog 35 #[.slice e_a_ups c.ups.length e_c_ups, .slice d_a_ups d.ups.length d_c_ups] (w1.drewN (m + q)) fun e w' => e = .returned (.bool false) ∧ ∃ n, w' = w1.drewN (m + n) := fun q => (sint_spec c.ups d.ups e_a_ups d_a_ups e_c_ups d_c_ups lo hi lo' hi' false ⟨fun h => absurd h (by decide), fun h => absurd h HU.out⟩ (w1.drewN (m + q)) e_l_ups (RowAt.later IntC_keeps (Nat.le_refl _) (Nat.le_refl _) (fun _ _ _ => rfl) e_r_ups) (RowAt.later IntC_keeps (Nat.le_refl _) (Nat.le_refl _) (fun _ _ _ => rfl) d_r_ups)).mono fun e w' ⟨he, k, hm⟩ => ⟨he, q + k, by rw [hm, World.drewN_drewN, Nat.add_assoc]⟩
                            go_wp2_with fail
                            go_quiet (first | (go_at_call 35; with_reducible refine hq _))
                            go_wp2_with fail
                            go_ret
                            exact ⟨rfl, by repeat (first | (with_reducible exact B1) | (with_reducible refine below_drewN' ?_))⟩
                        · have hv : V = false := HNX.out fun e => hp (by rw [e])
                          clear HY HNX
                          subst hv
                          go_wp2_with fail
                          go_quiet (fail)
                          go_wp2_with fail
                          go_ret
                          exact ⟨rfl, by repeat (first | (with_reducible exact B1) | (with_reducible refine below_drewN' ?_))⟩
                      · obtain rfl : i = x.funs.length := by omega
                        have E1 : Hid (x.funs = y.funs) := ext_rows T0.out fun j h1 h2 => hall j h1 h1 h2
                        clear hall r_funs n_r_funs
                        go_wp2_with fail
                        go_loopw [6] (fun z wr => ∃ i : Nat, z = .int .i64 i ∧ i ≤ x.frames.length ∧ Below w1.heap.size w1 wr ∧ ∀ j (_ : j < i) (h1 : j < x.frames.length) (h2 : j < y.frames.length), x.frames[j] = y.frames[j]) (fun z _ => x.frames.length - (intOf z).toNat)
                        case atStart => exact ⟨0, rfl, Nat.zero_le _, below_drewN' (Below.refl _ _), fun j h => absurd h (Nat.not_lt_zero _)⟩
                        case round =>
                          rename World => wp
                          obtain ⟨i, rfl, hil, hbl, hall⟩ := hrel
                          have hzp := hbl.size
                          replace p0 := (hbl.cell (p := ⟨w.heap.size, 0, none⟩) (by show w.heap.size < _; omega)).trans p0
                          replace yv0 := (hbl.cell (p := ⟨w.heap.size + 1, 0, none⟩) (by show w.heap.size + 1 < _; omega)).trans yv0
                          replace p1 := (hbl.cell (p := ⟨w.heap.size, 1, none⟩) (by show w.heap.size < _; omega)).trans p1
                          replace yv1 := (hbl.cell (p := ⟨w.heap.size + 1, 1, none⟩) (by show w.heap.size + 1 < _; omega)).trans yv1
                          replace p2 := (hbl.cell (p := ⟨w.heap.size, 2, none⟩) (by show w.heap.size < _; omega)).trans p2
                          replace yv2 := (hbl.cell (p := ⟨w.heap.size + 1, 2, none⟩) (by show w.heap.size + 1 < _; omega)).trans yv2
                          replace p3 := (hbl.cell (p := ⟨w.heap.size, 3, none⟩) (by show w.heap.size < _; omega)).trans p3
                          replace yv3 := (hbl.cell (p := ⟨w.heap.size + 1, 3, none⟩) (by show w.heap.size + 1 < _; omega)).trans yv3
                          replace p4 := (hbl.cell (p := ⟨w.heap.size, 4, none⟩) (by show w.heap.size < _; omega)).trans p4
                          replace yv4 := (hbl.cell (p := ⟨w.heap.size + 1, 4, none⟩) (by show w.heap.size + 1 < _; omega)).trans yv4
                          replace p5 := (hbl.cell (p := ⟨w.heap.size, 5, none⟩) (by show w.heap.size < _; omega)).trans p5
                          replace yv5 := (hbl.cell (p := ⟨w.heap.size + 1, 5, none⟩) (by show w.heap.size + 1 < _; omega)).trans yv5
                          replace p6 := (hbl.cell (p := ⟨w.heap.size, 6, none⟩) (by show w.heap.size < _; omega)).trans p6
                          replace yv6 := (hbl.cell (p := ⟨w.heap.size + 1, 6, none⟩) (by show w.heap.size + 1 < _; omega)).trans yv6
                          replace p7 := (hbl.cell (p := ⟨w.heap.size, 7, none⟩) (by show w.heap.size < _; omega)).trans p7
                          replace yv7 := (hbl.cell (p := ⟨w.heap.size + 1, 7, none⟩) (by show w.heap.size + 1 < _; omega)).trans yv7
                          replace p8 := (hbl.cell (p := ⟨w.heap.size, 8, none⟩) (by show w.heap.size < _; omega)).trans p8
                          replace yv8 := (hbl.cell (p := ⟨w.heap.size + 1, 8, none⟩) (by show w.heap.size + 1 < _; omega)).trans yv8
                          replace p9 := (hbl.cell (p := ⟨w.heap.size, 9, none⟩) (by show w.heap.size < _; omega)).trans p9
                          replace yv9 := (hbl.cell (p := ⟨w.heap.size + 1, 9, none⟩) (by show w.heap.size + 1 < _; omega)).trans yv9
                          by_cases hlt : i < x.frames.length
                          · have hlt2 : i < y.frames.length := by have := T1.out; omega
                            have r_frames := r_frames.below FrameC_keeps hbl hi1
                            have n_r_frames := n_r_frames.below FrameC_keeps hbl hi1'
                            obtain ⟨g, o, cx, hax, _, hg, hCx, _, hc⟩ := r_frames i hlt
                            obtain ⟨g', o', cy, hay, _, hg', hCy, _, hc'⟩ := n_r_frames i hlt2
                            obtain ⟨e_ok, e_a_slots, e_c_slots, e_a_ups, e_c_ups, e_a_stack, e_c_stack, rfl, e_l_slots, e_r_slots, e_l_ups, e_r_ups, e_l_stack, e_r_stack⟩ := hCx
                            obtain ⟨d_ok, d_a_slots, d_c_slots, d_a_ups, d_c_ups, d_a_stack, d_c_stack, rfl, d_l_slots, d_r_slots, d_l_ups, d_r_ups, d_l_stack, d_r_stack⟩ := hCy
                            have x0 := hc 0 (by decide)
                            have y0 := hc' 0 (by decide)
                            have x1 := hc 1 (by decide)
                            have y1 := hc' 1 (by decide)
                            have x2 := hc 2 (by decide)
                            have y2 := hc' 2 (by decide)
                            have x3 := hc 3 (by decide)
                            have y3 := hc' 3 (by decide)
                            have x4 := hc 4 (by decide)
                            have y4 := hc' 4 (by decide)
                            have x5 := hc 5 (by decide)
                            have y5 := hc' 5 (by decide)
                            simp only [List.getElem?_cons_zero, List.getElem?_cons_succ, Nat.add_zero] at x0 y0 x1 y1 x2 y2 x3 y3 x4 y4 x5 y5
                            have mc : i * 6 = 6 * i := Nat.mul_comm _ _
                            have HNX : Hid (¬ x.frames[i] = y.frames[i] → V = false) := fun h => vno hV fun e => ne_rows hlt hlt2 h (by rw [e])
                            have HY : Hid (x.frames[i] = y.frames[i] → ∀ j (_ : j < i + 1) (h1 : j < x.frames.length) (h2 : j < y.frames.length), x.frames[j] = y.frames[j]) := fun h j hj h1 h2 => by
                              by_cases e : j = i
                              · subst e; exact h
                              · exact hall j (by omega) h1 h2
                            clear hc hc' hall hV
                            subst hax hay
                            clear r_frames n_r_frames r_out n_r_out
                            generalize x.frames[i] = f at *
                            generalize y.frames[i] = k at *
                            have HBL : Hid (Below w1.heap.size w1 wp) := hbl
                            have hgp : g < wp.heap.size := by omega
                            have hgp' : g' < wp.heap.size := by omega
                            clear hbl
                            have hwp : w.heap.size < wp.heap.size := by omega
                            have hwp' : w.heap.size + 1 < wp.heap.size := by omega
                            have hk : ∀ (A : Obj) (p : Addr), p.block < wp.heap.size → (wp.alloc A).cell? p = wp.cell? p := fun A p hp => (bel_alloc wp A).cell hp
                            have hk2 : ∀ (A B : Obj) (p : Addr), p.block < wp.heap.size → ((wp.alloc A).alloc B).cell? p = wp.cell? p := fun A B p hp => (rows2' wp A B).2.2.2.cell hp
                            have za_p3 : ∀ A : Obj, (wp.alloc A).cell? ⟨w.heap.size, 3, none⟩ = _ := fun A => (hk A ⟨w.heap.size, 3, none⟩ hwp).trans p3
                            have zb_p3 : ∀ A B : Obj, ((wp.alloc A).alloc B).cell? ⟨w.heap.size, 3, none⟩ = _ := fun A B => (hk2 A B ⟨w.heap.size, 3, none⟩ hwp).trans p3
                            have za_yv3 : ∀ A : Obj, (wp.alloc A).cell? ⟨w.heap.size + 1, 3, none⟩ = _ := fun A => (hk A ⟨w.heap.size + 1, 3, none⟩ hwp').trans yv3
                            have zb_yv3 : ∀ A B : Obj, ((wp.alloc A).alloc B).cell? ⟨w.heap.size + 1, 3, none⟩ = _ := fun A B => (hk2 A B ⟨w.heap.size + 1, 3, none⟩ hwp').trans yv3
                            have za_x0 : ∀ A : Obj, (wp.alloc A).cell? ⟨g, o + 6 * i, none⟩ = _ := fun A => (hk A ⟨g, o + 6 * i, none⟩ hgp).trans x0
                            have zb_x0 : ∀ A B : Obj, ((wp.alloc A).alloc B).cell? ⟨g, o + 6 * i, none⟩ = _ := fun A B => (hk2 A B ⟨g, o + 6 * i, none⟩ hgp).trans x0
                            have za_x1 : ∀ A : Obj, (wp.alloc A).cell? ⟨g, o + 6 * i + 1, none⟩ = _ := fun A => (hk A ⟨g, o + 6 * i + 1, none⟩ hgp).trans x1
                            have zb_x1 : ∀ A B : Obj, ((wp.alloc A).alloc B).cell? ⟨g, o + 6 * i + 1, none⟩ = _ := fun A B => (hk2 A B ⟨g, o + 6 * i + 1, none⟩ hgp).trans x1
                            have za_x2 : ∀ A : Obj, (wp.alloc A).cell? ⟨g, o + 6 * i + 2, none⟩ = _ := fun A => (hk A ⟨g, o + 6 * i + 2, none⟩ hgp).trans x2
                            have zb_x2 : ∀ A B : Obj, ((wp.alloc A).alloc B).cell? ⟨g, o + 6 * i + 2, none⟩ = _ := fun A B => (hk2 A B ⟨g, o + 6 * i + 2, none⟩ hgp).trans x2
                            have za_x3 : ∀ A : Obj, (wp.alloc A).cell? ⟨g, o + 6 * i + 3, none⟩ = _ := fun A => (hk A ⟨g, o + 6 * i + 3, none⟩ hgp).trans x3
                            have zb_x3 : ∀ A B : Obj, ((wp.alloc A).alloc B).cell? ⟨g, o + 6 * i + 3, none⟩ = _ := fun A B => (hk2 A B ⟨g, o + 6 * i + 3, none⟩ hgp).trans x3
                            have za_x4 : ∀ A : Obj, (wp.alloc A).cell? ⟨g, o + 6 * i + 4, none⟩ = _ := fun A => (hk A ⟨g, o + 6 * i + 4, none⟩ hgp).trans x4
                            have zb_x4 : ∀ A B : Obj, ((wp.alloc A).alloc B).cell? ⟨g, o + 6 * i + 4, none⟩ = _ := fun A B => (hk2 A B ⟨g, o + 6 * i + 4, none⟩ hgp).trans x4
                            have za_x5 : ∀ A : Obj, (wp.alloc A).cell? ⟨g, o + 6 * i + 5, none⟩ = _ := fun A => (hk A ⟨g, o + 6 * i + 5, none⟩ hgp).trans x5
                            have zb_x5 : ∀ A B : Obj, ((wp.alloc A).alloc B).cell? ⟨g, o + 6 * i + 5, none⟩ = _ := fun A B => (hk2 A B ⟨g, o + 6 * i + 5, none⟩ hgp).trans x5
                            have za_y0 : ∀ A : Obj, (wp.alloc A).cell? ⟨g', o' + 6 * i, none⟩ = _ := fun A => (hk A ⟨g', o' + 6 * i, none⟩ hgp').trans y0
                            have zb_y0 : ∀ A B : Obj, ((wp.alloc A).alloc B).cell? ⟨g', o' + 6 * i, none⟩ = _ := fun A B => (hk2 A B ⟨g', o' + 6 * i, none⟩ hgp').trans y0
                            have za_y1 : ∀ A : Obj, (wp.alloc A).cell? ⟨g', o' + 6 * i + 1, none⟩ = _ := fun A => (hk A ⟨g', o' + 6 * i + 1, none⟩ hgp').trans y1
                            have zb_y1 : ∀ A B : Obj, ((wp.alloc A).alloc B).cell? ⟨g', o' + 6 * i + 1, none⟩ = _ := fun A B => (hk2 A B ⟨g', o' + 6 * i + 1, none⟩ hgp').trans y1
                            have za_y2 : ∀ A : Obj, (wp.alloc A).cell? ⟨g', o' + 6 * i + 2, none⟩ = _ := fun A => (hk A ⟨g', o' + 6 * i + 2, none⟩ hgp').trans y2
                            have zb_y2 : ∀ A B : Obj, ((wp.alloc A).alloc B).cell? ⟨g', o' + 6 * i + 2, none⟩ = _ := fun A B => (hk2 A B ⟨g', o' + 6 * i + 2, none⟩ hgp').trans y2
                            have za_y3 : ∀ A : Obj, (wp.alloc A).cell? ⟨g', o' + 6 * i + 3, none⟩ = _ := fun A => (hk A ⟨g', o' + 6 * i + 3, none⟩ hgp').trans y3
                            have zb_y3 : ∀ A B : Obj, ((wp.alloc A).alloc B).cell? ⟨g', o' + 6 * i + 3, none⟩ = _ := fun A B => (hk2 A B ⟨g', o' + 6 * i + 3, none⟩ hgp').trans y3
                            have za_y4 : ∀ A : Obj, (wp.alloc A).cell? ⟨g', o' + 6 * i + 4, none⟩ = _ := fun A => (hk A ⟨g', o' + 6 * i + 4, none⟩ hgp').trans y4
                            have zb_y4 : ∀ A B : Obj, ((wp.alloc A).alloc B).cell? ⟨g', o' + 6 * i + 4, none⟩ = _ := fun A B => (hk2 A B ⟨g', o' + 6 * i + 4, none⟩ hgp').trans y4
                            have za_y5 : ∀ A : Obj, (wp.alloc A).cell? ⟨g', o' + 6 * i + 5, none⟩ = _ := fun A => (hk A ⟨g', o' + 6 * i + 5, none⟩ hgp').trans y5
                            have zb_y5 : ∀ A B : Obj, ((wp.alloc A).alloc B).cell? ⟨g', o' + 6 * i + 5, none⟩ = _ := fun A B => (hk2 A B ⟨g', o' + 6 * i + 5, none⟩ hgp').trans y5
                            clear hk hk2
                            have hip : hi ≤ wp.heap.size := by omega
                            have hip' : hi' ≤ wp.heap.size := by omega
                            go_wp2_with fail
                            go_region
                            all_goals
                              by_cases g0 : f.proto = k.proto
                              · have G0 : Hid (f.proto = k.proto) := g0
                                by_cases g1 : f.pc = k.pc
                                · have G1 : Hid (f.pc = k.pc) := g1
                                  by_cases g2 : f.slots = k.slots
                                  · have G2 : Hid (f.slots = k.slots) := g2
                                    clear g2
                                    by_cases g3 : f.ups = k.ups
                                    · have G3 : Hid (f.ups = k.ups) := g3
                                      clear g3
                                      by_cases g4 : f.stack = k.stack
                                      · have G4 : Hid (f.stack = k.stack) := g4
                                        clear g4
                                        by_cases g5 : f.guard = k.guard
                                        · have G5 : Hid (f.guard = k.guard) := g5
                                          have HYY : Hid (∀ j (_ : j < i + 1) (h1 : j < x.frames.length) (h2 : j < y.frames.length), x.frames[j] = y.frames[j]) := HY.out (fra_impl_ext f k G0.out G1.out G5.out G2.out G3.out G4.out)
                                          clear HY HNX
                                          go_wp2_with fail
                                          refine (sint_spec f.slots k.slots e_a_slots d_a_slots e_c_slots d_c_slots lo hi lo' hi' true ⟨fun _ => G2.out, fun _ => rfl⟩ _ e_l_slots (e_r_slots.below IntC_keeps (by repeat (first | (with_reducible exact Below.refl _ _) | (with_reducible refine below_drewN' ?_) | (with_reducible refine Below.drew ?_) | (with_reducible refine Below.setCell ?_ (by first | (simp; done) | (simp; omega) | omega) _) | (with_reducible refine Below.alloc ?_ (by first | (simp; done) | (simp; omega) | omega) _))) hip) (d_r_slots.below IntC_keeps (by repeat (first | (with_reducible exact Below.refl _ _) | (with_reducible refine below_drewN' ?_) | (with_reducible refine Below.drew ?_) | (with_reducible refine Below.setCell ?_ (by first | (simp; done) | (simp; omega) | omega) _) | (with_reducible refine Below.alloc ?_ (by first | (simp; done) | (simp; omega) | omega) _))) hip')).mono ?_
                                          rintro e wq1 ⟨rfl, mq1, rfl⟩
                                          go_wp2_with fail
                                          refine (sint_spec f.ups k.ups e_a_ups d_a_ups e_c_ups d_c_ups lo hi lo' hi' true ⟨fun _ => G3.out, fun _ => rfl⟩ _ e_l_ups (e_r_ups.below IntC_keeps (by repeat (first | (with_reducible exact Below.refl _ _) | (with_reducible refine below_drewN' ?_) | (with_reducible refine Below.drew ?_) | (with_reducible refine Below.setCell ?_ (by first | (simp; done) | (simp; omega) | omega) _) | (with_reducible refine Below.alloc ?_ (by first | (simp; done) | (simp; omega) | omega) _))) hip) (d_r_ups.below IntC_keeps (by repeat (first | (with_reducible exact Below.refl _ _) | (with_reducible refine below_drewN' ?_) | (with_reducible refine Below.drew ?_) | (with_reducible refine Below.setCell ?_ (by first | (simp; done) | (simp; omega) | omega) _) | (with_reducible refine Below.alloc ?_ (by first | (simp; done) | (simp; omega) | omega) _))) hip')).mono ?_
                                          rintro e wq2 ⟨rfl, mq2, rfl⟩
                                          go_wp2_with fail
                                          refine (sval_spec f.stack k.stack e_a_stack d_a_stack e_c_stack d_c_stack lo hi lo' hi' true ⟨fun _ => G4.out, fun _ => rfl⟩ _ e_l_stack (e_r_stack.below ValC_keeps (by repeat (first | (with_reducible exact Below.refl _ _) | (with_reducible refine below_drewN' ?_) | (with_reducible refine Below.drew ?_) | (with_reducible refine Below.setCell ?_ (by first | (simp; done) | (simp; omega) | omega) _) | (with_reducible refine Below.alloc ?_ (by first | (simp; done) | (simp; omega) | omega) _))) hip) (d_r_stack.below ValC_keeps (by repeat (first | (with_reducible exact Below.refl _ _) | (with_reducible refine below_drewN' ?_) | (with_reducible refine Below.drew ?_) | (with_reducible refine Below.setCell ?_ (by first | (simp; done) | (simp; omega) | omega) _) | (with_reducible refine Below.alloc ?_ (by first | (simp; done) | (simp; omega) | omega) _))) hip')).mono ?_
                                          rintro e wq3 ⟨rfl, mq3, rfl⟩
                                          go_wp2_with fail
                                          go_roundw
                                          case rel => exact ⟨i + 1, by go_num, by omega, HBL.out.trans (Below.mono (show Below wp.heap.size wp _ from by repeat (first | (with_reducible exact Below.refl _ _) | (with_reducible refine below_drewN' ?_) | (with_reducible refine Below.drew ?_) | (with_reducible refine Below.setCell ?_ (by first | (simp; done) | (simp; omega) | omega) _) | (with_reducible refine Below.alloc ?_ (by first | (simp; done) | (simp; omega) | omega) _))) hzp), HYY.out⟩
                                          case measure => simp [intOf]; omega
                                        · have hv : V = false := HNX.out fun e => g5 (by rw [e])
                                          have G5 : Hid (¬ f.guard = k.guard) := g5
                                          clear HY HNX
                                          subst hv
                                          by_cases hbf : f.guard = true
                                          · have hbk : k.guard = false := by
                                              cases h : k.guard
                                              · rfl
                                              · exact absurd (hbf.trans h.symm) G5.out
                                            clear g5
                                            go_wp2_with fail
                                            refine (sint_spec f.slots k.slots e_a_slots d_a_slots e_c_slots d_c_slots lo hi lo' hi' true ⟨fun _ => G2.out, fun _ => rfl⟩ _ e_l_slots (e_r_slots.below IntC_keeps (by repeat (first | (with_reducible exact Below.refl _ _) | (with_reducible refine below_drewN' ?_) | (with_reducible refine Below.drew ?_) | (with_reducible refine Below.setCell ?_ (by first | (simp; done) | (simp; omega) | omega) _) | (with_reducible refine Below.alloc ?_ (by first | (simp; done) | (simp; omega) | omega) _))) hip) (d_r_slots.below IntC_keeps (by repeat (first | (with_reducible exact Below.refl _ _) | (with_reducible refine below_drewN' ?_) | (with_reducible refine Below.drew ?_) | (with_reducible refine Below.setCell ?_ (by first | (simp; done) | (simp; omega) | omega) _) | (with_reducible refine Below.alloc ?_ (by first | (simp; done) | (simp; omega) | omega) _))) hip')).mono ?_
                                            rintro e wq1 ⟨rfl, mq1, rfl⟩
                                            go_wp2_with fail
                                            refine (sint_spec f.ups k.ups e_a_ups d_a_ups e_c_ups d_c_ups lo hi lo' hi' true ⟨fun _ => G3.out, fun _ => rfl⟩ _ e_l_ups (e_r_ups.below IntC_keeps (by repeat (first | (with_reducible exact Below.refl _ _) | (with_reducible refine below_drewN' ?_) | (with_reducible refine Below.drew ?_) | (with_reducible refine Below.setCell ?_ (by first | (simp; done) | (simp; omega) | omega) _) | (with_reducible refine Below.alloc ?_ (by first | (simp; done) | (simp; omega) | omega) _))) hip) (d_r_ups.below IntC_keeps (by repeat (first | (with_reducible exact Below.refl _ _) | (with_reducible refine below_drewN' ?_) | (with_reducible refine Below.drew ?_) | (with_reducible refine Below.setCell ?_ (by first | (simp; done) | (simp; omega) | omega) _) | (with_reducible refine Below.alloc ?_ (by first | (simp; done) | (simp; omega) | omega) _))) hip')).mono ?_
                                            rintro e wq2 ⟨rfl, mq2, rfl⟩
                                            go_wp2_with fail
                                            refine (sval_spec f.stack k.stack e_a_stack d_a_stack e_c_stack d_c_stack lo hi lo' hi' true ⟨fun _ => G4.out, fun _ => rfl⟩ _ e_l_stack (e_r_stack.below ValC_keeps (by repeat (first | (with_reducible exact Below.refl _ _) | (with_reducible refine below_drewN' ?_) | (with_reducible refine Below.drew ?_) | (with_reducible refine Below.setCell ?_ (by first | (simp; done) | (simp; omega) | omega) _) | (with_reducible refine Below.alloc ?_ (by first | (simp; done) | (simp; omega) | omega) _))) hip) (d_r_stack.below ValC_keeps (by repeat (first | (with_reducible exact Below.refl _ _) | (with_reducible refine below_drewN' ?_) | (with_reducible refine Below.drew ?_) | (with_reducible refine Below.setCell ?_ (by first | (simp; done) | (simp; omega) | omega) _) | (with_reducible refine Below.alloc ?_ (by first | (simp; done) | (simp; omega) | omega) _))) hip')).mono ?_
                                            rintro e wq3 ⟨rfl, mq3, rfl⟩
                                            go_wp2_with fail
                                            go_ret
                                            exact ⟨rfl, B1.trans ((HBL.out.trans (Below.mono (show Below wp.heap.size wp _ from by repeat (first | (with_reducible exact Below.refl _ _) | (with_reducible refine below_drewN' ?_) | (with_reducible refine Below.drew ?_) | (with_reducible refine Below.setCell ?_ (by first | (simp; done) | (simp; omega) | omega) _) | (with_reducible refine Below.alloc ?_ (by first | (simp; done) | (simp; omega) | omega) _))) hzp)).mono B1.size)⟩
                                          · have hbf' : f.guard = false := by simpa using hbf
                                            have hbk : k.guard = true := by
                                              cases h : k.guard
                                              · exact absurd (hbf'.trans h.symm) G5.out
                                              · rfl
                                            clear g5 hbf
                                            go_wp2_with fail
                                            refine (sint_spec f.slots k.slots e_a_slots d_a_slots e_c_slots d_c_slots lo hi lo' hi' true ⟨fun _ => G2.out, fun _ => rfl⟩ _ e_l_slots (e_r_slots.below IntC_keeps (by repeat (first | (with_reducible exact Below.refl _ _) | (with_reducible refine below_drewN' ?_) | (with_reducible refine Below.drew ?_) | (with_reducible refine Below.setCell ?_ (by first | (simp; done) | (simp; omega) | omega) _) | (with_reducible refine Below.alloc ?_ (by first | (simp; done) | (simp; omega) | omega) _))) hip) (d_r_slots.below IntC_keeps (by repeat (first | (with_reducible exact Below.refl _ _) | (with_reducible refine below_drewN' ?_) | (with_reducible refine Below.drew ?_) | (with_reducible refine Below.setCell ?_ (by first | (simp; done) | (simp; omega) | omega) _) | (with_reducible refine Below.alloc ?_ (by first | (simp; done) | (simp; omega) | omega) _))) hip')).mono ?_
                                            rintro e wq1 ⟨rfl, mq1, rfl⟩
                                            go_wp2_with fail
                                            refine (sint_spec f.ups k.ups e_a_ups d_a_ups e_c_ups d_c_ups lo hi lo' hi' true ⟨fun _ => G3.out, fun _ => rfl⟩ _ e_l_ups (e_r_ups.below IntC_keeps (by repeat (first | (with_reducible exact Below.refl _ _) | (with_reducible refine below_drewN' ?_) | (with_reducible refine Below.drew ?_) | (with_reducible refine Below.setCell ?_ (by first | (simp; done) | (simp; omega) | omega) _) | (with_reducible refine Below.alloc ?_ (by first | (simp; done) | (simp; omega) | omega) _))) hip) (d_r_ups.below IntC_keeps (by repeat (first | (with_reducible exact Below.refl _ _) | (with_reducible refine below_drewN' ?_) | (with_reducible refine Below.drew ?_) | (with_reducible refine Below.setCell ?_ (by first | (simp; done) | (simp; omega) | omega) _) | (with_reducible refine Below.alloc ?_ (by first | (simp; done) | (simp; omega) | omega) _))) hip')).mono ?_
                                            rintro e wq2 ⟨rfl, mq2, rfl⟩
                                            go_wp2_with fail
                                            refine (sval_spec f.stack k.stack e_a_stack d_a_stack e_c_stack d_c_stack lo hi lo' hi' true ⟨fun _ => G4.out, fun _ => rfl⟩ _ e_l_stack (e_r_stack.below ValC_keeps (by repeat (first | (with_reducible exact Below.refl _ _) | (with_reducible refine below_drewN' ?_) | (with_reducible refine Below.drew ?_) | (with_reducible refine Below.setCell ?_ (by first | (simp; done) | (simp; omega) | omega) _) | (with_reducible refine Below.alloc ?_ (by first | (simp; done) | (simp; omega) | omega) _))) hip) (d_r_stack.below ValC_keeps (by repeat (first | (with_reducible exact Below.refl _ _) | (with_reducible refine below_drewN' ?_) | (with_reducible refine Below.drew ?_) | (with_reducible refine Below.setCell ?_ (by first | (simp; done) | (simp; omega) | omega) _) | (with_reducible refine Below.alloc ?_ (by first | (simp; done) | (simp; omega) | omega) _))) hip')).mono ?_
                                            rintro e wq3 ⟨rfl, mq3, rfl⟩
                                            go_wp2_with fail
                                            go_ret
                                            exact ⟨rfl, B1.trans ((HBL.out.trans (Below.mono (show Below wp.heap.size wp _ from by repeat (first | (with_reducible exact Below.refl _ _) | (with_reducible refine below_drewN' ?_) | (with_reducible refine Below.drew ?_) | (with_reducible refine Below.setCell ?_ (by first | (simp; done) | (simp; omega) | omega) _) | (with_reducible refine Below.alloc ?_ (by first | (simp; done) | (simp; omega) | omega) _))) hzp)).mono B1.size)⟩
                                      · have hv : V = false := HNX.out fun e => g4 (by rw [e])
                                        have G4 : Hid (¬ f.stack = k.stack) := g4
                                        clear HY HNX g4
                                        subst hv
                                        go_wp2_with fail
                                        refine (sint_spec f.slots k.slots e_a_slots d_a_slots e_c_slots d_c_slots lo hi lo' hi' true ⟨fun _ => G2.out, fun _ => rfl⟩ _ e_l_slots (e_r_slots.below IntC_keeps (by repeat (first | (with_reducible exact Below.refl _ _) | (with_reducible refine below_drewN' ?_) | (with_reducible refine Below.drew ?_) | (with_reducible refine Below.setCell ?_ (by first | (simp; done) | (simp; omega) | omega) _) | (with_reducible refine Below.alloc ?_ (by first | (simp; done) | (simp; omega) | omega) _))) hip) (d_r_slots.below IntC_keeps (by repeat (first | (with_reducible exact Below.refl _ _) | (with_reducible refine below_drewN' ?_) | (with_reducible refine Below.drew ?_) | (with_reducible refine Below.setCell ?_ (by first | (simp; done) | (simp; omega) | omega) _) | (with_reducible refine Below.alloc ?_ (by first | (simp; done) | (simp; omega) | omega) _))) hip')).mono ?_
                                        rintro e wq1 ⟨rfl, mq1, rfl⟩
                                        go_wp2_with fail
                                        refine (sint_spec f.ups k.ups e_a_ups d_a_ups e_c_ups d_c_ups lo hi lo' hi' true ⟨fun _ => G3.out, fun _ => rfl⟩ _ e_l_ups (e_r_ups.below IntC_keeps (by repeat (first | (with_reducible exact Below.refl _ _) | (with_reducible refine below_drewN' ?_) | (with_reducible refine Below.drew ?_) | (with_reducible refine Below.setCell ?_ (by first | (simp; done) | (simp; omega) | omega) _) | (with_reducible refine Below.alloc ?_ (by first | (simp; done) | (simp; omega) | omega) _))) hip) (d_r_ups.below IntC_keeps (by repeat (first | (with_reducible exact Below.refl _ _) | (with_reducible refine below_drewN' ?_) | (with_reducible refine Below.drew ?_) | (with_reducible refine Below.setCell ?_ (by first | (simp; done) | (simp; omega) | omega) _) | (with_reducible refine Below.alloc ?_ (by first | (simp; done) | (simp; omega) | omega) _))) hip')).mono ?_
                                        rintro e wq2 ⟨rfl, mq2, rfl⟩
                                        go_wp2_with fail
                                        refine (sval_spec f.stack k.stack e_a_stack d_a_stack e_c_stack d_c_stack lo hi lo' hi' false ⟨fun h => absurd h (by decide), fun h => absurd h G4.out⟩ _ e_l_stack (e_r_stack.below ValC_keeps (by repeat (first | (with_reducible exact Below.refl _ _) | (with_reducible refine below_drewN' ?_) | (with_reducible refine Below.drew ?_) | (with_reducible refine Below.setCell ?_ (by first | (simp; done) | (simp; omega) | omega) _) | (with_reducible refine Below.alloc ?_ (by first | (simp; done) | (simp; omega) | omega) _))) hip) (d_r_stack.below ValC_keeps (by repeat (first | (with_reducible exact Below.refl _ _) | (with_reducible refine below_drewN' ?_) | (with_reducible refine Below.drew ?_) | (with_reducible refine Below.setCell ?_ (by first | (simp; done) | (simp; omega) | omega) _) | (with_reducible refine Below.alloc ?_ (by first | (simp; done) | (simp; omega) | omega) _))) hip')).mono ?_
                                        rintro e wq3 ⟨rfl, mq3, rfl⟩
                                        go_wp2_with fail
                                        go_ret
                                        exact ⟨rfl, B1.trans ((HBL.out.trans (Below.mono (show Below wp.heap.size wp _ from by repeat (first | (with_reducible exact Below.refl _ _) | (with_reducible refine below_drewN' ?_) | (with_reducible refine Below.drew ?_) | (with_reducible refine Below.setCell ?_ (by first | (simp; done) | (simp; omega) | omega) _) | (with_reducible refine Below.alloc ?_ (by first | (simp; done) | (simp; omega) | omega) _))) hzp)).mono B1.size)⟩
                                    · have hv : V = false := HNX.out fun e => g3 (by rw [e])
                                      have G3 : Hid (¬ f.ups = k.ups) := g3
                                      clear HY HNX g3
                                      subst hv
                                      go_wp2_with fail
                                      refine (sint_spec f.slots k.slots e_a_slots d_a_slots e_c_slots d_c_slots lo hi lo' hi' true ⟨fun _ => G2.out, fun _ => rfl⟩ _ e_l_slots (e_r_slots.below IntC_keeps (by repeat (first | (with_reducible exact Below.refl _ _) | (with_reducible refine below_drewN' ?_) | (with_reducible refine Below.drew ?_) | (with_reducible refine Below.setCell ?_ (by first | (simp; done) | (simp; omega) | omega) _) | (with_reducible refine Below.alloc ?_ (by first | (simp; done) | (simp; omega) | omega) _))) hip) (d_r_slots.below IntC_keeps (by repeat (first | (with_reducible exact Below.refl _ _) | (with_reducible refine below_drewN' ?_) | (with_reducible refine Below.drew ?_) | (with_reducible refine Below.setCell ?_ (by first | (simp; done) | (simp; omega) | omega) _) | (with_reducible refine Below.alloc ?_ (by first | (simp; done) | (simp; omega) | omega) _))) hip')).mono ?_
                                      rintro e wq1 ⟨rfl, mq1, rfl⟩
                                      go_wp2_with fail
                                      refine (sint_spec f.ups k.ups e_a_ups d_a_ups e_c_ups d_c_ups lo hi lo' hi' false ⟨fun h => absurd h (by decide), fun h => absurd h G3.out⟩ _ e_l_ups (e_r_ups.below IntC_keeps (by repeat (first | (with_reducible exact Below.refl _ _) | (with_reducible refine below_drewN' ?_) | (with_reducible refine Below.drew ?_) | (with_reducible refine Below.setCell ?_ (by first | (simp; done) | (simp; omega) | omega) _) | (with_reducible refine Below.alloc ?_ (by first | (simp; done) | (simp; omega) | omega) _))) hip) (d_r_ups.below IntC_keeps (by repeat (first | (with_reducible exact Below.refl _ _) | (with_reducible refine below_drewN' ?_) | (with_reducible refine Below.drew ?_) | (with_reducible refine Below.setCell ?_ (by first | (simp; done) | (simp; omega) | omega) _) | (with_reducible refine Below.alloc ?_ (by first | (simp; done) | (simp; omega) | omega) _))) hip')).mono ?_
                                      rintro e wq2 ⟨rfl, mq2, rfl⟩
                                      go_wp2_with fail
                                      go_ret
                                      exact ⟨rfl, B1.trans ((HBL.out.trans (Below.mono (show Below wp.heap.size wp _ from by repeat (first | (with_reducible exact Below.refl _ _) | (with_reducible refine below_drewN' ?_) | (with_reducible refine Below.drew ?_) | (with_reducible refine Below.setCell ?_ (by first | (simp; done) | (simp; omega) | omega) _) | (with_reducible refine Below.alloc ?_ (by first | (simp; done) | (simp; omega) | omega) _))) hzp)).mono B1.size)⟩
                                  · have hv : V = false := HNX.out fun e => g2 (by rw [e])
                                    have G2 : Hid (¬ f.slots = k.slots) := g2
                                    clear HY HNX g2
                                    subst hv
                                    go_wp2_with fail
                                    refine (sint_spec f.slots k.slots e_a_slots d_a_slots e_c_slots d_c_slots lo hi lo' hi' false ⟨fun h => absurd h (by decide), fun h => absurd h G2.out⟩ _ e_l_slots (e_r_slots.below IntC_keeps (by repeat (first | (with_reducible exact Below.refl _ _) | (with_reducible refine below_drewN' ?_) | (with_reducible refine Below.drew ?_) | (with_reducible refine Below.setCell ?_ (by first | (simp; done) | (simp; omega) | omega) _) | (with_reducible refine Below.alloc ?_ (by first | (simp; done) | (simp; omega) | omega) _))) hip) (d_r_slots.below IntC_keeps (by repeat (first | (with_reducible exact Below.refl _ _) | (with_reducible refine below_drewN' ?_) | (with_reducible refine Below.drew ?_) | (with_reducible refine Below.setCell ?_ (by first | (simp; done) | (simp; omega) | omega) _) | (with_reducible refine Below.alloc ?_ (by first | (simp; done) | (simp; omega) | omega) _))) hip')).mono ?_
                                    rintro e wq1 ⟨rfl, mq1, rfl⟩
                                    go_wp2_with fail
                                    go_ret
                                    exact ⟨rfl, B1.trans ((HBL.out.trans (Below.mono (show Below wp.heap.size wp _ from by repeat (first | (with_reducible exact Below.refl _ _) | (with_reducible refine below_drewN' ?_) | (with_reducible refine Below.drew ?_) | (with_reducible refine Below.setCell ?_ (by first | (simp; done) | (simp; omega) | omega) _) | (with_reducible refine Below.alloc ?_ (by first | (simp; done) | (simp; omega) | omega) _))) hzp)).mono B1.size)⟩
                                · have hv : V = false := HNX.out fun e => g1 (by rw [e])
                                  have G1 : Hid (¬ f.pc = k.pc) := g1
                                  clear HY HNX
                                  subst hv
                                  go_wp2_with fail
                                  go_ret
                                  exact ⟨rfl, B1.trans ((HBL.out.trans (Below.mono (show Below wp.heap.size wp _ from by repeat (first | (with_reducible exact Below.refl _ _) | (with_reducible refine below_drewN' ?_) | (with_reducible refine Below.drew ?_) | (with_reducible refine Below.setCell ?_ (by first | (simp; done) | (simp; omega) | omega) _) | (with_reducible refine Below.alloc ?_ (by first | (simp; done) | (simp; omega) | omega) _))) hzp)).mono B1.size)⟩
                              · have hv : V = false := HNX.out fun e => g0 (by rw [e])
                                have G0 : Hid (¬ f.proto = k.proto) := g0
                                clear HY HNX
                                subst hv
                                go_wp2_with fail
                                go_ret
                                exact ⟨rfl, B1.trans ((HBL.out.trans (Below.mono (show Below wp.heap.size wp _ from by repeat (first | (with_reducible exact Below.refl _ _) | (with_reducible refine below_drewN' ?_) | (with_reducible refine Below.drew ?_) | (with_reducible refine Below.setCell ?_ (by first | (simp; done) | (simp; omega) | omega) _) | (with_reducible refine Below.alloc ?_ (by first | (simp; done) | (simp; omega) | omega) _))) hzp)).mono B1.size)⟩
                          · obtain rfl : i = x.frames.length := by omega
                            have E2 : Hid (x.frames = y.frames) := ext_rows T1.out fun j h1 h2 => hall j h1 h1 h2
                            have r_out := r_out.below StrC_keeps hbl hi1
                            have n_r_out := n_r_out.below StrC_keeps hbl hi1'
                            have BP2 : Below w.heap.size w wp := B1.trans (hbl.mono B1.size)
                            clear hall r_frames n_r_frames hbl
                            go_wp2_with fail
                            go_loopw [9] (fun z wr => ∃ i m : Nat, z = .int .i64 i ∧ i ≤ x.out.length ∧ wr = wp.drewN m ∧ ∀ j (_ : j < i) (h1 : j < x.out.length) (h2 : j < y.out.length), x.out[j] = y.out[j]) (fun z _ => x.out.length - (intOf z).toNat)
                            case atStart => exact ⟨0, 0, rfl, Nat.zero_le _, (World.drewN_zero _).symm, fun j h => absurd h (Nat.not_lt_zero _)⟩
                            case round =>
                              rename World => wz
                              obtain ⟨i, m, rfl, hil, rfl, hall⟩ := hrel
                              by_cases hlt : i < x.out.length
                              · have hlt2 : i < y.out.length := by have := T2.out; omega
                                obtain ⟨g, o, cx, hax, _, hg, hCx, _, hc⟩ := r_out i hlt
                                obtain ⟨g', o', cy, hay, _, hg', hCy, _, hc'⟩ := n_r_out i hlt2
                                obtain ⟨_, rfl⟩ := hCx
                                obtain ⟨_, rfl⟩ := hCy
                                have x0 := hc 0 (by decide)
                                have y0 := hc' 0 (by decide)
                                simp only [List.getElem?_cons_zero, Nat.add_zero, Nat.one_mul] at x0 y0
                                have HNX : Hid (¬ x.out[i] = y.out[i] → V = false) := fun h => vno hV fun e => ne_rows hlt hlt2 h (by rw [e])
                                have HY : Hid (x.out[i] = y.out[i] → ∀ j (_ : j < i + 1) (h1 : j < x.out.length) (h2 : j < y.out.length), x.out[j] = y.out[j]) := fun h j hj h1 h2 => by
                                  by_cases e : j = i
                                  · subst e; exact h
                                  · exact hall j (by omega) h1 h2
                                clear hc hc' hall hV
                                subst hax hay
                                clear r_out n_r_out
                                generalize x.out[i] = f at *
                                generalize y.out[i] = k at *
                                by_cases he : f = k
                                · have HYY : Hid (∀ j (_ : j < i + 1) (h1 : j < x.out.length) (h2 : j < y.out.length), x.out[j] = y.out[j]) := HY.out he
                                  clear HY HNX
                                  subst he
                                  go_wp2_with fail
                                  go_quiet (fail)
                                  go_wp2_with fail
                                  go_roundw
                                  case rel => exact ⟨i + 1, _, by go_num, by omega, by first | rfl | exact World.drewN_drewN _ _ _, HYY.out⟩
                                  case measure => simp [intOf]; omega
                                · have hv : V = false := HNX.out he
                                  have hs := str_ne he
                                  clear HY HNX he
                                  subst hv
                                  go_wp2_with fail
                                  go_quiet (fail)
                                  go_wp2_with fail
                                  go_ret
                                  exact ⟨rfl, by repeat (first | (with_reducible exact BP2) | (with_reducible refine below_drewN' ?_))⟩
                              · obtain rfl : i = x.out.length := by omega
                                have E3 : x.out = y.out := ext_rows T2.out fun j h1 h2 => hall j h1 h1 h2
                                have hv : V = true := vyes hV (same_impl_ext x y T3.out T4.out T5.out T6.out T7.out E3 (by rw [H0.out]) (by rw [H0.out]) E1.out E2.out)
                                clear hall hV r_out n_r_out E3
                                subst hv
                                go_wp2_with fail
                                go_ret
                                exact ⟨rfl, by repeat (first | (with_reducible exact BP2) | (with_reducible refine below_drewN' ?_))⟩
                  · have hv : V = false := vno hV fun e => t7 (by rw [e])
                    have hs := str_ne t7
                    clear hV
                    subst hv
                    go_wp2_with fail
                    go_ret
                    exact ⟨rfl, B1⟩
                · have hv : V = false := vno hV fun e => t6 (by rw [e])
                  clear hV
                  subst hv
                  go_wp2_with fail
                  go_ret
                  exact ⟨rfl, B1⟩
              · have hv : V = false := vno hV fun e => t5 (by rw [e])
                clear hV
                subst hv
                go_wp2_with fail
                go_ret
                exact ⟨rfl, B1⟩
            · have hv : V = false := vno hV fun e => t4 (by rw [e])
              clear hV
              subst hv
              go_wp2_with fail
              go_ret
              exact ⟨rfl, B1⟩
          · have hv : V = false := vno hV fun e => t3 (by rw [e])
            clear hV
            subst hv
            go_wp2_with fail
            go_ret
            exact ⟨rfl, B1⟩
        · have hv : V = false := vno hV fun e => t2 (by rw [e])
          have t' : ¬ ((x.out.length : Int) = (y.out.length : Int)) := by omega
          clear hV
          subst hv
          go_wp2_with fail
          go_ret
          exact ⟨rfl, B1⟩
      · have hv : V = false := vno hV fun e => t1 (by rw [e])
        have t' : ¬ ((x.frames.length : Int) = (y.frames.length : Int)) := by omega
        clear hV
        subst hv
        go_wp2_with fail
        go_ret
        exact ⟨rfl, B1⟩
    · have hv : V = false := vno hV fun e => t0 (by rw [e])
      have t' : ¬ ((x.funs.length : Int) = (y.funs.length : Int)) := by omega
      clear hV
      subst hv
      go_wp2_with fail
      go_ret
      exact ⟨rfl, B1⟩
  · have hv : V = false := vno hV fun e => h0 (by rw [e])
    have H0 : Hid (¬ x.heap = y.heap) := h0
    clear h0 hV
    subst hv
    go_wp2_with fail
    refine (heap_spec x.heap y.heap _ _ lo hi lo' hi' false ⟨fun h => absurd h (by decide), fun h => absurd h H0.out⟩ W0 (Nat.le_trans hh B0.size) (Nat.le_trans hh' B0.size) hHx hHy).mono ?_
    rintro e w1 ⟨rfl, hb1⟩
    have hz1 := hb1.size
    replace p0 := (hb1.cell (p := ⟨w.heap.size, 0, none⟩) (by show w.heap.size < _; omega)).trans p0
    replace yv0 := (hb1.cell (p := ⟨w.heap.size + 1, 0, none⟩) (by show w.heap.size + 1 < _; omega)).trans yv0
    replace p1 := (hb1.cell (p := ⟨w.heap.size, 1, none⟩) (by show w.heap.size < _; omega)).trans p1
    replace yv1 := (hb1.cell (p := ⟨w.heap.size + 1, 1, none⟩) (by show w.heap.size + 1 < _; omega)).trans yv1
    replace p2 := (hb1.cell (p := ⟨w.heap.size, 2, none⟩) (by show w.heap.size < _; omega)).trans p2
    replace yv2 := (hb1.cell (p := ⟨w.heap.size + 1, 2, none⟩) (by show w.heap.size + 1 < _; omega)).trans yv2
    replace p3 := (hb1.cell (p := ⟨w.heap.size, 3, none⟩) (by show w.heap.size < _; omega)).trans p3
    replace yv3 := (hb1.cell (p := ⟨w.heap.size + 1, 3, none⟩) (by show w.heap.size + 1 < _; omega)).trans yv3
    replace p4 := (hb1.cell (p := ⟨w.heap.size, 4, none⟩) (by show w.heap.size < _; omega)).trans p4
    replace yv4 := (hb1.cell (p := ⟨w.heap.size + 1, 4, none⟩) (by show w.heap.size + 1 < _; omega)).trans yv4
    replace p5 := (hb1.cell (p := ⟨w.heap.size, 5, none⟩) (by show w.heap.size < _; omega)).trans p5
    replace yv5 := (hb1.cell (p := ⟨w.heap.size + 1, 5, none⟩) (by show w.heap.size + 1 < _; omega)).trans yv5
    replace p6 := (hb1.cell (p := ⟨w.heap.size, 6, none⟩) (by show w.heap.size < _; omega)).trans p6
    replace yv6 := (hb1.cell (p := ⟨w.heap.size + 1, 6, none⟩) (by show w.heap.size + 1 < _; omega)).trans yv6
    replace p7 := (hb1.cell (p := ⟨w.heap.size, 7, none⟩) (by show w.heap.size < _; omega)).trans p7
    replace yv7 := (hb1.cell (p := ⟨w.heap.size + 1, 7, none⟩) (by show w.heap.size + 1 < _; omega)).trans yv7
    replace p8 := (hb1.cell (p := ⟨w.heap.size, 8, none⟩) (by show w.heap.size < _; omega)).trans p8
    replace yv8 := (hb1.cell (p := ⟨w.heap.size + 1, 8, none⟩) (by show w.heap.size + 1 < _; omega)).trans yv8
    replace p9 := (hb1.cell (p := ⟨w.heap.size, 9, none⟩) (by show w.heap.size < _; omega)).trans p9
    replace yv9 := (hb1.cell (p := ⟨w.heap.size + 1, 9, none⟩) (by show w.heap.size + 1 < _; omega)).trans yv9
    have B1 : Below w.heap.size w w1 := B0.trans (hb1.mono B0.size)
    replace r_funs := r_funs.below ClosureC_keeps hb1 (Nat.le_trans hh B0.size)
    replace n_r_funs := n_r_funs.below ClosureC_keeps hb1 (Nat.le_trans hh' B0.size)
    replace r_frames := r_frames.below FrameC_keeps hb1 (Nat.le_trans hh B0.size)
    replace n_r_frames := n_r_frames.below FrameC_keeps hb1 (Nat.le_trans hh' B0.size)
    replace r_out := r_out.below StrC_keeps hb1 (Nat.le_trans hh B0.size)
    replace n_r_out := n_r_out.below StrC_keeps hb1 (Nat.le_trans hh' B0.size)
    have hi1 : hi ≤ w1.heap.size := by have := B1.size; omega
    have hi1' : hi' ≤ w1.heap.size := by have := B1.size; omega
    clear hb1 hHx hHy
    go_wp2_with fail
    go_ret
    exact ⟨rfl, B1⟩
end Go.Proofs.Ytgibejgemokljaa
