/- Machines compared: the program. -/
import Derived.Test.YtgibejgemokljaaSamD
namespace Go.Proofs.Ytgibejgemokljaa
open Go.RowKit

theorem same_impl_ext (x y : VmD) (h0 : x.steps = y.steps) (h1 : x.kind = y.kind) (h2 : x.value.k = y.value.k) (h3 : x.value.n = y.value.n) (h4 : x.value.s = y.value.s) (h5 : x.out = y.out) (h6 : x.heap.cells = y.heap.cells) (h7 : x.heap.tables = y.heap.tables) (h8 : x.funs = y.funs) (h9 : x.frames = y.frames) : x = y := by
  obtain ⟨⟨xt, xc⟩, xf, xr, xo, xs, xk, ⟨v1, v2, v3⟩⟩ := x
  obtain ⟨⟨yt, yc⟩, yf, yr, yo, ys, yk, ⟨u1, u2, u3⟩⟩ := y
  simp_all
set_option maxRecDepth 100000 in
set_option maxHeartbeats 6400000 in
theorem same_impl (x y : VmD) (cs cs' : List Value) (lo hi lo' hi' : Nat) (V : Bool) (hV : V = true ↔ x = y) (w : World) (hh : hi ≤ w.heap.size) (hh' : hi' ≤ w.heap.size) (hC : VmC w lo hi x cs) (hD : VmC w lo' hi' y cs') :
    Calls Try.prog 10 #[.agg cs.toArray, .agg cs'.toArray] w fun e w' => e = .returned (.bool V) ∧ Below w.heap.size w w' := by
  obtain ⟨ok, a_heap_tables, c_heap_tables, a_heap_cells, c_heap_cells, a_funs, c_funs, a_frames, c_frames, a_out, c_out, rfl, l_heap_tables, r_heap_tables, l_heap_cells, r_heap_cells, l_funs, r_funs, l_frames, r_frames, l_out, r_out⟩ := hC
  obtain ⟨n_ok, n_a_heap_tables, n_c_heap_tables, n_a_heap_cells, n_c_heap_cells, n_a_funs, n_c_funs, n_a_frames, n_c_frames, n_a_out, n_c_out, rfl, n_l_heap_tables, n_r_heap_tables, n_l_heap_cells, n_r_heap_cells, n_l_funs, n_r_funs, n_l_frames, n_r_frames, n_l_out, n_r_out⟩ := hD
  obtain ⟨rA, rB, hs0, B0⟩ := rows2' w (Obj.cells #[.slice a_heap_tables x.heap.tables.length c_heap_tables, .slice a_heap_cells x.heap.cells.length c_heap_cells, .slice a_funs x.funs.length c_funs, .slice a_frames x.frames.length c_frames, .slice a_out x.out.length c_out, .int .i64 x.steps, .int .i64 x.kind, .int .i64 x.value.k, .int .i64 x.value.n, .string x.value.s] 43) (Obj.cells #[.slice n_a_heap_tables y.heap.tables.length n_c_heap_tables, .slice n_a_heap_cells y.heap.cells.length n_c_heap_cells, .slice n_a_funs y.funs.length n_c_funs, .slice n_a_frames y.frames.length n_c_frames, .slice n_a_out y.out.length n_c_out, .int .i64 y.steps, .int .i64 y.kind, .int .i64 y.value.k, .int .i64 y.value.n, .string y.value.s] 43)
  have r_heap_tables := r_heap_tables.below PairSC_keeps B0 hh
  have n_r_heap_tables := n_r_heap_tables.below PairSC_keeps B0 hh'
  have r_heap_cells := r_heap_cells.below ValC_keeps B0 hh
  have n_r_heap_cells := n_r_heap_cells.below ValC_keeps B0 hh'
  have r_funs := r_funs.below ClosureC_keeps B0 hh
  have n_r_funs := n_r_funs.below ClosureC_keeps B0 hh'
  have r_frames := r_frames.below FrameC_keeps B0 hh
  have n_r_frames := n_r_frames.below FrameC_keeps B0 hh'
  have r_out := r_out.below StrC_keeps B0 hh
  have n_r_out := n_r_out.below StrC_keeps B0 hh'
  go_enter Try.func10, Try.ntmps10
  go_upto_region 1 with fail
  obtain ⟨W0, hW0⟩ : ∃ W0, W0 = (w.alloc (Obj.cells #[.slice a_heap_tables x.heap.tables.length c_heap_tables, .slice a_heap_cells x.heap.cells.length c_heap_cells, .slice a_funs x.funs.length c_funs, .slice a_frames x.frames.length c_frames, .slice a_out x.out.length c_out, .int .i64 x.steps, .int .i64 x.kind, .int .i64 x.value.k, .int .i64 x.value.n, .string x.value.s] 43)).alloc (Obj.cells #[.slice n_a_heap_tables y.heap.tables.length n_c_heap_tables, .slice n_a_heap_cells y.heap.cells.length n_c_heap_cells, .slice n_a_funs y.funs.length n_c_funs, .slice n_a_frames y.frames.length n_c_frames, .slice n_a_out y.out.length n_c_out, .int .i64 y.steps, .int .i64 y.kind, .int .i64 y.value.k, .int .i64 y.value.n, .string y.value.s] 43) := ⟨_, rfl⟩
  rw [← hW0]
  rw [← hW0] at rA rB hs0 B0 r_heap_tables n_r_heap_tables r_heap_cells n_r_heap_cells r_funs n_r_funs r_frames n_r_frames r_out n_r_out
  have p0 := cell_of_row _ _ 0 _ _ _ rA
  have u0 := cell_of_row _ _ 0 _ _ _ rB
  have p1 := cell_of_row _ _ 1 _ _ _ rA
  have u1 := cell_of_row _ _ 1 _ _ _ rB
  have p2 := cell_of_row _ _ 2 _ _ _ rA
  have u2 := cell_of_row _ _ 2 _ _ _ rB
  have p3 := cell_of_row _ _ 3 _ _ _ rA
  have u3 := cell_of_row _ _ 3 _ _ _ rB
  have p4 := cell_of_row _ _ 4 _ _ _ rA
  have u4 := cell_of_row _ _ 4 _ _ _ rB
  have p5 := cell_of_row _ _ 5 _ _ _ rA
  have u5 := cell_of_row _ _ 5 _ _ _ rB
  have p6 := cell_of_row _ _ 6 _ _ _ rA
  have u6 := cell_of_row _ _ 6 _ _ _ rB
  have p7 := cell_of_row _ _ 7 _ _ _ rA
  have u7 := cell_of_row _ _ 7 _ _ _ rB
  have p8 := cell_of_row _ _ 8 _ _ _ rA
  have u8 := cell_of_row _ _ 8 _ _ _ rB
  have p9 := cell_of_row _ _ 9 _ _ _ rA
  have u9 := cell_of_row _ _ 9 _ _ _ rB
  simp only [List.getElem?_toArray, List.getElem?_cons_zero, List.getElem?_cons_succ] at p0 u0 p1 u1 p2 u2 p3 u3 p4 u4 p5 u5 p6 u6 p7 u7 p8 u8 p9 u9
  have hi0 : w.heap.size < W0.heap.size := by omega
  have hi1 : w.heap.size + 1 < W0.heap.size := by omega
  clear rA rB hW0
  by_cases h0 : x.steps = y.steps
  · skip
    by_cases h1 : x.kind = y.kind
    · skip
      by_cases h2 : x.value.k = y.value.k
      · skip
        by_cases h3 : x.value.n = y.value.n
        · skip
          by_cases h4 : x.value.s = y.value.s
          · skip
            by_cases h5 : x.out = y.out
            · skip
              have H5 : Hid (x.out = y.out) := h5
              clear h5
              by_cases h6 : x.heap.cells = y.heap.cells
              · skip
                have H6 : Hid (x.heap.cells = y.heap.cells) := h6
                clear h6
                by_cases h7 : x.heap.tables = y.heap.tables
                · skip
                  have H7 : Hid (x.heap.tables = y.heap.tables) := h7
                  clear h7
                  by_cases h8 : x.funs = y.funs
                  · skip
                    have H8 : Hid (x.funs = y.funs) := h8
                    clear h8
                    by_cases h9 : x.frames = y.frames
                    · skip
                      have H9 : Hid (x.frames = y.frames) := h9
                      clear h9
                      have hv : V = true := vyes hV (same_impl_ext x y h0 h1 h2 h3 h4 H5.out H6.out H7.out H8.out H9.out)
                      clear hV
                      subst hv
                      go_wp2_with fail
                      refine (sstr_impl x.out y.out a_out n_a_out c_out n_c_out lo hi lo' hi' true ⟨fun _ => H5.out, fun _ => rfl⟩ W0 l_out r_out n_r_out).mono ?_
                      rintro e w1 ⟨rfl, hq1⟩
                      have hb1 := quiet_below hq1
                      have D1 : Below W0.heap.size W0 w1 := hb1
                      replace p0 := (hb1.cell (p := ⟨w.heap.size, 0, none⟩) (by show w.heap.size < _; exact hi0)).trans p0
                      replace u0 := (hb1.cell (p := ⟨w.heap.size + 1, 0, none⟩) (by show w.heap.size + 1 < _; exact hi1)).trans u0
                      replace p1 := (hb1.cell (p := ⟨w.heap.size, 1, none⟩) (by show w.heap.size < _; exact hi0)).trans p1
                      replace u1 := (hb1.cell (p := ⟨w.heap.size + 1, 1, none⟩) (by show w.heap.size + 1 < _; exact hi1)).trans u1
                      replace p2 := (hb1.cell (p := ⟨w.heap.size, 2, none⟩) (by show w.heap.size < _; exact hi0)).trans p2
                      replace u2 := (hb1.cell (p := ⟨w.heap.size + 1, 2, none⟩) (by show w.heap.size + 1 < _; exact hi1)).trans u2
                      replace p3 := (hb1.cell (p := ⟨w.heap.size, 3, none⟩) (by show w.heap.size < _; exact hi0)).trans p3
                      replace u3 := (hb1.cell (p := ⟨w.heap.size + 1, 3, none⟩) (by show w.heap.size + 1 < _; exact hi1)).trans u3
                      replace p4 := (hb1.cell (p := ⟨w.heap.size, 4, none⟩) (by show w.heap.size < _; exact hi0)).trans p4
                      replace u4 := (hb1.cell (p := ⟨w.heap.size + 1, 4, none⟩) (by show w.heap.size + 1 < _; exact hi1)).trans u4
                      replace p5 := (hb1.cell (p := ⟨w.heap.size, 5, none⟩) (by show w.heap.size < _; exact hi0)).trans p5
                      replace u5 := (hb1.cell (p := ⟨w.heap.size + 1, 5, none⟩) (by show w.heap.size + 1 < _; exact hi1)).trans u5
                      replace p6 := (hb1.cell (p := ⟨w.heap.size, 6, none⟩) (by show w.heap.size < _; exact hi0)).trans p6
                      replace u6 := (hb1.cell (p := ⟨w.heap.size + 1, 6, none⟩) (by show w.heap.size + 1 < _; exact hi1)).trans u6
                      replace p7 := (hb1.cell (p := ⟨w.heap.size, 7, none⟩) (by show w.heap.size < _; exact hi0)).trans p7
                      replace u7 := (hb1.cell (p := ⟨w.heap.size + 1, 7, none⟩) (by show w.heap.size + 1 < _; exact hi1)).trans u7
                      replace p8 := (hb1.cell (p := ⟨w.heap.size, 8, none⟩) (by show w.heap.size < _; exact hi0)).trans p8
                      replace u8 := (hb1.cell (p := ⟨w.heap.size + 1, 8, none⟩) (by show w.heap.size + 1 < _; exact hi1)).trans u8
                      replace p9 := (hb1.cell (p := ⟨w.heap.size, 9, none⟩) (by show w.heap.size < _; exact hi0)).trans p9
                      replace u9 := (hb1.cell (p := ⟨w.heap.size + 1, 9, none⟩) (by show w.heap.size + 1 < _; exact hi1)).trans u9
                      go_wp2_with fail
                      refine (sval_impl x.heap.cells y.heap.cells a_heap_cells n_a_heap_cells c_heap_cells n_c_heap_cells lo hi lo' hi' true ⟨fun _ => H6.out, fun _ => rfl⟩ w1 l_heap_cells (r_heap_cells.below ValC_keeps D1 (Nat.le_trans hh B0.size)) (n_r_heap_cells.below ValC_keeps D1 (Nat.le_trans hh' B0.size))).mono ?_
                      rintro e w2 ⟨rfl, hq2⟩
                      have hb2 := quiet_below hq2
                      have D2 : Below W0.heap.size W0 w2 := D1.trans (hb2.mono D1.size)
                      replace p0 := (hb2.cell (p := ⟨w.heap.size, 0, none⟩) (by show w.heap.size < _; exact Nat.lt_of_lt_of_le hi0 D1.size)).trans p0
                      replace u0 := (hb2.cell (p := ⟨w.heap.size + 1, 0, none⟩) (by show w.heap.size + 1 < _; exact Nat.lt_of_lt_of_le hi1 D1.size)).trans u0
                      replace p1 := (hb2.cell (p := ⟨w.heap.size, 1, none⟩) (by show w.heap.size < _; exact Nat.lt_of_lt_of_le hi0 D1.size)).trans p1
                      replace u1 := (hb2.cell (p := ⟨w.heap.size + 1, 1, none⟩) (by show w.heap.size + 1 < _; exact Nat.lt_of_lt_of_le hi1 D1.size)).trans u1
                      replace p2 := (hb2.cell (p := ⟨w.heap.size, 2, none⟩) (by show w.heap.size < _; exact Nat.lt_of_lt_of_le hi0 D1.size)).trans p2
                      replace u2 := (hb2.cell (p := ⟨w.heap.size + 1, 2, none⟩) (by show w.heap.size + 1 < _; exact Nat.lt_of_lt_of_le hi1 D1.size)).trans u2
                      replace p3 := (hb2.cell (p := ⟨w.heap.size, 3, none⟩) (by show w.heap.size < _; exact Nat.lt_of_lt_of_le hi0 D1.size)).trans p3
                      replace u3 := (hb2.cell (p := ⟨w.heap.size + 1, 3, none⟩) (by show w.heap.size + 1 < _; exact Nat.lt_of_lt_of_le hi1 D1.size)).trans u3
                      replace p4 := (hb2.cell (p := ⟨w.heap.size, 4, none⟩) (by show w.heap.size < _; exact Nat.lt_of_lt_of_le hi0 D1.size)).trans p4
                      replace u4 := (hb2.cell (p := ⟨w.heap.size + 1, 4, none⟩) (by show w.heap.size + 1 < _; exact Nat.lt_of_lt_of_le hi1 D1.size)).trans u4
                      replace p5 := (hb2.cell (p := ⟨w.heap.size, 5, none⟩) (by show w.heap.size < _; exact Nat.lt_of_lt_of_le hi0 D1.size)).trans p5
                      replace u5 := (hb2.cell (p := ⟨w.heap.size + 1, 5, none⟩) (by show w.heap.size + 1 < _; exact Nat.lt_of_lt_of_le hi1 D1.size)).trans u5
                      replace p6 := (hb2.cell (p := ⟨w.heap.size, 6, none⟩) (by show w.heap.size < _; exact Nat.lt_of_lt_of_le hi0 D1.size)).trans p6
                      replace u6 := (hb2.cell (p := ⟨w.heap.size + 1, 6, none⟩) (by show w.heap.size + 1 < _; exact Nat.lt_of_lt_of_le hi1 D1.size)).trans u6
                      replace p7 := (hb2.cell (p := ⟨w.heap.size, 7, none⟩) (by show w.heap.size < _; exact Nat.lt_of_lt_of_le hi0 D1.size)).trans p7
                      replace u7 := (hb2.cell (p := ⟨w.heap.size + 1, 7, none⟩) (by show w.heap.size + 1 < _; exact Nat.lt_of_lt_of_le hi1 D1.size)).trans u7
                      replace p8 := (hb2.cell (p := ⟨w.heap.size, 8, none⟩) (by show w.heap.size < _; exact Nat.lt_of_lt_of_le hi0 D1.size)).trans p8
                      replace u8 := (hb2.cell (p := ⟨w.heap.size + 1, 8, none⟩) (by show w.heap.size + 1 < _; exact Nat.lt_of_lt_of_le hi1 D1.size)).trans u8
                      replace p9 := (hb2.cell (p := ⟨w.heap.size, 9, none⟩) (by show w.heap.size < _; exact Nat.lt_of_lt_of_le hi0 D1.size)).trans p9
                      replace u9 := (hb2.cell (p := ⟨w.heap.size + 1, 9, none⟩) (by show w.heap.size + 1 < _; exact Nat.lt_of_lt_of_le hi1 D1.size)).trans u9
                      go_wp2_with fail
                      refine (efp_impl x.heap.tables y.heap.tables a_heap_tables n_a_heap_tables c_heap_tables n_c_heap_tables lo hi lo' hi' true ⟨fun _ => H7.out, fun _ => rfl⟩ w2 (Nat.le_trans hh ((Nat.le_trans B0.size D2.size))) (Nat.le_trans hh' ((Nat.le_trans B0.size D2.size))) l_heap_tables (r_heap_tables.below PairSC_keeps D2 (Nat.le_trans hh B0.size)) (n_r_heap_tables.below PairSC_keeps D2 (Nat.le_trans hh' B0.size))).mono ?_
                      rintro e w3 ⟨rfl, hb3⟩
                      have D3 : Below W0.heap.size W0 w3 := D2.trans (hb3.mono D2.size)
                      replace p0 := (hb3.cell (p := ⟨w.heap.size, 0, none⟩) (by show w.heap.size < _; exact Nat.lt_of_lt_of_le hi0 D2.size)).trans p0
                      replace u0 := (hb3.cell (p := ⟨w.heap.size + 1, 0, none⟩) (by show w.heap.size + 1 < _; exact Nat.lt_of_lt_of_le hi1 D2.size)).trans u0
                      replace p1 := (hb3.cell (p := ⟨w.heap.size, 1, none⟩) (by show w.heap.size < _; exact Nat.lt_of_lt_of_le hi0 D2.size)).trans p1
                      replace u1 := (hb3.cell (p := ⟨w.heap.size + 1, 1, none⟩) (by show w.heap.size + 1 < _; exact Nat.lt_of_lt_of_le hi1 D2.size)).trans u1
                      replace p2 := (hb3.cell (p := ⟨w.heap.size, 2, none⟩) (by show w.heap.size < _; exact Nat.lt_of_lt_of_le hi0 D2.size)).trans p2
                      replace u2 := (hb3.cell (p := ⟨w.heap.size + 1, 2, none⟩) (by show w.heap.size + 1 < _; exact Nat.lt_of_lt_of_le hi1 D2.size)).trans u2
                      replace p3 := (hb3.cell (p := ⟨w.heap.size, 3, none⟩) (by show w.heap.size < _; exact Nat.lt_of_lt_of_le hi0 D2.size)).trans p3
                      replace u3 := (hb3.cell (p := ⟨w.heap.size + 1, 3, none⟩) (by show w.heap.size + 1 < _; exact Nat.lt_of_lt_of_le hi1 D2.size)).trans u3
                      replace p4 := (hb3.cell (p := ⟨w.heap.size, 4, none⟩) (by show w.heap.size < _; exact Nat.lt_of_lt_of_le hi0 D2.size)).trans p4
                      replace u4 := (hb3.cell (p := ⟨w.heap.size + 1, 4, none⟩) (by show w.heap.size + 1 < _; exact Nat.lt_of_lt_of_le hi1 D2.size)).trans u4
                      replace p5 := (hb3.cell (p := ⟨w.heap.size, 5, none⟩) (by show w.heap.size < _; exact Nat.lt_of_lt_of_le hi0 D2.size)).trans p5
                      replace u5 := (hb3.cell (p := ⟨w.heap.size + 1, 5, none⟩) (by show w.heap.size + 1 < _; exact Nat.lt_of_lt_of_le hi1 D2.size)).trans u5
                      replace p6 := (hb3.cell (p := ⟨w.heap.size, 6, none⟩) (by show w.heap.size < _; exact Nat.lt_of_lt_of_le hi0 D2.size)).trans p6
                      replace u6 := (hb3.cell (p := ⟨w.heap.size + 1, 6, none⟩) (by show w.heap.size + 1 < _; exact Nat.lt_of_lt_of_le hi1 D2.size)).trans u6
                      replace p7 := (hb3.cell (p := ⟨w.heap.size, 7, none⟩) (by show w.heap.size < _; exact Nat.lt_of_lt_of_le hi0 D2.size)).trans p7
                      replace u7 := (hb3.cell (p := ⟨w.heap.size + 1, 7, none⟩) (by show w.heap.size + 1 < _; exact Nat.lt_of_lt_of_le hi1 D2.size)).trans u7
                      replace p8 := (hb3.cell (p := ⟨w.heap.size, 8, none⟩) (by show w.heap.size < _; exact Nat.lt_of_lt_of_le hi0 D2.size)).trans p8
                      replace u8 := (hb3.cell (p := ⟨w.heap.size + 1, 8, none⟩) (by show w.heap.size + 1 < _; exact Nat.lt_of_lt_of_le hi1 D2.size)).trans u8
                      replace p9 := (hb3.cell (p := ⟨w.heap.size, 9, none⟩) (by show w.heap.size < _; exact Nat.lt_of_lt_of_le hi0 D2.size)).trans p9
                      replace u9 := (hb3.cell (p := ⟨w.heap.size + 1, 9, none⟩) (by show w.heap.size + 1 < _; exact Nat.lt_of_lt_of_le hi1 D2.size)).trans u9
                      go_wp2_with fail
                      refine (efc_impl x.funs y.funs a_funs n_a_funs c_funs n_c_funs lo hi lo' hi' true ⟨fun _ => H8.out, fun _ => rfl⟩ w3 (Nat.le_trans hh ((Nat.le_trans B0.size D3.size))) (Nat.le_trans hh' ((Nat.le_trans B0.size D3.size))) l_funs (r_funs.below ClosureC_keeps D3 (Nat.le_trans hh B0.size)) (n_r_funs.below ClosureC_keeps D3 (Nat.le_trans hh' B0.size))).mono ?_
                      rintro e w4 ⟨rfl, hb4⟩
                      have D4 : Below W0.heap.size W0 w4 := D3.trans (hb4.mono D3.size)
                      replace p0 := (hb4.cell (p := ⟨w.heap.size, 0, none⟩) (by show w.heap.size < _; exact Nat.lt_of_lt_of_le hi0 D3.size)).trans p0
                      replace u0 := (hb4.cell (p := ⟨w.heap.size + 1, 0, none⟩) (by show w.heap.size + 1 < _; exact Nat.lt_of_lt_of_le hi1 D3.size)).trans u0
                      replace p1 := (hb4.cell (p := ⟨w.heap.size, 1, none⟩) (by show w.heap.size < _; exact Nat.lt_of_lt_of_le hi0 D3.size)).trans p1
                      replace u1 := (hb4.cell (p := ⟨w.heap.size + 1, 1, none⟩) (by show w.heap.size + 1 < _; exact Nat.lt_of_lt_of_le hi1 D3.size)).trans u1
                      replace p2 := (hb4.cell (p := ⟨w.heap.size, 2, none⟩) (by show w.heap.size < _; exact Nat.lt_of_lt_of_le hi0 D3.size)).trans p2
                      replace u2 := (hb4.cell (p := ⟨w.heap.size + 1, 2, none⟩) (by show w.heap.size + 1 < _; exact Nat.lt_of_lt_of_le hi1 D3.size)).trans u2
                      replace p3 := (hb4.cell (p := ⟨w.heap.size, 3, none⟩) (by show w.heap.size < _; exact Nat.lt_of_lt_of_le hi0 D3.size)).trans p3
                      replace u3 := (hb4.cell (p := ⟨w.heap.size + 1, 3, none⟩) (by show w.heap.size + 1 < _; exact Nat.lt_of_lt_of_le hi1 D3.size)).trans u3
                      replace p4 := (hb4.cell (p := ⟨w.heap.size, 4, none⟩) (by show w.heap.size < _; exact Nat.lt_of_lt_of_le hi0 D3.size)).trans p4
                      replace u4 := (hb4.cell (p := ⟨w.heap.size + 1, 4, none⟩) (by show w.heap.size + 1 < _; exact Nat.lt_of_lt_of_le hi1 D3.size)).trans u4
                      replace p5 := (hb4.cell (p := ⟨w.heap.size, 5, none⟩) (by show w.heap.size < _; exact Nat.lt_of_lt_of_le hi0 D3.size)).trans p5
                      replace u5 := (hb4.cell (p := ⟨w.heap.size + 1, 5, none⟩) (by show w.heap.size + 1 < _; exact Nat.lt_of_lt_of_le hi1 D3.size)).trans u5
                      replace p6 := (hb4.cell (p := ⟨w.heap.size, 6, none⟩) (by show w.heap.size < _; exact Nat.lt_of_lt_of_le hi0 D3.size)).trans p6
                      replace u6 := (hb4.cell (p := ⟨w.heap.size + 1, 6, none⟩) (by show w.heap.size + 1 < _; exact Nat.lt_of_lt_of_le hi1 D3.size)).trans u6
                      replace p7 := (hb4.cell (p := ⟨w.heap.size, 7, none⟩) (by show w.heap.size < _; exact Nat.lt_of_lt_of_le hi0 D3.size)).trans p7
                      replace u7 := (hb4.cell (p := ⟨w.heap.size + 1, 7, none⟩) (by show w.heap.size + 1 < _; exact Nat.lt_of_lt_of_le hi1 D3.size)).trans u7
                      replace p8 := (hb4.cell (p := ⟨w.heap.size, 8, none⟩) (by show w.heap.size < _; exact Nat.lt_of_lt_of_le hi0 D3.size)).trans p8
                      replace u8 := (hb4.cell (p := ⟨w.heap.size + 1, 8, none⟩) (by show w.heap.size + 1 < _; exact Nat.lt_of_lt_of_le hi1 D3.size)).trans u8
                      replace p9 := (hb4.cell (p := ⟨w.heap.size, 9, none⟩) (by show w.heap.size < _; exact Nat.lt_of_lt_of_le hi0 D3.size)).trans p9
                      replace u9 := (hb4.cell (p := ⟨w.heap.size + 1, 9, none⟩) (by show w.heap.size + 1 < _; exact Nat.lt_of_lt_of_le hi1 D3.size)).trans u9
                      go_wp2_with fail
                      refine (eff_impl x.frames y.frames a_frames n_a_frames c_frames n_c_frames lo hi lo' hi' true ⟨fun _ => H9.out, fun _ => rfl⟩ w4 (Nat.le_trans hh ((Nat.le_trans B0.size D4.size))) (Nat.le_trans hh' ((Nat.le_trans B0.size D4.size))) l_frames (r_frames.below FrameC_keeps D4 (Nat.le_trans hh B0.size)) (n_r_frames.below FrameC_keeps D4 (Nat.le_trans hh' B0.size))).mono ?_
                      rintro e w5 ⟨rfl, hb5⟩
                      have D5 : Below W0.heap.size W0 w5 := D4.trans (hb5.mono D4.size)
                      replace p0 := (hb5.cell (p := ⟨w.heap.size, 0, none⟩) (by show w.heap.size < _; exact Nat.lt_of_lt_of_le hi0 D4.size)).trans p0
                      replace u0 := (hb5.cell (p := ⟨w.heap.size + 1, 0, none⟩) (by show w.heap.size + 1 < _; exact Nat.lt_of_lt_of_le hi1 D4.size)).trans u0
                      replace p1 := (hb5.cell (p := ⟨w.heap.size, 1, none⟩) (by show w.heap.size < _; exact Nat.lt_of_lt_of_le hi0 D4.size)).trans p1
                      replace u1 := (hb5.cell (p := ⟨w.heap.size + 1, 1, none⟩) (by show w.heap.size + 1 < _; exact Nat.lt_of_lt_of_le hi1 D4.size)).trans u1
                      replace p2 := (hb5.cell (p := ⟨w.heap.size, 2, none⟩) (by show w.heap.size < _; exact Nat.lt_of_lt_of_le hi0 D4.size)).trans p2
                      replace u2 := (hb5.cell (p := ⟨w.heap.size + 1, 2, none⟩) (by show w.heap.size + 1 < _; exact Nat.lt_of_lt_of_le hi1 D4.size)).trans u2
                      replace p3 := (hb5.cell (p := ⟨w.heap.size, 3, none⟩) (by show w.heap.size < _; exact Nat.lt_of_lt_of_le hi0 D4.size)).trans p3
                      replace u3 := (hb5.cell (p := ⟨w.heap.size + 1, 3, none⟩) (by show w.heap.size + 1 < _; exact Nat.lt_of_lt_of_le hi1 D4.size)).trans u3
                      replace p4 := (hb5.cell (p := ⟨w.heap.size, 4, none⟩) (by show w.heap.size < _; exact Nat.lt_of_lt_of_le hi0 D4.size)).trans p4
                      replace u4 := (hb5.cell (p := ⟨w.heap.size + 1, 4, none⟩) (by show w.heap.size + 1 < _; exact Nat.lt_of_lt_of_le hi1 D4.size)).trans u4
                      replace p5 := (hb5.cell (p := ⟨w.heap.size, 5, none⟩) (by show w.heap.size < _; exact Nat.lt_of_lt_of_le hi0 D4.size)).trans p5
                      replace u5 := (hb5.cell (p := ⟨w.heap.size + 1, 5, none⟩) (by show w.heap.size + 1 < _; exact Nat.lt_of_lt_of_le hi1 D4.size)).trans u5
                      replace p6 := (hb5.cell (p := ⟨w.heap.size, 6, none⟩) (by show w.heap.size < _; exact Nat.lt_of_lt_of_le hi0 D4.size)).trans p6
                      replace u6 := (hb5.cell (p := ⟨w.heap.size + 1, 6, none⟩) (by show w.heap.size + 1 < _; exact Nat.lt_of_lt_of_le hi1 D4.size)).trans u6
                      replace p7 := (hb5.cell (p := ⟨w.heap.size, 7, none⟩) (by show w.heap.size < _; exact Nat.lt_of_lt_of_le hi0 D4.size)).trans p7
                      replace u7 := (hb5.cell (p := ⟨w.heap.size + 1, 7, none⟩) (by show w.heap.size + 1 < _; exact Nat.lt_of_lt_of_le hi1 D4.size)).trans u7
                      replace p8 := (hb5.cell (p := ⟨w.heap.size, 8, none⟩) (by show w.heap.size < _; exact Nat.lt_of_lt_of_le hi0 D4.size)).trans p8
                      replace u8 := (hb5.cell (p := ⟨w.heap.size + 1, 8, none⟩) (by show w.heap.size + 1 < _; exact Nat.lt_of_lt_of_le hi1 D4.size)).trans u8
                      replace p9 := (hb5.cell (p := ⟨w.heap.size, 9, none⟩) (by show w.heap.size < _; exact Nat.lt_of_lt_of_le hi0 D4.size)).trans p9
                      replace u9 := (hb5.cell (p := ⟨w.heap.size + 1, 9, none⟩) (by show w.heap.size + 1 < _; exact Nat.lt_of_lt_of_le hi1 D4.size)).trans u9
                      go_wp2_with fail
                      go_ret
                      exact ⟨rfl, (B0.trans (D5.mono B0.size))⟩
                    · have hv : V = false := vno hV fun e => h9 (by rw [e])
                      clear hV
                      subst hv
                      have H9 : Hid (¬ x.frames = y.frames) := h9
                      clear h9
                      go_wp2_with fail
                      refine (sstr_impl x.out y.out a_out n_a_out c_out n_c_out lo hi lo' hi' true ⟨fun _ => H5.out, fun _ => rfl⟩ W0 l_out r_out n_r_out).mono ?_
                      rintro e w1 ⟨rfl, hq1⟩
                      have hb1 := quiet_below hq1
                      have D1 : Below W0.heap.size W0 w1 := hb1
                      replace p0 := (hb1.cell (p := ⟨w.heap.size, 0, none⟩) (by show w.heap.size < _; exact hi0)).trans p0
                      replace u0 := (hb1.cell (p := ⟨w.heap.size + 1, 0, none⟩) (by show w.heap.size + 1 < _; exact hi1)).trans u0
                      replace p1 := (hb1.cell (p := ⟨w.heap.size, 1, none⟩) (by show w.heap.size < _; exact hi0)).trans p1
                      replace u1 := (hb1.cell (p := ⟨w.heap.size + 1, 1, none⟩) (by show w.heap.size + 1 < _; exact hi1)).trans u1
                      replace p2 := (hb1.cell (p := ⟨w.heap.size, 2, none⟩) (by show w.heap.size < _; exact hi0)).trans p2
                      replace u2 := (hb1.cell (p := ⟨w.heap.size + 1, 2, none⟩) (by show w.heap.size + 1 < _; exact hi1)).trans u2
                      replace p3 := (hb1.cell (p := ⟨w.heap.size, 3, none⟩) (by show w.heap.size < _; exact hi0)).trans p3
                      replace u3 := (hb1.cell (p := ⟨w.heap.size + 1, 3, none⟩) (by show w.heap.size + 1 < _; exact hi1)).trans u3
                      replace p4 := (hb1.cell (p := ⟨w.heap.size, 4, none⟩) (by show w.heap.size < _; exact hi0)).trans p4
                      replace u4 := (hb1.cell (p := ⟨w.heap.size + 1, 4, none⟩) (by show w.heap.size + 1 < _; exact hi1)).trans u4
                      replace p5 := (hb1.cell (p := ⟨w.heap.size, 5, none⟩) (by show w.heap.size < _; exact hi0)).trans p5
                      replace u5 := (hb1.cell (p := ⟨w.heap.size + 1, 5, none⟩) (by show w.heap.size + 1 < _; exact hi1)).trans u5
                      replace p6 := (hb1.cell (p := ⟨w.heap.size, 6, none⟩) (by show w.heap.size < _; exact hi0)).trans p6
                      replace u6 := (hb1.cell (p := ⟨w.heap.size + 1, 6, none⟩) (by show w.heap.size + 1 < _; exact hi1)).trans u6
                      replace p7 := (hb1.cell (p := ⟨w.heap.size, 7, none⟩) (by show w.heap.size < _; exact hi0)).trans p7
                      replace u7 := (hb1.cell (p := ⟨w.heap.size + 1, 7, none⟩) (by show w.heap.size + 1 < _; exact hi1)).trans u7
                      replace p8 := (hb1.cell (p := ⟨w.heap.size, 8, none⟩) (by show w.heap.size < _; exact hi0)).trans p8
                      replace u8 := (hb1.cell (p := ⟨w.heap.size + 1, 8, none⟩) (by show w.heap.size + 1 < _; exact hi1)).trans u8
                      replace p9 := (hb1.cell (p := ⟨w.heap.size, 9, none⟩) (by show w.heap.size < _; exact hi0)).trans p9
                      replace u9 := (hb1.cell (p := ⟨w.heap.size + 1, 9, none⟩) (by show w.heap.size + 1 < _; exact hi1)).trans u9
                      go_wp2_with fail
                      refine (sval_impl x.heap.cells y.heap.cells a_heap_cells n_a_heap_cells c_heap_cells n_c_heap_cells lo hi lo' hi' true ⟨fun _ => H6.out, fun _ => rfl⟩ w1 l_heap_cells (r_heap_cells.below ValC_keeps D1 (Nat.le_trans hh B0.size)) (n_r_heap_cells.below ValC_keeps D1 (Nat.le_trans hh' B0.size))).mono ?_
                      rintro e w2 ⟨rfl, hq2⟩
                      have hb2 := quiet_below hq2
                      have D2 : Below W0.heap.size W0 w2 := D1.trans (hb2.mono D1.size)
                      replace p0 := (hb2.cell (p := ⟨w.heap.size, 0, none⟩) (by show w.heap.size < _; exact Nat.lt_of_lt_of_le hi0 D1.size)).trans p0
                      replace u0 := (hb2.cell (p := ⟨w.heap.size + 1, 0, none⟩) (by show w.heap.size + 1 < _; exact Nat.lt_of_lt_of_le hi1 D1.size)).trans u0
                      replace p1 := (hb2.cell (p := ⟨w.heap.size, 1, none⟩) (by show w.heap.size < _; exact Nat.lt_of_lt_of_le hi0 D1.size)).trans p1
                      replace u1 := (hb2.cell (p := ⟨w.heap.size + 1, 1, none⟩) (by show w.heap.size + 1 < _; exact Nat.lt_of_lt_of_le hi1 D1.size)).trans u1
                      replace p2 := (hb2.cell (p := ⟨w.heap.size, 2, none⟩) (by show w.heap.size < _; exact Nat.lt_of_lt_of_le hi0 D1.size)).trans p2
                      replace u2 := (hb2.cell (p := ⟨w.heap.size + 1, 2, none⟩) (by show w.heap.size + 1 < _; exact Nat.lt_of_lt_of_le hi1 D1.size)).trans u2
                      replace p3 := (hb2.cell (p := ⟨w.heap.size, 3, none⟩) (by show w.heap.size < _; exact Nat.lt_of_lt_of_le hi0 D1.size)).trans p3
                      replace u3 := (hb2.cell (p := ⟨w.heap.size + 1, 3, none⟩) (by show w.heap.size + 1 < _; exact Nat.lt_of_lt_of_le hi1 D1.size)).trans u3
                      replace p4 := (hb2.cell (p := ⟨w.heap.size, 4, none⟩) (by show w.heap.size < _; exact Nat.lt_of_lt_of_le hi0 D1.size)).trans p4
                      replace u4 := (hb2.cell (p := ⟨w.heap.size + 1, 4, none⟩) (by show w.heap.size + 1 < _; exact Nat.lt_of_lt_of_le hi1 D1.size)).trans u4
                      replace p5 := (hb2.cell (p := ⟨w.heap.size, 5, none⟩) (by show w.heap.size < _; exact Nat.lt_of_lt_of_le hi0 D1.size)).trans p5
                      replace u5 := (hb2.cell (p := ⟨w.heap.size + 1, 5, none⟩) (by show w.heap.size + 1 < _; exact Nat.lt_of_lt_of_le hi1 D1.size)).trans u5
                      replace p6 := (hb2.cell (p := ⟨w.heap.size, 6, none⟩) (by show w.heap.size < _; exact Nat.lt_of_lt_of_le hi0 D1.size)).trans p6
                      replace u6 := (hb2.cell (p := ⟨w.heap.size + 1, 6, none⟩) (by show w.heap.size + 1 < _; exact Nat.lt_of_lt_of_le hi1 D1.size)).trans u6
                      replace p7 := (hb2.cell (p := ⟨w.heap.size, 7, none⟩) (by show w.heap.size < _; exact Nat.lt_of_lt_of_le hi0 D1.size)).trans p7
                      replace u7 := (hb2.cell (p := ⟨w.heap.size + 1, 7, none⟩) (by show w.heap.size + 1 < _; exact Nat.lt_of_lt_of_le hi1 D1.size)).trans u7
                      replace p8 := (hb2.cell (p := ⟨w.heap.size, 8, none⟩) (by show w.heap.size < _; exact Nat.lt_of_lt_of_le hi0 D1.size)).trans p8
                      replace u8 := (hb2.cell (p := ⟨w.heap.size + 1, 8, none⟩) (by show w.heap.size + 1 < _; exact Nat.lt_of_lt_of_le hi1 D1.size)).trans u8
                      replace p9 := (hb2.cell (p := ⟨w.heap.size, 9, none⟩) (by show w.heap.size < _; exact Nat.lt_of_lt_of_le hi0 D1.size)).trans p9
                      replace u9 := (hb2.cell (p := ⟨w.heap.size + 1, 9, none⟩) (by show w.heap.size + 1 < _; exact Nat.lt_of_lt_of_le hi1 D1.size)).trans u9
                      go_wp2_with fail
                      refine (efp_impl x.heap.tables y.heap.tables a_heap_tables n_a_heap_tables c_heap_tables n_c_heap_tables lo hi lo' hi' true ⟨fun _ => H7.out, fun _ => rfl⟩ w2 (Nat.le_trans hh ((Nat.le_trans B0.size D2.size))) (Nat.le_trans hh' ((Nat.le_trans B0.size D2.size))) l_heap_tables (r_heap_tables.below PairSC_keeps D2 (Nat.le_trans hh B0.size)) (n_r_heap_tables.below PairSC_keeps D2 (Nat.le_trans hh' B0.size))).mono ?_
                      rintro e w3 ⟨rfl, hb3⟩
                      have D3 : Below W0.heap.size W0 w3 := D2.trans (hb3.mono D2.size)
                      replace p0 := (hb3.cell (p := ⟨w.heap.size, 0, none⟩) (by show w.heap.size < _; exact Nat.lt_of_lt_of_le hi0 D2.size)).trans p0
                      replace u0 := (hb3.cell (p := ⟨w.heap.size + 1, 0, none⟩) (by show w.heap.size + 1 < _; exact Nat.lt_of_lt_of_le hi1 D2.size)).trans u0
                      replace p1 := (hb3.cell (p := ⟨w.heap.size, 1, none⟩) (by show w.heap.size < _; exact Nat.lt_of_lt_of_le hi0 D2.size)).trans p1
                      replace u1 := (hb3.cell (p := ⟨w.heap.size + 1, 1, none⟩) (by show w.heap.size + 1 < _; exact Nat.lt_of_lt_of_le hi1 D2.size)).trans u1
                      replace p2 := (hb3.cell (p := ⟨w.heap.size, 2, none⟩) (by show w.heap.size < _; exact Nat.lt_of_lt_of_le hi0 D2.size)).trans p2
                      replace u2 := (hb3.cell (p := ⟨w.heap.size + 1, 2, none⟩) (by show w.heap.size + 1 < _; exact Nat.lt_of_lt_of_le hi1 D2.size)).trans u2
                      replace p3 := (hb3.cell (p := ⟨w.heap.size, 3, none⟩) (by show w.heap.size < _; exact Nat.lt_of_lt_of_le hi0 D2.size)).trans p3
                      replace u3 := (hb3.cell (p := ⟨w.heap.size + 1, 3, none⟩) (by show w.heap.size + 1 < _; exact Nat.lt_of_lt_of_le hi1 D2.size)).trans u3
                      replace p4 := (hb3.cell (p := ⟨w.heap.size, 4, none⟩) (by show w.heap.size < _; exact Nat.lt_of_lt_of_le hi0 D2.size)).trans p4
                      replace u4 := (hb3.cell (p := ⟨w.heap.size + 1, 4, none⟩) (by show w.heap.size + 1 < _; exact Nat.lt_of_lt_of_le hi1 D2.size)).trans u4
                      replace p5 := (hb3.cell (p := ⟨w.heap.size, 5, none⟩) (by show w.heap.size < _; exact Nat.lt_of_lt_of_le hi0 D2.size)).trans p5
                      replace u5 := (hb3.cell (p := ⟨w.heap.size + 1, 5, none⟩) (by show w.heap.size + 1 < _; exact Nat.lt_of_lt_of_le hi1 D2.size)).trans u5
                      replace p6 := (hb3.cell (p := ⟨w.heap.size, 6, none⟩) (by show w.heap.size < _; exact Nat.lt_of_lt_of_le hi0 D2.size)).trans p6
                      replace u6 := (hb3.cell (p := ⟨w.heap.size + 1, 6, none⟩) (by show w.heap.size + 1 < _; exact Nat.lt_of_lt_of_le hi1 D2.size)).trans u6
                      replace p7 := (hb3.cell (p := ⟨w.heap.size, 7, none⟩) (by show w.heap.size < _; exact Nat.lt_of_lt_of_le hi0 D2.size)).trans p7
                      replace u7 := (hb3.cell (p := ⟨w.heap.size + 1, 7, none⟩) (by show w.heap.size + 1 < _; exact Nat.lt_of_lt_of_le hi1 D2.size)).trans u7
                      replace p8 := (hb3.cell (p := ⟨w.heap.size, 8, none⟩) (by show w.heap.size < _; exact Nat.lt_of_lt_of_le hi0 D2.size)).trans p8
                      replace u8 := (hb3.cell (p := ⟨w.heap.size + 1, 8, none⟩) (by show w.heap.size + 1 < _; exact Nat.lt_of_lt_of_le hi1 D2.size)).trans u8
                      replace p9 := (hb3.cell (p := ⟨w.heap.size, 9, none⟩) (by show w.heap.size < _; exact Nat.lt_of_lt_of_le hi0 D2.size)).trans p9
                      replace u9 := (hb3.cell (p := ⟨w.heap.size + 1, 9, none⟩) (by show w.heap.size + 1 < _; exact Nat.lt_of_lt_of_le hi1 D2.size)).trans u9
                      go_wp2_with fail
                      refine (efc_impl x.funs y.funs a_funs n_a_funs c_funs n_c_funs lo hi lo' hi' true ⟨fun _ => H8.out, fun _ => rfl⟩ w3 (Nat.le_trans hh ((Nat.le_trans B0.size D3.size))) (Nat.le_trans hh' ((Nat.le_trans B0.size D3.size))) l_funs (r_funs.below ClosureC_keeps D3 (Nat.le_trans hh B0.size)) (n_r_funs.below ClosureC_keeps D3 (Nat.le_trans hh' B0.size))).mono ?_
                      rintro e w4 ⟨rfl, hb4⟩
                      have D4 : Below W0.heap.size W0 w4 := D3.trans (hb4.mono D3.size)
                      replace p0 := (hb4.cell (p := ⟨w.heap.size, 0, none⟩) (by show w.heap.size < _; exact Nat.lt_of_lt_of_le hi0 D3.size)).trans p0
                      replace u0 := (hb4.cell (p := ⟨w.heap.size + 1, 0, none⟩) (by show w.heap.size + 1 < _; exact Nat.lt_of_lt_of_le hi1 D3.size)).trans u0
                      replace p1 := (hb4.cell (p := ⟨w.heap.size, 1, none⟩) (by show w.heap.size < _; exact Nat.lt_of_lt_of_le hi0 D3.size)).trans p1
                      replace u1 := (hb4.cell (p := ⟨w.heap.size + 1, 1, none⟩) (by show w.heap.size + 1 < _; exact Nat.lt_of_lt_of_le hi1 D3.size)).trans u1
                      replace p2 := (hb4.cell (p := ⟨w.heap.size, 2, none⟩) (by show w.heap.size < _; exact Nat.lt_of_lt_of_le hi0 D3.size)).trans p2
                      replace u2 := (hb4.cell (p := ⟨w.heap.size + 1, 2, none⟩) (by show w.heap.size + 1 < _; exact Nat.lt_of_lt_of_le hi1 D3.size)).trans u2
                      replace p3 := (hb4.cell (p := ⟨w.heap.size, 3, none⟩) (by show w.heap.size < _; exact Nat.lt_of_lt_of_le hi0 D3.size)).trans p3
                      replace u3 := (hb4.cell (p := ⟨w.heap.size + 1, 3, none⟩) (by show w.heap.size + 1 < _; exact Nat.lt_of_lt_of_le hi1 D3.size)).trans u3
                      replace p4 := (hb4.cell (p := ⟨w.heap.size, 4, none⟩) (by show w.heap.size < _; exact Nat.lt_of_lt_of_le hi0 D3.size)).trans p4
                      replace u4 := (hb4.cell (p := ⟨w.heap.size + 1, 4, none⟩) (by show w.heap.size + 1 < _; exact Nat.lt_of_lt_of_le hi1 D3.size)).trans u4
                      replace p5 := (hb4.cell (p := ⟨w.heap.size, 5, none⟩) (by show w.heap.size < _; exact Nat.lt_of_lt_of_le hi0 D3.size)).trans p5
                      replace u5 := (hb4.cell (p := ⟨w.heap.size + 1, 5, none⟩) (by show w.heap.size + 1 < _; exact Nat.lt_of_lt_of_le hi1 D3.size)).trans u5
                      replace p6 := (hb4.cell (p := ⟨w.heap.size, 6, none⟩) (by show w.heap.size < _; exact Nat.lt_of_lt_of_le hi0 D3.size)).trans p6
                      replace u6 := (hb4.cell (p := ⟨w.heap.size + 1, 6, none⟩) (by show w.heap.size + 1 < _; exact Nat.lt_of_lt_of_le hi1 D3.size)).trans u6
                      replace p7 := (hb4.cell (p := ⟨w.heap.size, 7, none⟩) (by show w.heap.size < _; exact Nat.lt_of_lt_of_le hi0 D3.size)).trans p7
                      replace u7 := (hb4.cell (p := ⟨w.heap.size + 1, 7, none⟩) (by show w.heap.size + 1 < _; exact Nat.lt_of_lt_of_le hi1 D3.size)).trans u7
                      replace p8 := (hb4.cell (p := ⟨w.heap.size, 8, none⟩) (by show w.heap.size < _; exact Nat.lt_of_lt_of_le hi0 D3.size)).trans p8
                      replace u8 := (hb4.cell (p := ⟨w.heap.size + 1, 8, none⟩) (by show w.heap.size + 1 < _; exact Nat.lt_of_lt_of_le hi1 D3.size)).trans u8
                      replace p9 := (hb4.cell (p := ⟨w.heap.size, 9, none⟩) (by show w.heap.size < _; exact Nat.lt_of_lt_of_le hi0 D3.size)).trans p9
                      replace u9 := (hb4.cell (p := ⟨w.heap.size + 1, 9, none⟩) (by show w.heap.size + 1 < _; exact Nat.lt_of_lt_of_le hi1 D3.size)).trans u9
                      go_wp2_with fail
                      refine (eff_impl x.frames y.frames a_frames n_a_frames c_frames n_c_frames lo hi lo' hi' false ⟨fun h => absurd h (by decide), fun h => absurd h H9.out⟩ w4 (Nat.le_trans hh ((Nat.le_trans B0.size D4.size))) (Nat.le_trans hh' ((Nat.le_trans B0.size D4.size))) l_frames (r_frames.below FrameC_keeps D4 (Nat.le_trans hh B0.size)) (n_r_frames.below FrameC_keeps D4 (Nat.le_trans hh' B0.size))).mono ?_
                      rintro e w5 ⟨rfl, hb5⟩
                      have D5 : Below W0.heap.size W0 w5 := D4.trans (hb5.mono D4.size)
                      replace p0 := (hb5.cell (p := ⟨w.heap.size, 0, none⟩) (by show w.heap.size < _; exact Nat.lt_of_lt_of_le hi0 D4.size)).trans p0
                      replace u0 := (hb5.cell (p := ⟨w.heap.size + 1, 0, none⟩) (by show w.heap.size + 1 < _; exact Nat.lt_of_lt_of_le hi1 D4.size)).trans u0
                      replace p1 := (hb5.cell (p := ⟨w.heap.size, 1, none⟩) (by show w.heap.size < _; exact Nat.lt_of_lt_of_le hi0 D4.size)).trans p1
                      replace u1 := (hb5.cell (p := ⟨w.heap.size + 1, 1, none⟩) (by show w.heap.size + 1 < _; exact Nat.lt_of_lt_of_le hi1 D4.size)).trans u1
                      replace p2 := (hb5.cell (p := ⟨w.heap.size, 2, none⟩) (by show w.heap.size < _; exact Nat.lt_of_lt_of_le hi0 D4.size)).trans p2
                      replace u2 := (hb5.cell (p := ⟨w.heap.size + 1, 2, none⟩) (by show w.heap.size + 1 < _; exact Nat.lt_of_lt_of_le hi1 D4.size)).trans u2
                      replace p3 := (hb5.cell (p := ⟨w.heap.size, 3, none⟩) (by show w.heap.size < _; exact Nat.lt_of_lt_of_le hi0 D4.size)).trans p3
                      replace u3 := (hb5.cell (p := ⟨w.heap.size + 1, 3, none⟩) (by show w.heap.size + 1 < _; exact Nat.lt_of_lt_of_le hi1 D4.size)).trans u3
                      replace p4 := (hb5.cell (p := ⟨w.heap.size, 4, none⟩) (by show w.heap.size < _; exact Nat.lt_of_lt_of_le hi0 D4.size)).trans p4
                      replace u4 := (hb5.cell (p := ⟨w.heap.size + 1, 4, none⟩) (by show w.heap.size + 1 < _; exact Nat.lt_of_lt_of_le hi1 D4.size)).trans u4
                      replace p5 := (hb5.cell (p := ⟨w.heap.size, 5, none⟩) (by show w.heap.size < _; exact Nat.lt_of_lt_of_le hi0 D4.size)).trans p5
                      replace u5 := (hb5.cell (p := ⟨w.heap.size + 1, 5, none⟩) (by show w.heap.size + 1 < _; exact Nat.lt_of_lt_of_le hi1 D4.size)).trans u5
                      replace p6 := (hb5.cell (p := ⟨w.heap.size, 6, none⟩) (by show w.heap.size < _; exact Nat.lt_of_lt_of_le hi0 D4.size)).trans p6
                      replace u6 := (hb5.cell (p := ⟨w.heap.size + 1, 6, none⟩) (by show w.heap.size + 1 < _; exact Nat.lt_of_lt_of_le hi1 D4.size)).trans u6
                      replace p7 := (hb5.cell (p := ⟨w.heap.size, 7, none⟩) (by show w.heap.size < _; exact Nat.lt_of_lt_of_le hi0 D4.size)).trans p7
                      replace u7 := (hb5.cell (p := ⟨w.heap.size + 1, 7, none⟩) (by show w.heap.size + 1 < _; exact Nat.lt_of_lt_of_le hi1 D4.size)).trans u7
                      replace p8 := (hb5.cell (p := ⟨w.heap.size, 8, none⟩) (by show w.heap.size < _; exact Nat.lt_of_lt_of_le hi0 D4.size)).trans p8
                      replace u8 := (hb5.cell (p := ⟨w.heap.size + 1, 8, none⟩) (by show w.heap.size + 1 < _; exact Nat.lt_of_lt_of_le hi1 D4.size)).trans u8
                      replace p9 := (hb5.cell (p := ⟨w.heap.size, 9, none⟩) (by show w.heap.size < _; exact Nat.lt_of_lt_of_le hi0 D4.size)).trans p9
                      replace u9 := (hb5.cell (p := ⟨w.heap.size + 1, 9, none⟩) (by show w.heap.size + 1 < _; exact Nat.lt_of_lt_of_le hi1 D4.size)).trans u9
                      go_wp2_with fail
                      go_ret
                      exact ⟨rfl, (B0.trans (D5.mono B0.size))⟩
                  · have hv : V = false := vno hV fun e => h8 (by rw [e])
                    clear hV
                    subst hv
                    have H8 : Hid (¬ x.funs = y.funs) := h8
                    clear h8
                    go_wp2_with fail
                    refine (sstr_impl x.out y.out a_out n_a_out c_out n_c_out lo hi lo' hi' true ⟨fun _ => H5.out, fun _ => rfl⟩ W0 l_out r_out n_r_out).mono ?_
                    rintro e w1 ⟨rfl, hq1⟩
                    have hb1 := quiet_below hq1
                    have D1 : Below W0.heap.size W0 w1 := hb1
                    replace p0 := (hb1.cell (p := ⟨w.heap.size, 0, none⟩) (by show w.heap.size < _; exact hi0)).trans p0
                    replace u0 := (hb1.cell (p := ⟨w.heap.size + 1, 0, none⟩) (by show w.heap.size + 1 < _; exact hi1)).trans u0
                    replace p1 := (hb1.cell (p := ⟨w.heap.size, 1, none⟩) (by show w.heap.size < _; exact hi0)).trans p1
                    replace u1 := (hb1.cell (p := ⟨w.heap.size + 1, 1, none⟩) (by show w.heap.size + 1 < _; exact hi1)).trans u1
                    replace p2 := (hb1.cell (p := ⟨w.heap.size, 2, none⟩) (by show w.heap.size < _; exact hi0)).trans p2
                    replace u2 := (hb1.cell (p := ⟨w.heap.size + 1, 2, none⟩) (by show w.heap.size + 1 < _; exact hi1)).trans u2
                    replace p3 := (hb1.cell (p := ⟨w.heap.size, 3, none⟩) (by show w.heap.size < _; exact hi0)).trans p3
                    replace u3 := (hb1.cell (p := ⟨w.heap.size + 1, 3, none⟩) (by show w.heap.size + 1 < _; exact hi1)).trans u3
                    replace p4 := (hb1.cell (p := ⟨w.heap.size, 4, none⟩) (by show w.heap.size < _; exact hi0)).trans p4
                    replace u4 := (hb1.cell (p := ⟨w.heap.size + 1, 4, none⟩) (by show w.heap.size + 1 < _; exact hi1)).trans u4
                    replace p5 := (hb1.cell (p := ⟨w.heap.size, 5, none⟩) (by show w.heap.size < _; exact hi0)).trans p5
                    replace u5 := (hb1.cell (p := ⟨w.heap.size + 1, 5, none⟩) (by show w.heap.size + 1 < _; exact hi1)).trans u5
                    replace p6 := (hb1.cell (p := ⟨w.heap.size, 6, none⟩) (by show w.heap.size < _; exact hi0)).trans p6
                    replace u6 := (hb1.cell (p := ⟨w.heap.size + 1, 6, none⟩) (by show w.heap.size + 1 < _; exact hi1)).trans u6
                    replace p7 := (hb1.cell (p := ⟨w.heap.size, 7, none⟩) (by show w.heap.size < _; exact hi0)).trans p7
                    replace u7 := (hb1.cell (p := ⟨w.heap.size + 1, 7, none⟩) (by show w.heap.size + 1 < _; exact hi1)).trans u7
                    replace p8 := (hb1.cell (p := ⟨w.heap.size, 8, none⟩) (by show w.heap.size < _; exact hi0)).trans p8
                    replace u8 := (hb1.cell (p := ⟨w.heap.size + 1, 8, none⟩) (by show w.heap.size + 1 < _; exact hi1)).trans u8
                    replace p9 := (hb1.cell (p := ⟨w.heap.size, 9, none⟩) (by show w.heap.size < _; exact hi0)).trans p9
                    replace u9 := (hb1.cell (p := ⟨w.heap.size + 1, 9, none⟩) (by show w.heap.size + 1 < _; exact hi1)).trans u9
                    go_wp2_with fail
                    refine (sval_impl x.heap.cells y.heap.cells a_heap_cells n_a_heap_cells c_heap_cells n_c_heap_cells lo hi lo' hi' true ⟨fun _ => H6.out, fun _ => rfl⟩ w1 l_heap_cells (r_heap_cells.below ValC_keeps D1 (Nat.le_trans hh B0.size)) (n_r_heap_cells.below ValC_keeps D1 (Nat.le_trans hh' B0.size))).mono ?_
                    rintro e w2 ⟨rfl, hq2⟩
                    have hb2 := quiet_below hq2
                    have D2 : Below W0.heap.size W0 w2 := D1.trans (hb2.mono D1.size)
                    replace p0 := (hb2.cell (p := ⟨w.heap.size, 0, none⟩) (by show w.heap.size < _; exact Nat.lt_of_lt_of_le hi0 D1.size)).trans p0
                    replace u0 := (hb2.cell (p := ⟨w.heap.size + 1, 0, none⟩) (by show w.heap.size + 1 < _; exact Nat.lt_of_lt_of_le hi1 D1.size)).trans u0
                    replace p1 := (hb2.cell (p := ⟨w.heap.size, 1, none⟩) (by show w.heap.size < _; exact Nat.lt_of_lt_of_le hi0 D1.size)).trans p1
                    replace u1 := (hb2.cell (p := ⟨w.heap.size + 1, 1, none⟩) (by show w.heap.size + 1 < _; exact Nat.lt_of_lt_of_le hi1 D1.size)).trans u1
                    replace p2 := (hb2.cell (p := ⟨w.heap.size, 2, none⟩) (by show w.heap.size < _; exact Nat.lt_of_lt_of_le hi0 D1.size)).trans p2
                    replace u2 := (hb2.cell (p := ⟨w.heap.size + 1, 2, none⟩) (by show w.heap.size + 1 < _; exact Nat.lt_of_lt_of_le hi1 D1.size)).trans u2
                    replace p3 := (hb2.cell (p := ⟨w.heap.size, 3, none⟩) (by show w.heap.size < _; exact Nat.lt_of_lt_of_le hi0 D1.size)).trans p3
                    replace u3 := (hb2.cell (p := ⟨w.heap.size + 1, 3, none⟩) (by show w.heap.size + 1 < _; exact Nat.lt_of_lt_of_le hi1 D1.size)).trans u3
                    replace p4 := (hb2.cell (p := ⟨w.heap.size, 4, none⟩) (by show w.heap.size < _; exact Nat.lt_of_lt_of_le hi0 D1.size)).trans p4
                    replace u4 := (hb2.cell (p := ⟨w.heap.size + 1, 4, none⟩) (by show w.heap.size + 1 < _; exact Nat.lt_of_lt_of_le hi1 D1.size)).trans u4
                    replace p5 := (hb2.cell (p := ⟨w.heap.size, 5, none⟩) (by show w.heap.size < _; exact Nat.lt_of_lt_of_le hi0 D1.size)).trans p5
                    replace u5 := (hb2.cell (p := ⟨w.heap.size + 1, 5, none⟩) (by show w.heap.size + 1 < _; exact Nat.lt_of_lt_of_le hi1 D1.size)).trans u5
                    replace p6 := (hb2.cell (p := ⟨w.heap.size, 6, none⟩) (by show w.heap.size < _; exact Nat.lt_of_lt_of_le hi0 D1.size)).trans p6
                    replace u6 := (hb2.cell (p := ⟨w.heap.size + 1, 6, none⟩) (by show w.heap.size + 1 < _; exact Nat.lt_of_lt_of_le hi1 D1.size)).trans u6
                    replace p7 := (hb2.cell (p := ⟨w.heap.size, 7, none⟩) (by show w.heap.size < _; exact Nat.lt_of_lt_of_le hi0 D1.size)).trans p7
                    replace u7 := (hb2.cell (p := ⟨w.heap.size + 1, 7, none⟩) (by show w.heap.size + 1 < _; exact Nat.lt_of_lt_of_le hi1 D1.size)).trans u7
                    replace p8 := (hb2.cell (p := ⟨w.heap.size, 8, none⟩) (by show w.heap.size < _; exact Nat.lt_of_lt_of_le hi0 D1.size)).trans p8
                    replace u8 := (hb2.cell (p := ⟨w.heap.size + 1, 8, none⟩) (by show w.heap.size + 1 < _; exact Nat.lt_of_lt_of_le hi1 D1.size)).trans u8
                    replace p9 := (hb2.cell (p := ⟨w.heap.size, 9, none⟩) (by show w.heap.size < _; exact Nat.lt_of_lt_of_le hi0 D1.size)).trans p9
                    replace u9 := (hb2.cell (p := ⟨w.heap.size + 1, 9, none⟩) (by show w.heap.size + 1 < _; exact Nat.lt_of_lt_of_le hi1 D1.size)).trans u9
                    go_wp2_with fail
                    refine (efp_impl x.heap.tables y.heap.tables a_heap_tables n_a_heap_tables c_heap_tables n_c_heap_tables lo hi lo' hi' true ⟨fun _ => H7.out, fun _ => rfl⟩ w2 (Nat.le_trans hh ((Nat.le_trans B0.size D2.size))) (Nat.le_trans hh' ((Nat.le_trans B0.size D2.size))) l_heap_tables (r_heap_tables.below PairSC_keeps D2 (Nat.le_trans hh B0.size)) (n_r_heap_tables.below PairSC_keeps D2 (Nat.le_trans hh' B0.size))).mono ?_
                    rintro e w3 ⟨rfl, hb3⟩
                    have D3 : Below W0.heap.size W0 w3 := D2.trans (hb3.mono D2.size)
                    replace p0 := (hb3.cell (p := ⟨w.heap.size, 0, none⟩) (by show w.heap.size < _; exact Nat.lt_of_lt_of_le hi0 D2.size)).trans p0
                    replace u0 := (hb3.cell (p := ⟨w.heap.size + 1, 0, none⟩) (by show w.heap.size + 1 < _; exact Nat.lt_of_lt_of_le hi1 D2.size)).trans u0
                    replace p1 := (hb3.cell (p := ⟨w.heap.size, 1, none⟩) (by show w.heap.size < _; exact Nat.lt_of_lt_of_le hi0 D2.size)).trans p1
                    replace u1 := (hb3.cell (p := ⟨w.heap.size + 1, 1, none⟩) (by show w.heap.size + 1 < _; exact Nat.lt_of_lt_of_le hi1 D2.size)).trans u1
                    replace p2 := (hb3.cell (p := ⟨w.heap.size, 2, none⟩) (by show w.heap.size < _; exact Nat.lt_of_lt_of_le hi0 D2.size)).trans p2
                    replace u2 := (hb3.cell (p := ⟨w.heap.size + 1, 2, none⟩) (by show w.heap.size + 1 < _; exact Nat.lt_of_lt_of_le hi1 D2.size)).trans u2
                    replace p3 := (hb3.cell (p := ⟨w.heap.size, 3, none⟩) (by show w.heap.size < _; exact Nat.lt_of_lt_of_le hi0 D2.size)).trans p3
                    replace u3 := (hb3.cell (p := ⟨w.heap.size + 1, 3, none⟩) (by show w.heap.size + 1 < _; exact Nat.lt_of_lt_of_le hi1 D2.size)).trans u3
                    replace p4 := (hb3.cell (p := ⟨w.heap.size, 4, none⟩) (by show w.heap.size < _; exact Nat.lt_of_lt_of_le hi0 D2.size)).trans p4
                    replace u4 := (hb3.cell (p := ⟨w.heap.size + 1, 4, none⟩) (by show w.heap.size + 1 < _; exact Nat.lt_of_lt_of_le hi1 D2.size)).trans u4
                    replace p5 := (hb3.cell (p := ⟨w.heap.size, 5, none⟩) (by show w.heap.size < _; exact Nat.lt_of_lt_of_le hi0 D2.size)).trans p5
                    replace u5 := (hb3.cell (p := ⟨w.heap.size + 1, 5, none⟩) (by show w.heap.size + 1 < _; exact Nat.lt_of_lt_of_le hi1 D2.size)).trans u5
                    replace p6 := (hb3.cell (p := ⟨w.heap.size, 6, none⟩) (by show w.heap.size < _; exact Nat.lt_of_lt_of_le hi0 D2.size)).trans p6
                    replace u6 := (hb3.cell (p := ⟨w.heap.size + 1, 6, none⟩) (by show w.heap.size + 1 < _; exact Nat.lt_of_lt_of_le hi1 D2.size)).trans u6
                    replace p7 := (hb3.cell (p := ⟨w.heap.size, 7, none⟩) (by show w.heap.size < _; exact Nat.lt_of_lt_of_le hi0 D2.size)).trans p7
                    replace u7 := (hb3.cell (p := ⟨w.heap.size + 1, 7, none⟩) (by show w.heap.size + 1 < _; exact Nat.lt_of_lt_of_le hi1 D2.size)).trans u7
                    replace p8 := (hb3.cell (p := ⟨w.heap.size, 8, none⟩) (by show w.heap.size < _; exact Nat.lt_of_lt_of_le hi0 D2.size)).trans p8
                    replace u8 := (hb3.cell (p := ⟨w.heap.size + 1, 8, none⟩) (by show w.heap.size + 1 < _; exact Nat.lt_of_lt_of_le hi1 D2.size)).trans u8
                    replace p9 := (hb3.cell (p := ⟨w.heap.size, 9, none⟩) (by show w.heap.size < _; exact Nat.lt_of_lt_of_le hi0 D2.size)).trans p9
                    replace u9 := (hb3.cell (p := ⟨w.heap.size + 1, 9, none⟩) (by show w.heap.size + 1 < _; exact Nat.lt_of_lt_of_le hi1 D2.size)).trans u9
                    go_wp2_with fail
                    refine (efc_impl x.funs y.funs a_funs n_a_funs c_funs n_c_funs lo hi lo' hi' false ⟨fun h => absurd h (by decide), fun h => absurd h H8.out⟩ w3 (Nat.le_trans hh ((Nat.le_trans B0.size D3.size))) (Nat.le_trans hh' ((Nat.le_trans B0.size D3.size))) l_funs (r_funs.below ClosureC_keeps D3 (Nat.le_trans hh B0.size)) (n_r_funs.below ClosureC_keeps D3 (Nat.le_trans hh' B0.size))).mono ?_
                    rintro e w4 ⟨rfl, hb4⟩
                    have D4 : Below W0.heap.size W0 w4 := D3.trans (hb4.mono D3.size)
                    replace p0 := (hb4.cell (p := ⟨w.heap.size, 0, none⟩) (by show w.heap.size < _; exact Nat.lt_of_lt_of_le hi0 D3.size)).trans p0
                    replace u0 := (hb4.cell (p := ⟨w.heap.size + 1, 0, none⟩) (by show w.heap.size + 1 < _; exact Nat.lt_of_lt_of_le hi1 D3.size)).trans u0
                    replace p1 := (hb4.cell (p := ⟨w.heap.size, 1, none⟩) (by show w.heap.size < _; exact Nat.lt_of_lt_of_le hi0 D3.size)).trans p1
                    replace u1 := (hb4.cell (p := ⟨w.heap.size + 1, 1, none⟩) (by show w.heap.size + 1 < _; exact Nat.lt_of_lt_of_le hi1 D3.size)).trans u1
                    replace p2 := (hb4.cell (p := ⟨w.heap.size, 2, none⟩) (by show w.heap.size < _; exact Nat.lt_of_lt_of_le hi0 D3.size)).trans p2
                    replace u2 := (hb4.cell (p := ⟨w.heap.size + 1, 2, none⟩) (by show w.heap.size + 1 < _; exact Nat.lt_of_lt_of_le hi1 D3.size)).trans u2
                    replace p3 := (hb4.cell (p := ⟨w.heap.size, 3, none⟩) (by show w.heap.size < _; exact Nat.lt_of_lt_of_le hi0 D3.size)).trans p3
                    replace u3 := (hb4.cell (p := ⟨w.heap.size + 1, 3, none⟩) (by show w.heap.size + 1 < _; exact Nat.lt_of_lt_of_le hi1 D3.size)).trans u3
                    replace p4 := (hb4.cell (p := ⟨w.heap.size, 4, none⟩) (by show w.heap.size < _; exact Nat.lt_of_lt_of_le hi0 D3.size)).trans p4
                    replace u4 := (hb4.cell (p := ⟨w.heap.size + 1, 4, none⟩) (by show w.heap.size + 1 < _; exact Nat.lt_of_lt_of_le hi1 D3.size)).trans u4
                    replace p5 := (hb4.cell (p := ⟨w.heap.size, 5, none⟩) (by show w.heap.size < _; exact Nat.lt_of_lt_of_le hi0 D3.size)).trans p5
                    replace u5 := (hb4.cell (p := ⟨w.heap.size + 1, 5, none⟩) (by show w.heap.size + 1 < _; exact Nat.lt_of_lt_of_le hi1 D3.size)).trans u5
                    replace p6 := (hb4.cell (p := ⟨w.heap.size, 6, none⟩) (by show w.heap.size < _; exact Nat.lt_of_lt_of_le hi0 D3.size)).trans p6
                    replace u6 := (hb4.cell (p := ⟨w.heap.size + 1, 6, none⟩) (by show w.heap.size + 1 < _; exact Nat.lt_of_lt_of_le hi1 D3.size)).trans u6
                    replace p7 := (hb4.cell (p := ⟨w.heap.size, 7, none⟩) (by show w.heap.size < _; exact Nat.lt_of_lt_of_le hi0 D3.size)).trans p7
                    replace u7 := (hb4.cell (p := ⟨w.heap.size + 1, 7, none⟩) (by show w.heap.size + 1 < _; exact Nat.lt_of_lt_of_le hi1 D3.size)).trans u7
                    replace p8 := (hb4.cell (p := ⟨w.heap.size, 8, none⟩) (by show w.heap.size < _; exact Nat.lt_of_lt_of_le hi0 D3.size)).trans p8
                    replace u8 := (hb4.cell (p := ⟨w.heap.size + 1, 8, none⟩) (by show w.heap.size + 1 < _; exact Nat.lt_of_lt_of_le hi1 D3.size)).trans u8
                    replace p9 := (hb4.cell (p := ⟨w.heap.size, 9, none⟩) (by show w.heap.size < _; exact Nat.lt_of_lt_of_le hi0 D3.size)).trans p9
                    replace u9 := (hb4.cell (p := ⟨w.heap.size + 1, 9, none⟩) (by show w.heap.size + 1 < _; exact Nat.lt_of_lt_of_le hi1 D3.size)).trans u9
                    go_wp2_with fail
                    go_ret
                    exact ⟨rfl, (B0.trans (D4.mono B0.size))⟩
                · have hv : V = false := vno hV fun e => h7 (by rw [e])
                  clear hV
                  subst hv
                  have H7 : Hid (¬ x.heap.tables = y.heap.tables) := h7
                  clear h7
                  go_wp2_with fail
                  refine (sstr_impl x.out y.out a_out n_a_out c_out n_c_out lo hi lo' hi' true ⟨fun _ => H5.out, fun _ => rfl⟩ W0 l_out r_out n_r_out).mono ?_
                  rintro e w1 ⟨rfl, hq1⟩
                  have hb1 := quiet_below hq1
                  have D1 : Below W0.heap.size W0 w1 := hb1
                  replace p0 := (hb1.cell (p := ⟨w.heap.size, 0, none⟩) (by show w.heap.size < _; exact hi0)).trans p0
                  replace u0 := (hb1.cell (p := ⟨w.heap.size + 1, 0, none⟩) (by show w.heap.size + 1 < _; exact hi1)).trans u0
                  replace p1 := (hb1.cell (p := ⟨w.heap.size, 1, none⟩) (by show w.heap.size < _; exact hi0)).trans p1
                  replace u1 := (hb1.cell (p := ⟨w.heap.size + 1, 1, none⟩) (by show w.heap.size + 1 < _; exact hi1)).trans u1
                  replace p2 := (hb1.cell (p := ⟨w.heap.size, 2, none⟩) (by show w.heap.size < _; exact hi0)).trans p2
                  replace u2 := (hb1.cell (p := ⟨w.heap.size + 1, 2, none⟩) (by show w.heap.size + 1 < _; exact hi1)).trans u2
                  replace p3 := (hb1.cell (p := ⟨w.heap.size, 3, none⟩) (by show w.heap.size < _; exact hi0)).trans p3
                  replace u3 := (hb1.cell (p := ⟨w.heap.size + 1, 3, none⟩) (by show w.heap.size + 1 < _; exact hi1)).trans u3
                  replace p4 := (hb1.cell (p := ⟨w.heap.size, 4, none⟩) (by show w.heap.size < _; exact hi0)).trans p4
                  replace u4 := (hb1.cell (p := ⟨w.heap.size + 1, 4, none⟩) (by show w.heap.size + 1 < _; exact hi1)).trans u4
                  replace p5 := (hb1.cell (p := ⟨w.heap.size, 5, none⟩) (by show w.heap.size < _; exact hi0)).trans p5
                  replace u5 := (hb1.cell (p := ⟨w.heap.size + 1, 5, none⟩) (by show w.heap.size + 1 < _; exact hi1)).trans u5
                  replace p6 := (hb1.cell (p := ⟨w.heap.size, 6, none⟩) (by show w.heap.size < _; exact hi0)).trans p6
                  replace u6 := (hb1.cell (p := ⟨w.heap.size + 1, 6, none⟩) (by show w.heap.size + 1 < _; exact hi1)).trans u6
                  replace p7 := (hb1.cell (p := ⟨w.heap.size, 7, none⟩) (by show w.heap.size < _; exact hi0)).trans p7
                  replace u7 := (hb1.cell (p := ⟨w.heap.size + 1, 7, none⟩) (by show w.heap.size + 1 < _; exact hi1)).trans u7
                  replace p8 := (hb1.cell (p := ⟨w.heap.size, 8, none⟩) (by show w.heap.size < _; exact hi0)).trans p8
                  replace u8 := (hb1.cell (p := ⟨w.heap.size + 1, 8, none⟩) (by show w.heap.size + 1 < _; exact hi1)).trans u8
                  replace p9 := (hb1.cell (p := ⟨w.heap.size, 9, none⟩) (by show w.heap.size < _; exact hi0)).trans p9
                  replace u9 := (hb1.cell (p := ⟨w.heap.size + 1, 9, none⟩) (by show w.heap.size + 1 < _; exact hi1)).trans u9
                  go_wp2_with fail
                  refine (sval_impl x.heap.cells y.heap.cells a_heap_cells n_a_heap_cells c_heap_cells n_c_heap_cells lo hi lo' hi' true ⟨fun _ => H6.out, fun _ => rfl⟩ w1 l_heap_cells (r_heap_cells.below ValC_keeps D1 (Nat.le_trans hh B0.size)) (n_r_heap_cells.below ValC_keeps D1 (Nat.le_trans hh' B0.size))).mono ?_
                  rintro e w2 ⟨rfl, hq2⟩
                  have hb2 := quiet_below hq2
                  have D2 : Below W0.heap.size W0 w2 := D1.trans (hb2.mono D1.size)
                  replace p0 := (hb2.cell (p := ⟨w.heap.size, 0, none⟩) (by show w.heap.size < _; exact Nat.lt_of_lt_of_le hi0 D1.size)).trans p0
                  replace u0 := (hb2.cell (p := ⟨w.heap.size + 1, 0, none⟩) (by show w.heap.size + 1 < _; exact Nat.lt_of_lt_of_le hi1 D1.size)).trans u0
                  replace p1 := (hb2.cell (p := ⟨w.heap.size, 1, none⟩) (by show w.heap.size < _; exact Nat.lt_of_lt_of_le hi0 D1.size)).trans p1
                  replace u1 := (hb2.cell (p := ⟨w.heap.size + 1, 1, none⟩) (by show w.heap.size + 1 < _; exact Nat.lt_of_lt_of_le hi1 D1.size)).trans u1
                  replace p2 := (hb2.cell (p := ⟨w.heap.size, 2, none⟩) (by show w.heap.size < _; exact Nat.lt_of_lt_of_le hi0 D1.size)).trans p2
                  replace u2 := (hb2.cell (p := ⟨w.heap.size + 1, 2, none⟩) (by show w.heap.size + 1 < _; exact Nat.lt_of_lt_of_le hi1 D1.size)).trans u2
                  replace p3 := (hb2.cell (p := ⟨w.heap.size, 3, none⟩) (by show w.heap.size < _; exact Nat.lt_of_lt_of_le hi0 D1.size)).trans p3
                  replace u3 := (hb2.cell (p := ⟨w.heap.size + 1, 3, none⟩) (by show w.heap.size + 1 < _; exact Nat.lt_of_lt_of_le hi1 D1.size)).trans u3
                  replace p4 := (hb2.cell (p := ⟨w.heap.size, 4, none⟩) (by show w.heap.size < _; exact Nat.lt_of_lt_of_le hi0 D1.size)).trans p4
                  replace u4 := (hb2.cell (p := ⟨w.heap.size + 1, 4, none⟩) (by show w.heap.size + 1 < _; exact Nat.lt_of_lt_of_le hi1 D1.size)).trans u4
                  replace p5 := (hb2.cell (p := ⟨w.heap.size, 5, none⟩) (by show w.heap.size < _; exact Nat.lt_of_lt_of_le hi0 D1.size)).trans p5
                  replace u5 := (hb2.cell (p := ⟨w.heap.size + 1, 5, none⟩) (by show w.heap.size + 1 < _; exact Nat.lt_of_lt_of_le hi1 D1.size)).trans u5
                  replace p6 := (hb2.cell (p := ⟨w.heap.size, 6, none⟩) (by show w.heap.size < _; exact Nat.lt_of_lt_of_le hi0 D1.size)).trans p6
                  replace u6 := (hb2.cell (p := ⟨w.heap.size + 1, 6, none⟩) (by show w.heap.size + 1 < _; exact Nat.lt_of_lt_of_le hi1 D1.size)).trans u6
                  replace p7 := (hb2.cell (p := ⟨w.heap.size, 7, none⟩) (by show w.heap.size < _; exact Nat.lt_of_lt_of_le hi0 D1.size)).trans p7
                  replace u7 := (hb2.cell (p := ⟨w.heap.size + 1, 7, none⟩) (by show w.heap.size + 1 < _; exact Nat.lt_of_lt_of_le hi1 D1.size)).trans u7
                  replace p8 := (hb2.cell (p := ⟨w.heap.size, 8, none⟩) (by show w.heap.size < _; exact Nat.lt_of_lt_of_le hi0 D1.size)).trans p8
                  replace u8 := (hb2.cell (p := ⟨w.heap.size + 1, 8, none⟩) (by show w.heap.size + 1 < _; exact Nat.lt_of_lt_of_le hi1 D1.size)).trans u8
                  replace p9 := (hb2.cell (p := ⟨w.heap.size, 9, none⟩) (by show w.heap.size < _; exact Nat.lt_of_lt_of_le hi0 D1.size)).trans p9
                  replace u9 := (hb2.cell (p := ⟨w.heap.size + 1, 9, none⟩) (by show w.heap.size + 1 < _; exact Nat.lt_of_lt_of_le hi1 D1.size)).trans u9
                  go_wp2_with fail
                  refine (efp_impl x.heap.tables y.heap.tables a_heap_tables n_a_heap_tables c_heap_tables n_c_heap_tables lo hi lo' hi' false ⟨fun h => absurd h (by decide), fun h => absurd h H7.out⟩ w2 (Nat.le_trans hh ((Nat.le_trans B0.size D2.size))) (Nat.le_trans hh' ((Nat.le_trans B0.size D2.size))) l_heap_tables (r_heap_tables.below PairSC_keeps D2 (Nat.le_trans hh B0.size)) (n_r_heap_tables.below PairSC_keeps D2 (Nat.le_trans hh' B0.size))).mono ?_
                  rintro e w3 ⟨rfl, hb3⟩
                  have D3 : Below W0.heap.size W0 w3 := D2.trans (hb3.mono D2.size)
                  replace p0 := (hb3.cell (p := ⟨w.heap.size, 0, none⟩) (by show w.heap.size < _; exact Nat.lt_of_lt_of_le hi0 D2.size)).trans p0
                  replace u0 := (hb3.cell (p := ⟨w.heap.size + 1, 0, none⟩) (by show w.heap.size + 1 < _; exact Nat.lt_of_lt_of_le hi1 D2.size)).trans u0
                  replace p1 := (hb3.cell (p := ⟨w.heap.size, 1, none⟩) (by show w.heap.size < _; exact Nat.lt_of_lt_of_le hi0 D2.size)).trans p1
                  replace u1 := (hb3.cell (p := ⟨w.heap.size + 1, 1, none⟩) (by show w.heap.size + 1 < _; exact Nat.lt_of_lt_of_le hi1 D2.size)).trans u1
                  replace p2 := (hb3.cell (p := ⟨w.heap.size, 2, none⟩) (by show w.heap.size < _; exact Nat.lt_of_lt_of_le hi0 D2.size)).trans p2
                  replace u2 := (hb3.cell (p := ⟨w.heap.size + 1, 2, none⟩) (by show w.heap.size + 1 < _; exact Nat.lt_of_lt_of_le hi1 D2.size)).trans u2
                  replace p3 := (hb3.cell (p := ⟨w.heap.size, 3, none⟩) (by show w.heap.size < _; exact Nat.lt_of_lt_of_le hi0 D2.size)).trans p3
                  replace u3 := (hb3.cell (p := ⟨w.heap.size + 1, 3, none⟩) (by show w.heap.size + 1 < _; exact Nat.lt_of_lt_of_le hi1 D2.size)).trans u3
                  replace p4 := (hb3.cell (p := ⟨w.heap.size, 4, none⟩) (by show w.heap.size < _; exact Nat.lt_of_lt_of_le hi0 D2.size)).trans p4
                  replace u4 := (hb3.cell (p := ⟨w.heap.size + 1, 4, none⟩) (by show w.heap.size + 1 < _; exact Nat.lt_of_lt_of_le hi1 D2.size)).trans u4
                  replace p5 := (hb3.cell (p := ⟨w.heap.size, 5, none⟩) (by show w.heap.size < _; exact Nat.lt_of_lt_of_le hi0 D2.size)).trans p5
                  replace u5 := (hb3.cell (p := ⟨w.heap.size + 1, 5, none⟩) (by show w.heap.size + 1 < _; exact Nat.lt_of_lt_of_le hi1 D2.size)).trans u5
                  replace p6 := (hb3.cell (p := ⟨w.heap.size, 6, none⟩) (by show w.heap.size < _; exact Nat.lt_of_lt_of_le hi0 D2.size)).trans p6
                  replace u6 := (hb3.cell (p := ⟨w.heap.size + 1, 6, none⟩) (by show w.heap.size + 1 < _; exact Nat.lt_of_lt_of_le hi1 D2.size)).trans u6
                  replace p7 := (hb3.cell (p := ⟨w.heap.size, 7, none⟩) (by show w.heap.size < _; exact Nat.lt_of_lt_of_le hi0 D2.size)).trans p7
                  replace u7 := (hb3.cell (p := ⟨w.heap.size + 1, 7, none⟩) (by show w.heap.size + 1 < _; exact Nat.lt_of_lt_of_le hi1 D2.size)).trans u7
                  replace p8 := (hb3.cell (p := ⟨w.heap.size, 8, none⟩) (by show w.heap.size < _; exact Nat.lt_of_lt_of_le hi0 D2.size)).trans p8
                  replace u8 := (hb3.cell (p := ⟨w.heap.size + 1, 8, none⟩) (by show w.heap.size + 1 < _; exact Nat.lt_of_lt_of_le hi1 D2.size)).trans u8
                  replace p9 := (hb3.cell (p := ⟨w.heap.size, 9, none⟩) (by show w.heap.size < _; exact Nat.lt_of_lt_of_le hi0 D2.size)).trans p9
                  replace u9 := (hb3.cell (p := ⟨w.heap.size + 1, 9, none⟩) (by show w.heap.size + 1 < _; exact Nat.lt_of_lt_of_le hi1 D2.size)).trans u9
                  go_wp2_with fail
                  go_ret
                  exact ⟨rfl, (B0.trans (D3.mono B0.size))⟩
              · have hv : V = false := vno hV fun e => h6 (by rw [e])
                clear hV
                subst hv
                have H6 : Hid (¬ x.heap.cells = y.heap.cells) := h6
                clear h6
                go_wp2_with fail
                refine (sstr_impl x.out y.out a_out n_a_out c_out n_c_out lo hi lo' hi' true ⟨fun _ => H5.out, fun _ => rfl⟩ W0 l_out r_out n_r_out).mono ?_
                rintro e w1 ⟨rfl, hq1⟩
                have hb1 := quiet_below hq1
                have D1 : Below W0.heap.size W0 w1 := hb1
                replace p0 := (hb1.cell (p := ⟨w.heap.size, 0, none⟩) (by show w.heap.size < _; exact hi0)).trans p0
                replace u0 := (hb1.cell (p := ⟨w.heap.size + 1, 0, none⟩) (by show w.heap.size + 1 < _; exact hi1)).trans u0
                replace p1 := (hb1.cell (p := ⟨w.heap.size, 1, none⟩) (by show w.heap.size < _; exact hi0)).trans p1
                replace u1 := (hb1.cell (p := ⟨w.heap.size + 1, 1, none⟩) (by show w.heap.size + 1 < _; exact hi1)).trans u1
                replace p2 := (hb1.cell (p := ⟨w.heap.size, 2, none⟩) (by show w.heap.size < _; exact hi0)).trans p2
                replace u2 := (hb1.cell (p := ⟨w.heap.size + 1, 2, none⟩) (by show w.heap.size + 1 < _; exact hi1)).trans u2
                replace p3 := (hb1.cell (p := ⟨w.heap.size, 3, none⟩) (by show w.heap.size < _; exact hi0)).trans p3
                replace u3 := (hb1.cell (p := ⟨w.heap.size + 1, 3, none⟩) (by show w.heap.size + 1 < _; exact hi1)).trans u3
                replace p4 := (hb1.cell (p := ⟨w.heap.size, 4, none⟩) (by show w.heap.size < _; exact hi0)).trans p4
                replace u4 := (hb1.cell (p := ⟨w.heap.size + 1, 4, none⟩) (by show w.heap.size + 1 < _; exact hi1)).trans u4
                replace p5 := (hb1.cell (p := ⟨w.heap.size, 5, none⟩) (by show w.heap.size < _; exact hi0)).trans p5
                replace u5 := (hb1.cell (p := ⟨w.heap.size + 1, 5, none⟩) (by show w.heap.size + 1 < _; exact hi1)).trans u5
                replace p6 := (hb1.cell (p := ⟨w.heap.size, 6, none⟩) (by show w.heap.size < _; exact hi0)).trans p6
                replace u6 := (hb1.cell (p := ⟨w.heap.size + 1, 6, none⟩) (by show w.heap.size + 1 < _; exact hi1)).trans u6
                replace p7 := (hb1.cell (p := ⟨w.heap.size, 7, none⟩) (by show w.heap.size < _; exact hi0)).trans p7
                replace u7 := (hb1.cell (p := ⟨w.heap.size + 1, 7, none⟩) (by show w.heap.size + 1 < _; exact hi1)).trans u7
                replace p8 := (hb1.cell (p := ⟨w.heap.size, 8, none⟩) (by show w.heap.size < _; exact hi0)).trans p8
                replace u8 := (hb1.cell (p := ⟨w.heap.size + 1, 8, none⟩) (by show w.heap.size + 1 < _; exact hi1)).trans u8
                replace p9 := (hb1.cell (p := ⟨w.heap.size, 9, none⟩) (by show w.heap.size < _; exact hi0)).trans p9
                replace u9 := (hb1.cell (p := ⟨w.heap.size + 1, 9, none⟩) (by show w.heap.size + 1 < _; exact hi1)).trans u9
                go_wp2_with fail
                refine (sval_impl x.heap.cells y.heap.cells a_heap_cells n_a_heap_cells c_heap_cells n_c_heap_cells lo hi lo' hi' false ⟨fun h => absurd h (by decide), fun h => absurd h H6.out⟩ w1 l_heap_cells (r_heap_cells.below ValC_keeps D1 (Nat.le_trans hh B0.size)) (n_r_heap_cells.below ValC_keeps D1 (Nat.le_trans hh' B0.size))).mono ?_
                rintro e w2 ⟨rfl, hq2⟩
                have hb2 := quiet_below hq2
                have D2 : Below W0.heap.size W0 w2 := D1.trans (hb2.mono D1.size)
                replace p0 := (hb2.cell (p := ⟨w.heap.size, 0, none⟩) (by show w.heap.size < _; exact Nat.lt_of_lt_of_le hi0 D1.size)).trans p0
                replace u0 := (hb2.cell (p := ⟨w.heap.size + 1, 0, none⟩) (by show w.heap.size + 1 < _; exact Nat.lt_of_lt_of_le hi1 D1.size)).trans u0
                replace p1 := (hb2.cell (p := ⟨w.heap.size, 1, none⟩) (by show w.heap.size < _; exact Nat.lt_of_lt_of_le hi0 D1.size)).trans p1
                replace u1 := (hb2.cell (p := ⟨w.heap.size + 1, 1, none⟩) (by show w.heap.size + 1 < _; exact Nat.lt_of_lt_of_le hi1 D1.size)).trans u1
                replace p2 := (hb2.cell (p := ⟨w.heap.size, 2, none⟩) (by show w.heap.size < _; exact Nat.lt_of_lt_of_le hi0 D1.size)).trans p2
                replace u2 := (hb2.cell (p := ⟨w.heap.size + 1, 2, none⟩) (by show w.heap.size + 1 < _; exact Nat.lt_of_lt_of_le hi1 D1.size)).trans u2
                replace p3 := (hb2.cell (p := ⟨w.heap.size, 3, none⟩) (by show w.heap.size < _; exact Nat.lt_of_lt_of_le hi0 D1.size)).trans p3
                replace u3 := (hb2.cell (p := ⟨w.heap.size + 1, 3, none⟩) (by show w.heap.size + 1 < _; exact Nat.lt_of_lt_of_le hi1 D1.size)).trans u3
                replace p4 := (hb2.cell (p := ⟨w.heap.size, 4, none⟩) (by show w.heap.size < _; exact Nat.lt_of_lt_of_le hi0 D1.size)).trans p4
                replace u4 := (hb2.cell (p := ⟨w.heap.size + 1, 4, none⟩) (by show w.heap.size + 1 < _; exact Nat.lt_of_lt_of_le hi1 D1.size)).trans u4
                replace p5 := (hb2.cell (p := ⟨w.heap.size, 5, none⟩) (by show w.heap.size < _; exact Nat.lt_of_lt_of_le hi0 D1.size)).trans p5
                replace u5 := (hb2.cell (p := ⟨w.heap.size + 1, 5, none⟩) (by show w.heap.size + 1 < _; exact Nat.lt_of_lt_of_le hi1 D1.size)).trans u5
                replace p6 := (hb2.cell (p := ⟨w.heap.size, 6, none⟩) (by show w.heap.size < _; exact Nat.lt_of_lt_of_le hi0 D1.size)).trans p6
                replace u6 := (hb2.cell (p := ⟨w.heap.size + 1, 6, none⟩) (by show w.heap.size + 1 < _; exact Nat.lt_of_lt_of_le hi1 D1.size)).trans u6
                replace p7 := (hb2.cell (p := ⟨w.heap.size, 7, none⟩) (by show w.heap.size < _; exact Nat.lt_of_lt_of_le hi0 D1.size)).trans p7
                replace u7 := (hb2.cell (p := ⟨w.heap.size + 1, 7, none⟩) (by show w.heap.size + 1 < _; exact Nat.lt_of_lt_of_le hi1 D1.size)).trans u7
                replace p8 := (hb2.cell (p := ⟨w.heap.size, 8, none⟩) (by show w.heap.size < _; exact Nat.lt_of_lt_of_le hi0 D1.size)).trans p8
                replace u8 := (hb2.cell (p := ⟨w.heap.size + 1, 8, none⟩) (by show w.heap.size + 1 < _; exact Nat.lt_of_lt_of_le hi1 D1.size)).trans u8
                replace p9 := (hb2.cell (p := ⟨w.heap.size, 9, none⟩) (by show w.heap.size < _; exact Nat.lt_of_lt_of_le hi0 D1.size)).trans p9
                replace u9 := (hb2.cell (p := ⟨w.heap.size + 1, 9, none⟩) (by show w.heap.size + 1 < _; exact Nat.lt_of_lt_of_le hi1 D1.size)).trans u9
                go_wp2_with fail
                go_ret
                exact ⟨rfl, (B0.trans (D2.mono B0.size))⟩
            · have hv : V = false := vno hV fun e => h5 (by rw [e])
              clear hV
              subst hv
              have H5 : Hid (¬ x.out = y.out) := h5
              clear h5
              go_wp2_with fail
              refine (sstr_impl x.out y.out a_out n_a_out c_out n_c_out lo hi lo' hi' false ⟨fun h => absurd h (by decide), fun h => absurd h H5.out⟩ W0 l_out r_out n_r_out).mono ?_
              rintro e w1 ⟨rfl, hq1⟩
              have hb1 := quiet_below hq1
              have D1 : Below W0.heap.size W0 w1 := hb1
              replace p0 := (hb1.cell (p := ⟨w.heap.size, 0, none⟩) (by show w.heap.size < _; exact hi0)).trans p0
              replace u0 := (hb1.cell (p := ⟨w.heap.size + 1, 0, none⟩) (by show w.heap.size + 1 < _; exact hi1)).trans u0
              replace p1 := (hb1.cell (p := ⟨w.heap.size, 1, none⟩) (by show w.heap.size < _; exact hi0)).trans p1
              replace u1 := (hb1.cell (p := ⟨w.heap.size + 1, 1, none⟩) (by show w.heap.size + 1 < _; exact hi1)).trans u1
              replace p2 := (hb1.cell (p := ⟨w.heap.size, 2, none⟩) (by show w.heap.size < _; exact hi0)).trans p2
              replace u2 := (hb1.cell (p := ⟨w.heap.size + 1, 2, none⟩) (by show w.heap.size + 1 < _; exact hi1)).trans u2
              replace p3 := (hb1.cell (p := ⟨w.heap.size, 3, none⟩) (by show w.heap.size < _; exact hi0)).trans p3
              replace u3 := (hb1.cell (p := ⟨w.heap.size + 1, 3, none⟩) (by show w.heap.size + 1 < _; exact hi1)).trans u3
              replace p4 := (hb1.cell (p := ⟨w.heap.size, 4, none⟩) (by show w.heap.size < _; exact hi0)).trans p4
              replace u4 := (hb1.cell (p := ⟨w.heap.size + 1, 4, none⟩) (by show w.heap.size + 1 < _; exact hi1)).trans u4
              replace p5 := (hb1.cell (p := ⟨w.heap.size, 5, none⟩) (by show w.heap.size < _; exact hi0)).trans p5
              replace u5 := (hb1.cell (p := ⟨w.heap.size + 1, 5, none⟩) (by show w.heap.size + 1 < _; exact hi1)).trans u5
              replace p6 := (hb1.cell (p := ⟨w.heap.size, 6, none⟩) (by show w.heap.size < _; exact hi0)).trans p6
              replace u6 := (hb1.cell (p := ⟨w.heap.size + 1, 6, none⟩) (by show w.heap.size + 1 < _; exact hi1)).trans u6
              replace p7 := (hb1.cell (p := ⟨w.heap.size, 7, none⟩) (by show w.heap.size < _; exact hi0)).trans p7
              replace u7 := (hb1.cell (p := ⟨w.heap.size + 1, 7, none⟩) (by show w.heap.size + 1 < _; exact hi1)).trans u7
              replace p8 := (hb1.cell (p := ⟨w.heap.size, 8, none⟩) (by show w.heap.size < _; exact hi0)).trans p8
              replace u8 := (hb1.cell (p := ⟨w.heap.size + 1, 8, none⟩) (by show w.heap.size + 1 < _; exact hi1)).trans u8
              replace p9 := (hb1.cell (p := ⟨w.heap.size, 9, none⟩) (by show w.heap.size < _; exact hi0)).trans p9
              replace u9 := (hb1.cell (p := ⟨w.heap.size + 1, 9, none⟩) (by show w.heap.size + 1 < _; exact hi1)).trans u9
              go_wp2_with fail
              go_ret
              exact ⟨rfl, (B0.trans (D1.mono B0.size))⟩
          · have hv : V = false := vno hV fun e => h4 (by rw [e])
            clear hV
            subst hv
            have hs := str_ne h4
            go_wp2_with fail
            go_ret
            exact ⟨rfl, B0⟩
        · have hv : V = false := vno hV fun e => h3 (by rw [e])
          clear hV
          subst hv
          go_wp2_with fail
          go_ret
          exact ⟨rfl, B0⟩
      · have hv : V = false := vno hV fun e => h2 (by rw [e])
        clear hV
        subst hv
        go_wp2_with fail
        go_ret
        exact ⟨rfl, B0⟩
    · have hv : V = false := vno hV fun e => h1 (by rw [e])
      clear hV
      subst hv
      go_wp2_with fail
      go_ret
      exact ⟨rfl, B0⟩
  · have hv : V = false := vno hV fun e => h0 (by rw [e])
    clear hV
    subst hv
    go_wp2_with fail
    go_ret
    exact ⟨rfl, B0⟩
end Go.Proofs.Ytgibejgemokljaa
