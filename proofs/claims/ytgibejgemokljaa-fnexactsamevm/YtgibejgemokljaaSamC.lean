/- Closures and frames compared: the program. -/
import Derived.Test.YtgibejgemokljaaSamB
import Derived.Deep.Cut
namespace Go.Proofs.Ytgibejgemokljaa
open Go.RowKit

theorem below_drewN' {b k : Nat} {w w' : World} (h : Below b w w') : Below b w (w'.drewN k) := ⟨h.os, h.tape, h.output, h.size, h.block⟩
theorem rows2' (w : World) (A B : Obj) : ((w.alloc A).alloc B).heap[w.heap.size]? = some A ∧ ((w.alloc A).alloc B).heap[w.heap.size + 1]? = some B ∧ ((w.alloc A).alloc B).heap.size = w.heap.size + 2 ∧ Below w.heap.size w ((w.alloc A).alloc B) := by
  have ha := bel_alloc w A
  have hb := bel_alloc (w.alloc A) B
  refine ⟨(hb.block _ (by simp)).trans (heap_alloc_new w A), ?_, by simp, ha.trans (hb.mono (by simp))⟩
  have := heap_alloc_new (w.alloc A) B
  rwa [size_alloc] at this
theorem quiet_below {w w' : World} (h : ∃ m, w' = w.drewN m) : Below w.heap.size w w' := by
  obtain ⟨m, rfl⟩ := h
  exact below_drewN' (Below.refl _ _)
theorem clo_impl_ext (x y : ClosureD) (h0 : x.proto = y.proto) (h1 : x.ups = y.ups) : x = y := by
  cases x; cases y; simp_all
set_option maxRecDepth 100000 in
set_option maxHeartbeats 1600000 in
theorem clo_impl (x y : ClosureD) (cs cs' : List Value) (lo hi lo' hi' : Nat) (V : Bool) (hV : V = true ↔ x = y) (w : World) (hh : hi ≤ w.heap.size) (hh' : hi' ≤ w.heap.size) (hC : ClosureC w lo hi x cs) (hD : ClosureC w lo' hi' y cs') :
    Calls Try.prog 47 #[.agg cs.toArray, .agg cs'.toArray] w fun e w' => e = .returned (.bool V) ∧ Below w.heap.size w w' := by
  obtain ⟨ok, a_ups, c_ups, rfl, l_ups, r_ups⟩ := hC
  obtain ⟨n_ok, n_a_ups, n_c_ups, rfl, n_l_ups, n_r_ups⟩ := hD
  obtain ⟨rA, rB, hs0, B0⟩ := rows2' w (Obj.cells #[.int .i64 x.proto, .slice a_ups x.ups.length c_ups] 78) (Obj.cells #[.int .i64 y.proto, .slice n_a_ups y.ups.length n_c_ups] 78)
  have r_ups := r_ups.below IntC_keeps B0 hh
  have n_r_ups := n_r_ups.below IntC_keeps B0 hh'
  go_enter Try.func47, Try.ntmps47
  go_upto_region 1 with fail
  obtain ⟨W0, hW0⟩ : ∃ W0, W0 = (w.alloc (Obj.cells #[.int .i64 x.proto, .slice a_ups x.ups.length c_ups] 78)).alloc (Obj.cells #[.int .i64 y.proto, .slice n_a_ups y.ups.length n_c_ups] 78) := ⟨_, rfl⟩
  rw [← hW0]
  rw [← hW0] at rA rB hs0 B0 r_ups n_r_ups
  have p0 := cell_of_row _ _ 0 _ _ _ rA
  have u0 := cell_of_row _ _ 0 _ _ _ rB
  have p1 := cell_of_row _ _ 1 _ _ _ rA
  have u1 := cell_of_row _ _ 1 _ _ _ rB
  simp only [List.getElem?_toArray, List.getElem?_cons_zero, List.getElem?_cons_succ] at p0 u0 p1 u1
  have hi0 : w.heap.size < W0.heap.size := by omega
  have hi1 : w.heap.size + 1 < W0.heap.size := by omega
  clear rA rB hW0
  by_cases h0 : x.proto = y.proto
  · skip
    by_cases h1 : x.ups = y.ups
    · skip
      have H1 : Hid (x.ups = y.ups) := h1
      clear h1
      have hv : V = true := vyes hV (clo_impl_ext x y h0 H1.out)
      clear hV
      subst hv
      go_wp2_with fail
      refine (sint_impl x.ups y.ups a_ups n_a_ups c_ups n_c_ups lo hi lo' hi' true ⟨fun _ => H1.out, fun _ => rfl⟩ W0 l_ups r_ups n_r_ups).mono ?_
      rintro e w1 ⟨rfl, hq1⟩
      have hb1 := quiet_below hq1
      have D1 : Below W0.heap.size W0 w1 := hb1
      replace p0 := (hb1.cell (p := ⟨w.heap.size, 0, none⟩) (by show w.heap.size < _; exact hi0)).trans p0
      replace u0 := (hb1.cell (p := ⟨w.heap.size + 1, 0, none⟩) (by show w.heap.size + 1 < _; exact hi1)).trans u0
      replace p1 := (hb1.cell (p := ⟨w.heap.size, 1, none⟩) (by show w.heap.size < _; exact hi0)).trans p1
      replace u1 := (hb1.cell (p := ⟨w.heap.size + 1, 1, none⟩) (by show w.heap.size + 1 < _; exact hi1)).trans u1
      go_wp2_with fail
      go_ret
      exact ⟨rfl, (B0.trans (D1.mono B0.size))⟩
    · have hv : V = false := vno hV fun e => h1 (by rw [e])
      clear hV
      subst hv
      have H1 : Hid (¬ x.ups = y.ups) := h1
      clear h1
      go_wp2_with fail
      refine (sint_impl x.ups y.ups a_ups n_a_ups c_ups n_c_ups lo hi lo' hi' false ⟨fun h => absurd h (by decide), fun h => absurd h H1.out⟩ W0 l_ups r_ups n_r_ups).mono ?_
      rintro e w1 ⟨rfl, hq1⟩
      have hb1 := quiet_below hq1
      have D1 : Below W0.heap.size W0 w1 := hb1
      replace p0 := (hb1.cell (p := ⟨w.heap.size, 0, none⟩) (by show w.heap.size < _; exact hi0)).trans p0
      replace u0 := (hb1.cell (p := ⟨w.heap.size + 1, 0, none⟩) (by show w.heap.size + 1 < _; exact hi1)).trans u0
      replace p1 := (hb1.cell (p := ⟨w.heap.size, 1, none⟩) (by show w.heap.size < _; exact hi0)).trans p1
      replace u1 := (hb1.cell (p := ⟨w.heap.size + 1, 1, none⟩) (by show w.heap.size + 1 < _; exact hi1)).trans u1
      go_wp2_with fail
      go_ret
      exact ⟨rfl, (B0.trans (D1.mono B0.size))⟩
  · have hv : V = false := vno hV fun e => h0 (by rw [e])
    clear hV
    subst hv
    go_wp2_with fail
    go_ret
    exact ⟨rfl, B0⟩
theorem fra_impl_ext (x y : FrameD) (h0 : x.proto = y.proto) (h1 : x.pc = y.pc) (h2 : x.guard = y.guard) (h3 : x.slots = y.slots) (h4 : x.ups = y.ups) (h5 : x.stack = y.stack) : x = y := by
  cases x; cases y; simp_all
set_option maxRecDepth 100000 in
set_option maxHeartbeats 1600000 in
theorem fra_impl (x y : FrameD) (cs cs' : List Value) (lo hi lo' hi' : Nat) (V : Bool) (hV : V = true ↔ x = y) (w : World) (hh : hi ≤ w.heap.size) (hh' : hi' ≤ w.heap.size) (hC : FrameC w lo hi x cs) (hD : FrameC w lo' hi' y cs') :
    Calls Try.prog 49 #[.agg cs.toArray, .agg cs'.toArray] w fun e w' => e = .returned (.bool V) ∧ Below w.heap.size w w' := by
  obtain ⟨ok, a_slots, c_slots, a_ups, c_ups, a_stack, c_stack, rfl, l_slots, r_slots, l_ups, r_ups, l_stack, r_stack⟩ := hC
  obtain ⟨n_ok, n_a_slots, n_c_slots, n_a_ups, n_c_ups, n_a_stack, n_c_stack, rfl, n_l_slots, n_r_slots, n_l_ups, n_r_ups, n_l_stack, n_r_stack⟩ := hD
  obtain ⟨rA, rB, hs0, B0⟩ := rows2' w (Obj.cells #[.int .i64 x.proto, .int .i64 x.pc, .slice a_slots x.slots.length c_slots, .slice a_ups x.ups.length c_ups, .slice a_stack x.stack.length c_stack, .bool x.guard] 81) (Obj.cells #[.int .i64 y.proto, .int .i64 y.pc, .slice n_a_slots y.slots.length n_c_slots, .slice n_a_ups y.ups.length n_c_ups, .slice n_a_stack y.stack.length n_c_stack, .bool y.guard] 81)
  have r_slots := r_slots.below IntC_keeps B0 hh
  have n_r_slots := n_r_slots.below IntC_keeps B0 hh'
  have r_ups := r_ups.below IntC_keeps B0 hh
  have n_r_ups := n_r_ups.below IntC_keeps B0 hh'
  have r_stack := r_stack.below ValC_keeps B0 hh
  have n_r_stack := n_r_stack.below ValC_keeps B0 hh'
  go_enter Try.func49, Try.ntmps49
  go_upto_region 1 with fail
  obtain ⟨W0, hW0⟩ : ∃ W0, W0 = (w.alloc (Obj.cells #[.int .i64 x.proto, .int .i64 x.pc, .slice a_slots x.slots.length c_slots, .slice a_ups x.ups.length c_ups, .slice a_stack x.stack.length c_stack, .bool x.guard] 81)).alloc (Obj.cells #[.int .i64 y.proto, .int .i64 y.pc, .slice n_a_slots y.slots.length n_c_slots, .slice n_a_ups y.ups.length n_c_ups, .slice n_a_stack y.stack.length n_c_stack, .bool y.guard] 81) := ⟨_, rfl⟩
  rw [← hW0]
  rw [← hW0] at rA rB hs0 B0 r_slots n_r_slots r_ups n_r_ups r_stack n_r_stack
  have p0 := cell_of_row _ _ 0 _ _ _ rA
  have u0 := cell_of_row _ _ 0 _ _ _ rB
  have p1 := cell_of_row _ _ 1 _ _ _ rA
  have u1 := cell_of_row _ _ 1 _ _ _ rB
  have p2 := cell_of_row _ _ 2 _ _ _ rA
  have u2 := cell_of_row _ _ 2 _ _ _ rB
  have p3 := cell_of_row _ _ 3 _ _ _ rA
  have u3 := cell_of_row _ _ 3 _ _ _ rB
  have p4 := cell_of_row _ _ 4 _ _ _ rA
  have u4 := cell_of_row _ _ 4 _ _ _ rB
  have p5 := cell_of_row _ _ 5 _ _ _ rA
  have u5 := cell_of_row _ _ 5 _ _ _ rB
  simp only [List.getElem?_toArray, List.getElem?_cons_zero, List.getElem?_cons_succ] at p0 u0 p1 u1 p2 u2 p3 u3 p4 u4 p5 u5
  have hi0 : w.heap.size < W0.heap.size := by omega
  have hi1 : w.heap.size + 1 < W0.heap.size := by omega
  clear rA rB hW0
  by_cases h0 : x.proto = y.proto
  · skip
    by_cases h1 : x.pc = y.pc
    · skip
      by_cases h2 : x.guard = y.guard
      · skip
        by_cases h3 : x.slots = y.slots
        · skip
          have H3 : Hid (x.slots = y.slots) := h3
          clear h3
          by_cases h4 : x.ups = y.ups
          · skip
            have H4 : Hid (x.ups = y.ups) := h4
            clear h4
            by_cases h5 : x.stack = y.stack
            · skip
              have H5 : Hid (x.stack = y.stack) := h5
              clear h5
              have hv : V = true := vyes hV (fra_impl_ext x y h0 h1 h2 H3.out H4.out H5.out)
              clear hV
              subst hv
              go_wp2_with fail
              refine (sint_impl x.slots y.slots a_slots n_a_slots c_slots n_c_slots lo hi lo' hi' true ⟨fun _ => H3.out, fun _ => rfl⟩ W0 l_slots r_slots n_r_slots).mono ?_
              rintro e w1 ⟨rfl, hq1⟩
              have hb1 := quiet_below hq1
              have D1 : Below W0.heap.size W0 w1 := hb1
              replace p0 := (hb1.cell (p := ⟨w.heap.size, 0, none⟩) (by show w.heap.size < _; exact hi0)).trans p0
              replace u0 := (hb1.cell (p := ⟨w.heap.size + 1, 0, none⟩) (by show w.heap.size + 1 < _; exact hi1)).trans u0
              replace p1 := (hb1.cell (p := ⟨w.heap.size, 1, none⟩) (by show w.heap.size < _; exact hi0)).trans p1
              replace u1 := (hb1.cell (p := ⟨w.heap.size + 1, 1, none⟩) (by show w.heap.size + 1 < _; exact hi1)).trans u1
              replace p2 := (hb1.cell (p := ⟨w.heap.size, 2, none⟩) (by show w.heap.size < _; exact hi0)).trans p2
              replace u2 := (hb1.cell (p := ⟨w.heap.size + 1, 2, none⟩) (by show w.heap.size + 1 < _; exact hi1)).trans u2
              replace p3 := (hb1.cell (p := ⟨w.heap.size, 3, none⟩) (by show w.heap.size < _; exact hi0)).trans p3
              replace u3 := (hb1.cell (p := ⟨w.heap.size + 1, 3, none⟩) (by show w.heap.size + 1 < _; exact hi1)).trans u3
              replace p4 := (hb1.cell (p := ⟨w.heap.size, 4, none⟩) (by show w.heap.size < _; exact hi0)).trans p4
              replace u4 := (hb1.cell (p := ⟨w.heap.size + 1, 4, none⟩) (by show w.heap.size + 1 < _; exact hi1)).trans u4
              replace p5 := (hb1.cell (p := ⟨w.heap.size, 5, none⟩) (by show w.heap.size < _; exact hi0)).trans p5
              replace u5 := (hb1.cell (p := ⟨w.heap.size + 1, 5, none⟩) (by show w.heap.size + 1 < _; exact hi1)).trans u5
              go_wp2_with fail
              refine (sint_impl x.ups y.ups a_ups n_a_ups c_ups n_c_ups lo hi lo' hi' true ⟨fun _ => H4.out, fun _ => rfl⟩ w1 l_ups (r_ups.below IntC_keeps D1 (Nat.le_trans hh B0.size)) (n_r_ups.below IntC_keeps D1 (Nat.le_trans hh' B0.size))).mono ?_
              rintro e w2 ⟨rfl, hq2⟩
              have hb2 := quiet_below hq2
              have D2 : Below W0.heap.size W0 w2 := D1.trans (hb2.mono D1.size)
              replace p0 := (hb2.cell (p := ⟨w.heap.size, 0, none⟩) (by show w.heap.size < _; exact Nat.lt_of_lt_of_le hi0 D1.size)).trans p0
              replace u0 := (hb2.cell (p := ⟨w.heap.size + 1, 0, none⟩) (by show w.heap.size + 1 < _; exact Nat.lt_of_lt_of_le hi1 D1.size)).trans u0
              replace p1 := (hb2.cell (p := ⟨w.heap.size, 1, none⟩) (by show w.heap.size < _; exact Nat.lt_of_lt_of_le hi0 D1.size)).trans p1
              replace u1 := (hb2.cell (p := ⟨w.heap.size + 1, 1, none⟩) (by show w.heap.size + 1 < _; exact Nat.lt_of_lt_of_le hi1 D1.size)).trans u1
              replace p2 := (hb2.cell (p := ⟨w.heap.size, 2, none⟩) (by show w.heap.size < _; exact Nat.lt_of_lt_of_le hi0 D1.size)).trans p2
              replace u2 := (hb2.cell (p := ⟨w.heap.size + 1, 2, none⟩) (by show w.heap.size + 1 < _; exact Nat.lt_of_lt_of_le hi1 D1.size)).trans u2
              replace p3 := (hb2.cell (p := ⟨w.heap.size, 3, none⟩) (by show w.heap.size < _; exact Nat.lt_of_lt_of_le hi0 D1.size)).trans p3
              replace u3 := (hb2.cell (p := ⟨w.heap.size + 1, 3, none⟩) (by show w.heap.size + 1 < _; exact Nat.lt_of_lt_of_le hi1 D1.size)).trans u3
              replace p4 := (hb2.cell (p := ⟨w.heap.size, 4, none⟩) (by show w.heap.size < _; exact Nat.lt_of_lt_of_le hi0 D1.size)).trans p4
              replace u4 := (hb2.cell (p := ⟨w.heap.size + 1, 4, none⟩) (by show w.heap.size + 1 < _; exact Nat.lt_of_lt_of_le hi1 D1.size)).trans u4
              replace p5 := (hb2.cell (p := ⟨w.heap.size, 5, none⟩) (by show w.heap.size < _; exact Nat.lt_of_lt_of_le hi0 D1.size)).trans p5
              replace u5 := (hb2.cell (p := ⟨w.heap.size + 1, 5, none⟩) (by show w.heap.size + 1 < _; exact Nat.lt_of_lt_of_le hi1 D1.size)).trans u5
              go_wp2_with fail
              refine (sval_impl x.stack y.stack a_stack n_a_stack c_stack n_c_stack lo hi lo' hi' true ⟨fun _ => H5.out, fun _ => rfl⟩ w2 l_stack (r_stack.below ValC_keeps D2 (Nat.le_trans hh B0.size)) (n_r_stack.below ValC_keeps D2 (Nat.le_trans hh' B0.size))).mono ?_
              rintro e w3 ⟨rfl, hq3⟩
              have hb3 := quiet_below hq3
              have D3 : Below W0.heap.size W0 w3 := D2.trans (hb3.mono D2.size)
              replace p0 := (hb3.cell (p := ⟨w.heap.size, 0, none⟩) (by show w.heap.size < _; exact Nat.lt_of_lt_of_le hi0 D2.size)).trans p0
              replace u0 := (hb3.cell (p := ⟨w.heap.size + 1, 0, none⟩) (by show w.heap.size + 1 < _; exact Nat.lt_of_lt_of_le hi1 D2.size)).trans u0
              replace p1 := (hb3.cell (p := ⟨w.heap.size, 1, none⟩) (by show w.heap.size < _; exact Nat.lt_of_lt_of_le hi0 D2.size)).trans p1
              replace u1 := (hb3.cell (p := ⟨w.heap.size + 1, 1, none⟩) (by show w.heap.size + 1 < _; exact Nat.lt_of_lt_of_le hi1 D2.size)).trans u1
              replace p2 := (hb3.cell (p := ⟨w.heap.size, 2, none⟩) (by show w.heap.size < _; exact Nat.lt_of_lt_of_le hi0 D2.size)).trans p2
              replace u2 := (hb3.cell (p := ⟨w.heap.size + 1, 2, none⟩) (by show w.heap.size + 1 < _; exact Nat.lt_of_lt_of_le hi1 D2.size)).trans u2
              replace p3 := (hb3.cell (p := ⟨w.heap.size, 3, none⟩) (by show w.heap.size < _; exact Nat.lt_of_lt_of_le hi0 D2.size)).trans p3
              replace u3 := (hb3.cell (p := ⟨w.heap.size + 1, 3, none⟩) (by show w.heap.size + 1 < _; exact Nat.lt_of_lt_of_le hi1 D2.size)).trans u3
              replace p4 := (hb3.cell (p := ⟨w.heap.size, 4, none⟩) (by show w.heap.size < _; exact Nat.lt_of_lt_of_le hi0 D2.size)).trans p4
              replace u4 := (hb3.cell (p := ⟨w.heap.size + 1, 4, none⟩) (by show w.heap.size + 1 < _; exact Nat.lt_of_lt_of_le hi1 D2.size)).trans u4
              replace p5 := (hb3.cell (p := ⟨w.heap.size, 5, none⟩) (by show w.heap.size < _; exact Nat.lt_of_lt_of_le hi0 D2.size)).trans p5
              replace u5 := (hb3.cell (p := ⟨w.heap.size + 1, 5, none⟩) (by show w.heap.size + 1 < _; exact Nat.lt_of_lt_of_le hi1 D2.size)).trans u5
              go_wp2_with fail
              go_ret
              exact ⟨rfl, (B0.trans (D3.mono B0.size))⟩
            · have hv : V = false := vno hV fun e => h5 (by rw [e])
              clear hV
              subst hv
              have H5 : Hid (¬ x.stack = y.stack) := h5
              clear h5
              go_wp2_with fail
              refine (sint_impl x.slots y.slots a_slots n_a_slots c_slots n_c_slots lo hi lo' hi' true ⟨fun _ => H3.out, fun _ => rfl⟩ W0 l_slots r_slots n_r_slots).mono ?_
              rintro e w1 ⟨rfl, hq1⟩
              have hb1 := quiet_below hq1
              have D1 : Below W0.heap.size W0 w1 := hb1
              replace p0 := (hb1.cell (p := ⟨w.heap.size, 0, none⟩) (by show w.heap.size < _; exact hi0)).trans p0
              replace u0 := (hb1.cell (p := ⟨w.heap.size + 1, 0, none⟩) (by show w.heap.size + 1 < _; exact hi1)).trans u0
              replace p1 := (hb1.cell (p := ⟨w.heap.size, 1, none⟩) (by show w.heap.size < _; exact hi0)).trans p1
              replace u1 := (hb1.cell (p := ⟨w.heap.size + 1, 1, none⟩) (by show w.heap.size + 1 < _; exact hi1)).trans u1
              replace p2 := (hb1.cell (p := ⟨w.heap.size, 2, none⟩) (by show w.heap.size < _; exact hi0)).trans p2
              replace u2 := (hb1.cell (p := ⟨w.heap.size + 1, 2, none⟩) (by show w.heap.size + 1 < _; exact hi1)).trans u2
              replace p3 := (hb1.cell (p := ⟨w.heap.size, 3, none⟩) (by show w.heap.size < _; exact hi0)).trans p3
              replace u3 := (hb1.cell (p := ⟨w.heap.size + 1, 3, none⟩) (by show w.heap.size + 1 < _; exact hi1)).trans u3
              replace p4 := (hb1.cell (p := ⟨w.heap.size, 4, none⟩) (by show w.heap.size < _; exact hi0)).trans p4
              replace u4 := (hb1.cell (p := ⟨w.heap.size + 1, 4, none⟩) (by show w.heap.size + 1 < _; exact hi1)).trans u4
              replace p5 := (hb1.cell (p := ⟨w.heap.size, 5, none⟩) (by show w.heap.size < _; exact hi0)).trans p5
              replace u5 := (hb1.cell (p := ⟨w.heap.size + 1, 5, none⟩) (by show w.heap.size + 1 < _; exact hi1)).trans u5
              go_wp2_with fail
              refine (sint_impl x.ups y.ups a_ups n_a_ups c_ups n_c_ups lo hi lo' hi' true ⟨fun _ => H4.out, fun _ => rfl⟩ w1 l_ups (r_ups.below IntC_keeps D1 (Nat.le_trans hh B0.size)) (n_r_ups.below IntC_keeps D1 (Nat.le_trans hh' B0.size))).mono ?_
              rintro e w2 ⟨rfl, hq2⟩
              have hb2 := quiet_below hq2
              have D2 : Below W0.heap.size W0 w2 := D1.trans (hb2.mono D1.size)
              replace p0 := (hb2.cell (p := ⟨w.heap.size, 0, none⟩) (by show w.heap.size < _; exact Nat.lt_of_lt_of_le hi0 D1.size)).trans p0
              replace u0 := (hb2.cell (p := ⟨w.heap.size + 1, 0, none⟩) (by show w.heap.size + 1 < _; exact Nat.lt_of_lt_of_le hi1 D1.size)).trans u0
              replace p1 := (hb2.cell (p := ⟨w.heap.size, 1, none⟩) (by show w.heap.size < _; exact Nat.lt_of_lt_of_le hi0 D1.size)).trans p1
              replace u1 := (hb2.cell (p := ⟨w.heap.size + 1, 1, none⟩) (by show w.heap.size + 1 < _; exact Nat.lt_of_lt_of_le hi1 D1.size)).trans u1
              replace p2 := (hb2.cell (p := ⟨w.heap.size, 2, none⟩) (by show w.heap.size < _; exact Nat.lt_of_lt_of_le hi0 D1.size)).trans p2
              replace u2 := (hb2.cell (p := ⟨w.heap.size + 1, 2, none⟩) (by show w.heap.size + 1 < _; exact Nat.lt_of_lt_of_le hi1 D1.size)).trans u2
              replace p3 := (hb2.cell (p := ⟨w.heap.size, 3, none⟩) (by show w.heap.size < _; exact Nat.lt_of_lt_of_le hi0 D1.size)).trans p3
              replace u3 := (hb2.cell (p := ⟨w.heap.size + 1, 3, none⟩) (by show w.heap.size + 1 < _; exact Nat.lt_of_lt_of_le hi1 D1.size)).trans u3
              replace p4 := (hb2.cell (p := ⟨w.heap.size, 4, none⟩) (by show w.heap.size < _; exact Nat.lt_of_lt_of_le hi0 D1.size)).trans p4
              replace u4 := (hb2.cell (p := ⟨w.heap.size + 1, 4, none⟩) (by show w.heap.size + 1 < _; exact Nat.lt_of_lt_of_le hi1 D1.size)).trans u4
              replace p5 := (hb2.cell (p := ⟨w.heap.size, 5, none⟩) (by show w.heap.size < _; exact Nat.lt_of_lt_of_le hi0 D1.size)).trans p5
              replace u5 := (hb2.cell (p := ⟨w.heap.size + 1, 5, none⟩) (by show w.heap.size + 1 < _; exact Nat.lt_of_lt_of_le hi1 D1.size)).trans u5
              go_wp2_with fail
              refine (sval_impl x.stack y.stack a_stack n_a_stack c_stack n_c_stack lo hi lo' hi' false ⟨fun h => absurd h (by decide), fun h => absurd h H5.out⟩ w2 l_stack (r_stack.below ValC_keeps D2 (Nat.le_trans hh B0.size)) (n_r_stack.below ValC_keeps D2 (Nat.le_trans hh' B0.size))).mono ?_
              rintro e w3 ⟨rfl, hq3⟩
              have hb3 := quiet_below hq3
              have D3 : Below W0.heap.size W0 w3 := D2.trans (hb3.mono D2.size)
              replace p0 := (hb3.cell (p := ⟨w.heap.size, 0, none⟩) (by show w.heap.size < _; exact Nat.lt_of_lt_of_le hi0 D2.size)).trans p0
              replace u0 := (hb3.cell (p := ⟨w.heap.size + 1, 0, none⟩) (by show w.heap.size + 1 < _; exact Nat.lt_of_lt_of_le hi1 D2.size)).trans u0
              replace p1 := (hb3.cell (p := ⟨w.heap.size, 1, none⟩) (by show w.heap.size < _; exact Nat.lt_of_lt_of_le hi0 D2.size)).trans p1
              replace u1 := (hb3.cell (p := ⟨w.heap.size + 1, 1, none⟩) (by show w.heap.size + 1 < _; exact Nat.lt_of_lt_of_le hi1 D2.size)).trans u1
              replace p2 := (hb3.cell (p := ⟨w.heap.size, 2, none⟩) (by show w.heap.size < _; exact Nat.lt_of_lt_of_le hi0 D2.size)).trans p2
              replace u2 := (hb3.cell (p := ⟨w.heap.size + 1, 2, none⟩) (by show w.heap.size + 1 < _; exact Nat.lt_of_lt_of_le hi1 D2.size)).trans u2
              replace p3 := (hb3.cell (p := ⟨w.heap.size, 3, none⟩) (by show w.heap.size < _; exact Nat.lt_of_lt_of_le hi0 D2.size)).trans p3
              replace u3 := (hb3.cell (p := ⟨w.heap.size + 1, 3, none⟩) (by show w.heap.size + 1 < _; exact Nat.lt_of_lt_of_le hi1 D2.size)).trans u3
              replace p4 := (hb3.cell (p := ⟨w.heap.size, 4, none⟩) (by show w.heap.size < _; exact Nat.lt_of_lt_of_le hi0 D2.size)).trans p4
              replace u4 := (hb3.cell (p := ⟨w.heap.size + 1, 4, none⟩) (by show w.heap.size + 1 < _; exact Nat.lt_of_lt_of_le hi1 D2.size)).trans u4
              replace p5 := (hb3.cell (p := ⟨w.heap.size, 5, none⟩) (by show w.heap.size < _; exact Nat.lt_of_lt_of_le hi0 D2.size)).trans p5
              replace u5 := (hb3.cell (p := ⟨w.heap.size + 1, 5, none⟩) (by show w.heap.size + 1 < _; exact Nat.lt_of_lt_of_le hi1 D2.size)).trans u5
              go_wp2_with fail
              go_ret
              exact ⟨rfl, (B0.trans (D3.mono B0.size))⟩
          · have hv : V = false := vno hV fun e => h4 (by rw [e])
            clear hV
            subst hv
            have H4 : Hid (¬ x.ups = y.ups) := h4
            clear h4
            go_wp2_with fail
            refine (sint_impl x.slots y.slots a_slots n_a_slots c_slots n_c_slots lo hi lo' hi' true ⟨fun _ => H3.out, fun _ => rfl⟩ W0 l_slots r_slots n_r_slots).mono ?_
            rintro e w1 ⟨rfl, hq1⟩
            have hb1 := quiet_below hq1
            have D1 : Below W0.heap.size W0 w1 := hb1
            replace p0 := (hb1.cell (p := ⟨w.heap.size, 0, none⟩) (by show w.heap.size < _; exact hi0)).trans p0
            replace u0 := (hb1.cell (p := ⟨w.heap.size + 1, 0, none⟩) (by show w.heap.size + 1 < _; exact hi1)).trans u0
            replace p1 := (hb1.cell (p := ⟨w.heap.size, 1, none⟩) (by show w.heap.size < _; exact hi0)).trans p1
            replace u1 := (hb1.cell (p := ⟨w.heap.size + 1, 1, none⟩) (by show w.heap.size + 1 < _; exact hi1)).trans u1
            replace p2 := (hb1.cell (p := ⟨w.heap.size, 2, none⟩) (by show w.heap.size < _; exact hi0)).trans p2
            replace u2 := (hb1.cell (p := ⟨w.heap.size + 1, 2, none⟩) (by show w.heap.size + 1 < _; exact hi1)).trans u2
            replace p3 := (hb1.cell (p := ⟨w.heap.size, 3, none⟩) (by show w.heap.size < _; exact hi0)).trans p3
            replace u3 := (hb1.cell (p := ⟨w.heap.size + 1, 3, none⟩) (by show w.heap.size + 1 < _; exact hi1)).trans u3
            replace p4 := (hb1.cell (p := ⟨w.heap.size, 4, none⟩) (by show w.heap.size < _; exact hi0)).trans p4
            replace u4 := (hb1.cell (p := ⟨w.heap.size + 1, 4, none⟩) (by show w.heap.size + 1 < _; exact hi1)).trans u4
            replace p5 := (hb1.cell (p := ⟨w.heap.size, 5, none⟩) (by show w.heap.size < _; exact hi0)).trans p5
            replace u5 := (hb1.cell (p := ⟨w.heap.size + 1, 5, none⟩) (by show w.heap.size + 1 < _; exact hi1)).trans u5
            go_wp2_with fail
            refine (sint_impl x.ups y.ups a_ups n_a_ups c_ups n_c_ups lo hi lo' hi' false ⟨fun h => absurd h (by decide), fun h => absurd h H4.out⟩ w1 l_ups (r_ups.below IntC_keeps D1 (Nat.le_trans hh B0.size)) (n_r_ups.below IntC_keeps D1 (Nat.le_trans hh' B0.size))).mono ?_
            rintro e w2 ⟨rfl, hq2⟩
            have hb2 := quiet_below hq2
            have D2 : Below W0.heap.size W0 w2 := D1.trans (hb2.mono D1.size)
            replace p0 := (hb2.cell (p := ⟨w.heap.size, 0, none⟩) (by show w.heap.size < _; exact Nat.lt_of_lt_of_le hi0 D1.size)).trans p0
            replace u0 := (hb2.cell (p := ⟨w.heap.size + 1, 0, none⟩) (by show w.heap.size + 1 < _; exact Nat.lt_of_lt_of_le hi1 D1.size)).trans u0
            replace p1 := (hb2.cell (p := ⟨w.heap.size, 1, none⟩) (by show w.heap.size < _; exact Nat.lt_of_lt_of_le hi0 D1.size)).trans p1
            replace u1 := (hb2.cell (p := ⟨w.heap.size + 1, 1, none⟩) (by show w.heap.size + 1 < _; exact Nat.lt_of_lt_of_le hi1 D1.size)).trans u1
            replace p2 := (hb2.cell (p := ⟨w.heap.size, 2, none⟩) (by show w.heap.size < _; exact Nat.lt_of_lt_of_le hi0 D1.size)).trans p2
            replace u2 := (hb2.cell (p := ⟨w.heap.size + 1, 2, none⟩) (by show w.heap.size + 1 < _; exact Nat.lt_of_lt_of_le hi1 D1.size)).trans u2
            replace p3 := (hb2.cell (p := ⟨w.heap.size, 3, none⟩) (by show w.heap.size < _; exact Nat.lt_of_lt_of_le hi0 D1.size)).trans p3
            replace u3 := (hb2.cell (p := ⟨w.heap.size + 1, 3, none⟩) (by show w.heap.size + 1 < _; exact Nat.lt_of_lt_of_le hi1 D1.size)).trans u3
            replace p4 := (hb2.cell (p := ⟨w.heap.size, 4, none⟩) (by show w.heap.size < _; exact Nat.lt_of_lt_of_le hi0 D1.size)).trans p4
            replace u4 := (hb2.cell (p := ⟨w.heap.size + 1, 4, none⟩) (by show w.heap.size + 1 < _; exact Nat.lt_of_lt_of_le hi1 D1.size)).trans u4
            replace p5 := (hb2.cell (p := ⟨w.heap.size, 5, none⟩) (by show w.heap.size < _; exact Nat.lt_of_lt_of_le hi0 D1.size)).trans p5
            replace u5 := (hb2.cell (p := ⟨w.heap.size + 1, 5, none⟩) (by show w.heap.size + 1 < _; exact Nat.lt_of_lt_of_le hi1 D1.size)).trans u5
            go_wp2_with fail
            go_ret
            exact ⟨rfl, (B0.trans (D2.mono B0.size))⟩
        · have hv : V = false := vno hV fun e => h3 (by rw [e])
          clear hV
          subst hv
          have H3 : Hid (¬ x.slots = y.slots) := h3
          clear h3
          go_wp2_with fail
          refine (sint_impl x.slots y.slots a_slots n_a_slots c_slots n_c_slots lo hi lo' hi' false ⟨fun h => absurd h (by decide), fun h => absurd h H3.out⟩ W0 l_slots r_slots n_r_slots).mono ?_
          rintro e w1 ⟨rfl, hq1⟩
          have hb1 := quiet_below hq1
          have D1 : Below W0.heap.size W0 w1 := hb1
          replace p0 := (hb1.cell (p := ⟨w.heap.size, 0, none⟩) (by show w.heap.size < _; exact hi0)).trans p0
          replace u0 := (hb1.cell (p := ⟨w.heap.size + 1, 0, none⟩) (by show w.heap.size + 1 < _; exact hi1)).trans u0
          replace p1 := (hb1.cell (p := ⟨w.heap.size, 1, none⟩) (by show w.heap.size < _; exact hi0)).trans p1
          replace u1 := (hb1.cell (p := ⟨w.heap.size + 1, 1, none⟩) (by show w.heap.size + 1 < _; exact hi1)).trans u1
          replace p2 := (hb1.cell (p := ⟨w.heap.size, 2, none⟩) (by show w.heap.size < _; exact hi0)).trans p2
          replace u2 := (hb1.cell (p := ⟨w.heap.size + 1, 2, none⟩) (by show w.heap.size + 1 < _; exact hi1)).trans u2
          replace p3 := (hb1.cell (p := ⟨w.heap.size, 3, none⟩) (by show w.heap.size < _; exact hi0)).trans p3
          replace u3 := (hb1.cell (p := ⟨w.heap.size + 1, 3, none⟩) (by show w.heap.size + 1 < _; exact hi1)).trans u3
          replace p4 := (hb1.cell (p := ⟨w.heap.size, 4, none⟩) (by show w.heap.size < _; exact hi0)).trans p4
          replace u4 := (hb1.cell (p := ⟨w.heap.size + 1, 4, none⟩) (by show w.heap.size + 1 < _; exact hi1)).trans u4
          replace p5 := (hb1.cell (p := ⟨w.heap.size, 5, none⟩) (by show w.heap.size < _; exact hi0)).trans p5
          replace u5 := (hb1.cell (p := ⟨w.heap.size + 1, 5, none⟩) (by show w.heap.size + 1 < _; exact hi1)).trans u5
          go_wp2_with fail
          go_ret
          exact ⟨rfl, (B0.trans (D1.mono B0.size))⟩
      · have hv : V = false := vno hV fun e => h2 (by rw [e])
        clear hV
        subst hv
        go_wp2_with fail
        go_ret
        exact ⟨rfl, B0⟩
    · have hv : V = false := vno hV fun e => h1 (by rw [e])
      clear hV
      subst hv
      go_wp2_with fail
      go_ret
      exact ⟨rfl, B0⟩
  · have hv : V = false := vno hV fun e => h0 (by rw [e])
    clear hV
    subst hv
    go_wp2_with fail
    go_ret
    exact ⟨rfl, B0⟩
end Go.Proofs.Ytgibejgemokljaa
