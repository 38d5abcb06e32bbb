/- The walk of FnExactVmOutcome: it returns true. -/
import Derived.Test.YtfcmnmojejoeeaaOutJ
import Derived.Test.YtfcmnmojejoeeaaOutE
import Derived.Test.YtfcmnmojejoeeaaOwV
import Derived.Test.YtfcmnmojejoeeaaVmE
import Derived.Test.YtfcmnmojejoeeaaVmS
import Derived.Deep.RegionHeld3
import Derived.Deep.Cut
namespace Go.Proofs.Ytfcmnmojejoeeaa
open Go.RowKit

theorem mnR_le {α : Type} (c f : α → Nat) (k : Nat) (hc : ∀ x, c x ≤ k * (1 + f x)) (xs : List α) : mnR c xs ≤ k * wtR f xs := by
  unfold mnR wtR
  induction xs with
  | nil => exact Nat.zero_le _
  | cons x xs ih =>
    rw [List.map_cons, List.sum_cons, List.map_cons, List.sum_cons, Nat.mul_add]
    exact Nat.add_le_add (hc x) ih
theorem Heaptn_le (x : HeapD) : Heaptn x ≤ 18 * x.wt := by
  unfold Heaptn HeapD.wt
  have h1 := mnR_le PairSmn (wtR PairD.wt) 6 (fun t => by unfold PairSmn; have := len_wtR PairD.wt t; omega) x.tables
  have h2 := len_wtR Vl.wt x.cells
  omega
theorem Vmtn_le (x : VmD) : Vmtn x ≤ 18 * x.wt := by
  unfold Vmtn VmD.wt
  have h1 := Heaptn_le x.heap
  have h2 := mnR_le Closuremn ClosureD.wt 6 (fun t => by unfold Closuremn ClosureD.wt; omega) x.funs
  have h3 := mnR_le Framemn FrameD.wt 6 (fun t => by unfold Framemn FrameD.wt; have := len_wtR Vl.wt t.stack; omega) x.frames
  have h4 := len_wtR ByteArray.size x.out
  omega
theorem mkbound_FnExactVmOutcome (x : VmD) (h : x.wt ≤ 1048576) : 1 + Vmtn x ≤ 1099511627776 := by have := Vmtn_le x; omega
/-- In the whole of a world. -/
theorem at0 {α : Type} {k : Nat} {D : World → (Nat → Prop) → α → List Value → Prop} {C : World → Nat → Nat → α → List Value → Prop} (hL : Lies D C) {w : World} {l h : Nat} {xs : List α} {a : Option Addr} (hh : h ≤ w.heap.size) (hd : RowD k D w (In l h) xs a) : RowAt k C w 0 w.heap.size xs a :=
  hd.lies hL fun _ hb => ⟨Nat.zero_le _, Nat.lt_of_lt_of_le hb.2 hh⟩
theorem st0 {α : Type} {D : World → (Nat → Prop) → α → List Value → Prop} {C : World → Nat → Nat → α → List Value → Prop} (hL : Lies D C) {w : World} {l h : Nat} {x : α} {cs : List Value} (hh : h ≤ w.heap.size) (hd : D w (In l h) x cs) : C w 0 w.heap.size x cs :=
  hL _ _ _ _ _ _ (fun _ hb => ⟨Nat.zero_le _, Nat.lt_of_lt_of_le hb.2 hh⟩) hd
theorem at0_b {α : Type} {k : Nat} {C : World → Nat → Nat → α → List Value → Prop} (hK : Keeps C) {w w' : World} {xs : List α} {a : Option Addr} (h : RowAt k C w 0 w.heap.size xs a) (hb : Below w.heap.size w w') : RowAt k C w' 0 w'.heap.size xs a :=
  (h.below hK hb (Nat.le_refl _)).wide hK (Nat.le_refl _) hb.size
theorem st0_b {α : Type} {C : World → Nat → Nat → α → List Value → Prop} (hK : Keeps C) {w w' : World} {x : α} {cs : List Value} (h : C w 0 w.heap.size x cs) (hb : Below w.heap.size w w') : C w' 0 w'.heap.size x cs :=
  hK _ _ _ _ _ _ _ _ (Nat.le_refl _) hb.size (fun _ _ hp => hb.cell hp) h
theorem bel_stepd {W0 W W' : World} (h : Below W0.heap.size W0 W) (hb : Below W.heap.size W W') : Below W0.heap.size W0 W' := h.trans (hb.mono h.size)
set_option maxRecDepth 100000 in
set_option maxHeartbeats 3200000 in
theorem exact_vmoutcome (x0 : VmD) (cs0 : List Value) (w : World) (hC0 : VmC w 0 w.heap.size x0 cs0) :
    Calls Try.prog 4 #[.agg cs0.toArray] w fun e w' => e = .returned (.bool true) ∧ Below w.heap.size w w' := by
  have hC0' := hC0
  obtain ⟨m_ok, m_a_heap_tables, m_c_heap_tables, m_a_heap_cells, m_c_heap_cells, m_a_funs, m_c_funs, m_a_frames, m_c_frames, m_a_out, m_c_out, rfl, m_l_heap_tables, m_r_heap_tables, m_l_heap_cells, m_r_heap_cells, m_l_funs, m_r_funs, m_l_frames, m_r_frames, m_l_out, m_r_out⟩ := hC0'
  clear m_r_heap_tables m_l_heap_tables m_r_heap_cells m_l_heap_cells m_r_funs m_l_funs m_r_frames m_l_frames m_r_out m_l_out m_ok
  obtain ⟨W0, hW0⟩ : ∃ W0, W0 = w.alloc (Obj.cells #[.slice m_a_heap_tables x0.heap.tables.length m_c_heap_tables, .slice m_a_heap_cells x0.heap.cells.length m_c_heap_cells, .slice m_a_funs x0.funs.length m_c_funs, .slice m_a_frames x0.frames.length m_c_frames, .slice m_a_out x0.out.length m_c_out, .int .i64 x0.steps, .int .i64 x0.kind, .int .i64 x0.value.k, .int .i64 x0.value.n, .string x0.value.s] 51) := ⟨_, rfl⟩
  have rA : W0.heap[w.heap.size]? = some (Obj.cells #[.slice m_a_heap_tables x0.heap.tables.length m_c_heap_tables, .slice m_a_heap_cells x0.heap.cells.length m_c_heap_cells, .slice m_a_funs x0.funs.length m_c_funs, .slice m_a_frames x0.frames.length m_c_frames, .slice m_a_out x0.out.length m_c_out, .int .i64 x0.steps, .int .i64 x0.kind, .int .i64 x0.value.k, .int .i64 x0.value.n, .string x0.value.s] 51) := by rw [hW0]; exact heap_alloc_new _ _
  have B0 : Below w.heap.size w W0 := by rw [hW0]; exact bel_alloc _ _
  have z0 : W0.heap.size = w.heap.size + 1 := by rw [hW0]; simp
  have p_0 := cell_of_row _ _ 0 _ _ _ rA
  have p_1 := cell_of_row _ _ 1 _ _ _ rA
  have p_2 := cell_of_row _ _ 2 _ _ _ rA
  have p_3 := cell_of_row _ _ 3 _ _ _ rA
  have p_4 := cell_of_row _ _ 4 _ _ _ rA
  have p_5 := cell_of_row _ _ 5 _ _ _ rA
  have p_6 := cell_of_row _ _ 6 _ _ _ rA
  have p_7 := cell_of_row _ _ 7 _ _ _ rA
  have p_8 := cell_of_row _ _ 8 _ _ _ rA
  have p_9 := cell_of_row _ _ 9 _ _ _ rA
  simp only [List.getElem?_toArray, List.getElem?_cons_zero, List.getElem?_cons_succ] at p_0 p_1 p_2 p_3 p_4 p_5 p_6 p_7 p_8 p_9
  clear rA
  go_enter Try.func4, Try.ntmps4
  go_wp2_with fail
  rw [← hW0]
  clear hW0
  refine (szVm_any x0 _ 0 w.heap.size 1048576 W0 B0.size (VmC_keeps.below hC0 B0 (Nat.le_refl _)) (by decide) (by decide)).mono ?_
  rintro e w1 ⟨⟨r1, rfl, hr1⟩, hb1⟩
  have B1 := B0.trans (hb1.mono B0.size)
  have z1 := hb1.size
  replace p_0 := (hb1.cell (p := ⟨w.heap.size, 0, none⟩) (by show w.heap.size < _; omega)).trans p_0
  replace p_1 := (hb1.cell (p := ⟨w.heap.size, 1, none⟩) (by show w.heap.size < _; omega)).trans p_1
  replace p_2 := (hb1.cell (p := ⟨w.heap.size, 2, none⟩) (by show w.heap.size < _; omega)).trans p_2
  replace p_3 := (hb1.cell (p := ⟨w.heap.size, 3, none⟩) (by show w.heap.size < _; omega)).trans p_3
  replace p_4 := (hb1.cell (p := ⟨w.heap.size, 4, none⟩) (by show w.heap.size < _; omega)).trans p_4
  replace p_5 := (hb1.cell (p := ⟨w.heap.size, 5, none⟩) (by show w.heap.size < _; omega)).trans p_5
  replace p_6 := (hb1.cell (p := ⟨w.heap.size, 6, none⟩) (by show w.heap.size < _; omega)).trans p_6
  replace p_7 := (hb1.cell (p := ⟨w.heap.size, 7, none⟩) (by show w.heap.size < _; omega)).trans p_7
  replace p_8 := (hb1.cell (p := ⟨w.heap.size, 8, none⟩) (by show w.heap.size < _; omega)).trans p_8
  replace p_9 := (hb1.cell (p := ⟨w.heap.size, 9, none⟩) (by show w.heap.size < _; omega)).trans p_9
  by_cases hneg : r1 < 0
  · go_wp2_with fail
    go_ret
    exact ⟨rfl, B1⟩
  · skip
    have hw0 : x0.wt ≤ 1048576 := by rcases hr1 with h | h; exact absurd h (by omega); omega
    have HB1 : Hid (Below w.heap.size w w1) := B1
    have HTO : Hid (∀ W, Below w1.heap.size w1 W → Calls Try.prog 18 #[.agg #[.slice m_a_heap_tables x0.heap.tables.length m_c_heap_tables, .slice m_a_heap_cells x0.heap.cells.length m_c_heap_cells, .slice m_a_funs x0.funs.length m_c_funs, .slice m_a_frames x0.frames.length m_c_frames, .slice m_a_out x0.out.length m_c_out, .int .i64 x0.steps, .int .i64 x0.kind, .int .i64 x0.value.k, .int .i64 x0.value.n, .string x0.value.s]] W fun e w' => (∃ cs, e = .returned (.agg cs.toArray) ∧ VmOwn w' (In W.heap.size w'.heap.size) x0 cs) ∧ Below W.heap.size W w') := fun W hW => owVm_any x0 _ 0 w.heap.size W (Nat.le_trans B1.size hW.size) hw0 (VmC_keeps.below (VmC_keeps.below hC0 B1 (Nat.le_refl _)) hW B1.size)
    have HS : Hid (∀ W d, VmC W 0 W.heap.size x0 d → Calls Try.prog 17 #[.agg d.toArray] W fun e w' => (∃ cs', e = .returned (.agg cs'.toArray) ∧ OutcomeOwn w' (In W.heap.size w'.heap.size) (outV x0) cs') ∧ Below W.heap.size W w') := fun W d h => outcome_spec x0 d 0 W.heap.size W (Nat.le_refl _) hw0 h
    have HI : Hid (∀ W d, VmC W 0 W.heap.size x0 d → Calls Try.prog 19 #[.agg d.toArray] W fun e w' => (∃ cs', e = .returned (.agg cs'.toArray) ∧ OutcomeOwn w' (In W.heap.size w'.heap.size) (outV x0) cs') ∧ Below W.heap.size W w') := fun W d h => outcome_impl x0 d 0 W.heap.size W (Nat.le_refl _) hw0 h
    have HVW : Hid ((outV x0).wt ≤ 2097152) := (by have := outV_wt x0; show _ ≤ _; omega)
    have HVN : Hid (1 + Outcometn (outV x0) ≤ 1099511627776) := (by show _ ≤ _; unfold Outcometn; rw [outV_out]; have h1 := len_wtR ByteArray.size x0.out; unfold VmD.wt at hw0; omega)
    have HXN : Hid (1 + Vmtn x0 ≤ 1099511627776) := mkbound_FnExactVmOutcome _ hw0
    generalize outV x0 = V at HS HI HVW HVN
    have HLEN : Hid (True) := trivial
    clear hr1 B0 B1 hb1 hC0
    have q0w : Below w1.heap.size w1 w1 := Below.refl _ _
    go_wp2_with fail
    refine (HTO.out _ q0w).mono ?_
    rintro e w2 ⟨⟨Ys, rfl, Y⟩, hbw2⟩
    have qw2 : Below w1.heap.size w1 w2 := q0w.trans (hbw2.mono q0w.size)
    have zw2 := hbw2.size
    replace p_0 := (hbw2.cell (p := ⟨w.heap.size, 0, none⟩) (by show w.heap.size < _; omega)).trans p_0
    replace p_1 := (hbw2.cell (p := ⟨w.heap.size, 1, none⟩) (by show w.heap.size < _; omega)).trans p_1
    replace p_2 := (hbw2.cell (p := ⟨w.heap.size, 2, none⟩) (by show w.heap.size < _; omega)).trans p_2
    replace p_3 := (hbw2.cell (p := ⟨w.heap.size, 3, none⟩) (by show w.heap.size < _; omega)).trans p_3
    replace p_4 := (hbw2.cell (p := ⟨w.heap.size, 4, none⟩) (by show w.heap.size < _; omega)).trans p_4
    replace p_5 := (hbw2.cell (p := ⟨w.heap.size, 5, none⟩) (by show w.heap.size < _; omega)).trans p_5
    replace p_6 := (hbw2.cell (p := ⟨w.heap.size, 6, none⟩) (by show w.heap.size < _; omega)).trans p_6
    replace p_7 := (hbw2.cell (p := ⟨w.heap.size, 7, none⟩) (by show w.heap.size < _; omega)).trans p_7
    replace p_8 := (hbw2.cell (p := ⟨w.heap.size, 8, none⟩) (by show w.heap.size < _; omega)).trans p_8
    replace p_9 := (hbw2.cell (p := ⟨w.heap.size, 9, none⟩) (by show w.heap.size < _; omega)).trans p_9
    go_wp2_with fail
    refine (HS.out _ _ (st0 VmOwn_lies (Nat.le_refl _) Y)).mono ?_
    rintro e w3 ⟨⟨P0s, rfl, P0⟩, hbw3⟩
    have qw3 : Below w1.heap.size w1 w3 := qw2.trans (hbw3.mono qw2.size)
    have zw3 := hbw3.size
    clear Y
    replace p_0 := (hbw3.cell (p := ⟨w.heap.size, 0, none⟩) (by show w.heap.size < _; omega)).trans p_0
    replace p_1 := (hbw3.cell (p := ⟨w.heap.size, 1, none⟩) (by show w.heap.size < _; omega)).trans p_1
    replace p_2 := (hbw3.cell (p := ⟨w.heap.size, 2, none⟩) (by show w.heap.size < _; omega)).trans p_2
    replace p_3 := (hbw3.cell (p := ⟨w.heap.size, 3, none⟩) (by show w.heap.size < _; omega)).trans p_3
    replace p_4 := (hbw3.cell (p := ⟨w.heap.size, 4, none⟩) (by show w.heap.size < _; omega)).trans p_4
    replace p_5 := (hbw3.cell (p := ⟨w.heap.size, 5, none⟩) (by show w.heap.size < _; omega)).trans p_5
    replace p_6 := (hbw3.cell (p := ⟨w.heap.size, 6, none⟩) (by show w.heap.size < _; omega)).trans p_6
    replace p_7 := (hbw3.cell (p := ⟨w.heap.size, 7, none⟩) (by show w.heap.size < _; omega)).trans p_7
    replace p_8 := (hbw3.cell (p := ⟨w.heap.size, 8, none⟩) (by show w.heap.size < _; omega)).trans p_8
    replace p_9 := (hbw3.cell (p := ⟨w.heap.size, 9, none⟩) (by show w.heap.size < _; omega)).trans p_9
    have P0o := P0
    obtain ⟨_, _, _, f_a_out, f_c_out, rfl, f_l_out, f_r_out⟩ := P0o
    clear f_l_out f_r_out
    have al_p_0 : ∀ O : Obj, (w3.alloc O).cell? ⟨w.heap.size, 0, none⟩ = some (.slice m_a_heap_tables x0.heap.tables.length m_c_heap_tables) := fun O => ((bel_alloc w3 O).cell (p := ⟨w.heap.size, 0, none⟩) (by show w.heap.size < _; omega)).trans p_0
    have al_p_1 : ∀ O : Obj, (w3.alloc O).cell? ⟨w.heap.size, 1, none⟩ = some (.slice m_a_heap_cells x0.heap.cells.length m_c_heap_cells) := fun O => ((bel_alloc w3 O).cell (p := ⟨w.heap.size, 1, none⟩) (by show w.heap.size < _; omega)).trans p_1
    have al_p_2 : ∀ O : Obj, (w3.alloc O).cell? ⟨w.heap.size, 2, none⟩ = some (.slice m_a_funs x0.funs.length m_c_funs) := fun O => ((bel_alloc w3 O).cell (p := ⟨w.heap.size, 2, none⟩) (by show w.heap.size < _; omega)).trans p_2
    have al_p_3 : ∀ O : Obj, (w3.alloc O).cell? ⟨w.heap.size, 3, none⟩ = some (.slice m_a_frames x0.frames.length m_c_frames) := fun O => ((bel_alloc w3 O).cell (p := ⟨w.heap.size, 3, none⟩) (by show w.heap.size < _; omega)).trans p_3
    have al_p_4 : ∀ O : Obj, (w3.alloc O).cell? ⟨w.heap.size, 4, none⟩ = some (.slice m_a_out x0.out.length m_c_out) := fun O => ((bel_alloc w3 O).cell (p := ⟨w.heap.size, 4, none⟩) (by show w.heap.size < _; omega)).trans p_4
    have al_p_5 : ∀ O : Obj, (w3.alloc O).cell? ⟨w.heap.size, 5, none⟩ = some (.int .i64 x0.steps) := fun O => ((bel_alloc w3 O).cell (p := ⟨w.heap.size, 5, none⟩) (by show w.heap.size < _; omega)).trans p_5
    have al_p_6 : ∀ O : Obj, (w3.alloc O).cell? ⟨w.heap.size, 6, none⟩ = some (.int .i64 x0.kind) := fun O => ((bel_alloc w3 O).cell (p := ⟨w.heap.size, 6, none⟩) (by show w.heap.size < _; omega)).trans p_6
    have al_p_7 : ∀ O : Obj, (w3.alloc O).cell? ⟨w.heap.size, 7, none⟩ = some (.int .i64 x0.value.k) := fun O => ((bel_alloc w3 O).cell (p := ⟨w.heap.size, 7, none⟩) (by show w.heap.size < _; omega)).trans p_7
    have al_p_8 : ∀ O : Obj, (w3.alloc O).cell? ⟨w.heap.size, 8, none⟩ = some (.int .i64 x0.value.n) := fun O => ((bel_alloc w3 O).cell (p := ⟨w.heap.size, 8, none⟩) (by show w.heap.size < _; omega)).trans p_8
    have al_p_9 : ∀ O : Obj, (w3.alloc O).cell? ⟨w.heap.size, 9, none⟩ = some (.string x0.value.s) := fun O => ((bel_alloc w3 O).cell (p := ⟨w.heap.size, 9, none⟩) (by show w.heap.size < _; omega)).trans p_9
    go_wp2_with fail
    clear al_p_0 al_p_1 al_p_2 al_p_3 al_p_4 al_p_5 al_p_6 al_p_7 al_p_8 al_p_9
    obtain ⟨W4, hW4⟩ : ∃ W, W = w3.alloc (Obj.cells #[.int .i64 V.kind, .int .i64 V.value.k, .int .i64 V.value.n, .string V.value.s, .slice f_a_out V.out.length f_c_out] 54) := ⟨_, rfl⟩
    rw [← hW4]
    have hbW4 : Below w3.heap.size w3 W4 := by rw [hW4]; exact bel_alloc _ _
    have rV : W4.heap[w3.heap.size]? = some (Obj.cells #[.int .i64 V.kind, .int .i64 V.value.k, .int .i64 V.value.n, .string V.value.s, .slice f_a_out V.out.length f_c_out] 54) := by rw [hW4]; exact heap_alloc_new _ _
    have zW4 : W4.heap.size = w3.heap.size + 1 := by rw [hW4]; simp
    clear hW4
    have qW4 : Below w1.heap.size w1 W4 := qw3.trans (hbW4.mono qw3.size)
    replace p_0 := (hbW4.cell (p := ⟨w.heap.size, 0, none⟩) (by show w.heap.size < _; omega)).trans p_0
    replace p_1 := (hbW4.cell (p := ⟨w.heap.size, 1, none⟩) (by show w.heap.size < _; omega)).trans p_1
    replace p_2 := (hbW4.cell (p := ⟨w.heap.size, 2, none⟩) (by show w.heap.size < _; omega)).trans p_2
    replace p_3 := (hbW4.cell (p := ⟨w.heap.size, 3, none⟩) (by show w.heap.size < _; omega)).trans p_3
    replace p_4 := (hbW4.cell (p := ⟨w.heap.size, 4, none⟩) (by show w.heap.size < _; omega)).trans p_4
    replace p_5 := (hbW4.cell (p := ⟨w.heap.size, 5, none⟩) (by show w.heap.size < _; omega)).trans p_5
    replace p_6 := (hbW4.cell (p := ⟨w.heap.size, 6, none⟩) (by show w.heap.size < _; omega)).trans p_6
    replace p_7 := (hbW4.cell (p := ⟨w.heap.size, 7, none⟩) (by show w.heap.size < _; omega)).trans p_7
    replace p_8 := (hbW4.cell (p := ⟨w.heap.size, 8, none⟩) (by show w.heap.size < _; omega)).trans p_8
    replace p_9 := (hbW4.cell (p := ⟨w.heap.size, 9, none⟩) (by show w.heap.size < _; omega)).trans p_9
    replace P0 := OutcomeOwn_keeps.below (fun b hb => In.lt hb (by omega)) hbW4 P0
    have f_u0 := cell_of_row _ _ 0 _ _ _ rV
    have f_u1 := cell_of_row _ _ 1 _ _ _ rV
    have f_u2 := cell_of_row _ _ 2 _ _ _ rV
    have f_u3 := cell_of_row _ _ 3 _ _ _ rV
    have f_u4 := cell_of_row _ _ 4 _ _ _ rV
    simp only [List.getElem?_toArray, List.getElem?_cons_zero, List.getElem?_cons_succ] at f_u0 f_u1 f_u2 f_u3 f_u4
    clear rV
    go_wp2_with fail
    refine (HTO.out _ qW4).mono ?_
    rintro e w5 ⟨⟨X0s, rfl, X0⟩, hbw5⟩
    have qw5 : Below w1.heap.size w1 w5 := qW4.trans (hbw5.mono qW4.size)
    have zw5 := hbw5.size
    replace p_0 := (hbw5.cell (p := ⟨w.heap.size, 0, none⟩) (by show w.heap.size < _; omega)).trans p_0
    replace p_1 := (hbw5.cell (p := ⟨w.heap.size, 1, none⟩) (by show w.heap.size < _; omega)).trans p_1
    replace p_2 := (hbw5.cell (p := ⟨w.heap.size, 2, none⟩) (by show w.heap.size < _; omega)).trans p_2
    replace p_3 := (hbw5.cell (p := ⟨w.heap.size, 3, none⟩) (by show w.heap.size < _; omega)).trans p_3
    replace p_4 := (hbw5.cell (p := ⟨w.heap.size, 4, none⟩) (by show w.heap.size < _; omega)).trans p_4
    replace p_5 := (hbw5.cell (p := ⟨w.heap.size, 5, none⟩) (by show w.heap.size < _; omega)).trans p_5
    replace p_6 := (hbw5.cell (p := ⟨w.heap.size, 6, none⟩) (by show w.heap.size < _; omega)).trans p_6
    replace p_7 := (hbw5.cell (p := ⟨w.heap.size, 7, none⟩) (by show w.heap.size < _; omega)).trans p_7
    replace p_8 := (hbw5.cell (p := ⟨w.heap.size, 8, none⟩) (by show w.heap.size < _; omega)).trans p_8
    replace p_9 := (hbw5.cell (p := ⟨w.heap.size, 9, none⟩) (by show w.heap.size < _; omega)).trans p_9
    replace f_u0 := (hbw5.cell (p := ⟨w3.heap.size, 0, none⟩) (by show w3.heap.size < _; omega)).trans f_u0
    replace f_u1 := (hbw5.cell (p := ⟨w3.heap.size, 1, none⟩) (by show w3.heap.size < _; omega)).trans f_u1
    replace f_u2 := (hbw5.cell (p := ⟨w3.heap.size, 2, none⟩) (by show w3.heap.size < _; omega)).trans f_u2
    replace f_u3 := (hbw5.cell (p := ⟨w3.heap.size, 3, none⟩) (by show w3.heap.size < _; omega)).trans f_u3
    replace f_u4 := (hbw5.cell (p := ⟨w3.heap.size, 4, none⟩) (by show w3.heap.size < _; omega)).trans f_u4
    replace P0 := OutcomeOwn_keeps.below (fun b hb => In.lt hb (by omega)) hbw5 P0
    have X0o := X0
    obtain ⟨_, _, _, g_a_heap_tables, g_c_heap_tables, g_a_heap_cells, g_c_heap_cells, g_a_funs, g_c_funs, g_a_frames, g_c_frames, g_a_out, g_c_out, rfl, g_r_heap, g_l_funs, g_r_funs, g_l_frames, g_r_frames, g_l_out, g_r_out⟩ := X0o
    clear g_r_heap g_l_funs g_r_funs g_l_frames g_r_frames g_l_out g_r_out
    have al_p_0 : ∀ O : Obj, (w5.alloc O).cell? ⟨w.heap.size, 0, none⟩ = some (.slice m_a_heap_tables x0.heap.tables.length m_c_heap_tables) := fun O => ((bel_alloc w5 O).cell (p := ⟨w.heap.size, 0, none⟩) (by show w.heap.size < _; omega)).trans p_0
    have al_p_1 : ∀ O : Obj, (w5.alloc O).cell? ⟨w.heap.size, 1, none⟩ = some (.slice m_a_heap_cells x0.heap.cells.length m_c_heap_cells) := fun O => ((bel_alloc w5 O).cell (p := ⟨w.heap.size, 1, none⟩) (by show w.heap.size < _; omega)).trans p_1
    have al_p_2 : ∀ O : Obj, (w5.alloc O).cell? ⟨w.heap.size, 2, none⟩ = some (.slice m_a_funs x0.funs.length m_c_funs) := fun O => ((bel_alloc w5 O).cell (p := ⟨w.heap.size, 2, none⟩) (by show w.heap.size < _; omega)).trans p_2
    have al_p_3 : ∀ O : Obj, (w5.alloc O).cell? ⟨w.heap.size, 3, none⟩ = some (.slice m_a_frames x0.frames.length m_c_frames) := fun O => ((bel_alloc w5 O).cell (p := ⟨w.heap.size, 3, none⟩) (by show w.heap.size < _; omega)).trans p_3
    have al_p_4 : ∀ O : Obj, (w5.alloc O).cell? ⟨w.heap.size, 4, none⟩ = some (.slice m_a_out x0.out.length m_c_out) := fun O => ((bel_alloc w5 O).cell (p := ⟨w.heap.size, 4, none⟩) (by show w.heap.size < _; omega)).trans p_4
    have al_p_5 : ∀ O : Obj, (w5.alloc O).cell? ⟨w.heap.size, 5, none⟩ = some (.int .i64 x0.steps) := fun O => ((bel_alloc w5 O).cell (p := ⟨w.heap.size, 5, none⟩) (by show w.heap.size < _; omega)).trans p_5
    have al_p_6 : ∀ O : Obj, (w5.alloc O).cell? ⟨w.heap.size, 6, none⟩ = some (.int .i64 x0.kind) := fun O => ((bel_alloc w5 O).cell (p := ⟨w.heap.size, 6, none⟩) (by show w.heap.size < _; omega)).trans p_6
    have al_p_7 : ∀ O : Obj, (w5.alloc O).cell? ⟨w.heap.size, 7, none⟩ = some (.int .i64 x0.value.k) := fun O => ((bel_alloc w5 O).cell (p := ⟨w.heap.size, 7, none⟩) (by show w.heap.size < _; omega)).trans p_7
    have al_p_8 : ∀ O : Obj, (w5.alloc O).cell? ⟨w.heap.size, 8, none⟩ = some (.int .i64 x0.value.n) := fun O => ((bel_alloc w5 O).cell (p := ⟨w.heap.size, 8, none⟩) (by show w.heap.size < _; omega)).trans p_8
    have al_p_9 : ∀ O : Obj, (w5.alloc O).cell? ⟨w.heap.size, 9, none⟩ = some (.string x0.value.s) := fun O => ((bel_alloc w5 O).cell (p := ⟨w.heap.size, 9, none⟩) (by show w.heap.size < _; omega)).trans p_9
    have al_f_u0 : ∀ O : Obj, (w5.alloc O).cell? ⟨w3.heap.size, 0, none⟩ = some (.int .i64 V.kind) := fun O => ((bel_alloc w5 O).cell (p := ⟨w3.heap.size, 0, none⟩) (by show w3.heap.size < _; omega)).trans f_u0
    have al_f_u1 : ∀ O : Obj, (w5.alloc O).cell? ⟨w3.heap.size, 1, none⟩ = some (.int .i64 V.value.k) := fun O => ((bel_alloc w5 O).cell (p := ⟨w3.heap.size, 1, none⟩) (by show w3.heap.size < _; omega)).trans f_u1
    have al_f_u2 : ∀ O : Obj, (w5.alloc O).cell? ⟨w3.heap.size, 2, none⟩ = some (.int .i64 V.value.n) := fun O => ((bel_alloc w5 O).cell (p := ⟨w3.heap.size, 2, none⟩) (by show w3.heap.size < _; omega)).trans f_u2
    have al_f_u3 : ∀ O : Obj, (w5.alloc O).cell? ⟨w3.heap.size, 3, none⟩ = some (.string V.value.s) := fun O => ((bel_alloc w5 O).cell (p := ⟨w3.heap.size, 3, none⟩) (by show w3.heap.size < _; omega)).trans f_u3
    have al_f_u4 : ∀ O : Obj, (w5.alloc O).cell? ⟨w3.heap.size, 4, none⟩ = some (.slice f_a_out V.out.length f_c_out) := fun O => ((bel_alloc w5 O).cell (p := ⟨w3.heap.size, 4, none⟩) (by show w3.heap.size < _; omega)).trans f_u4
    go_wp2_with fail
    clear al_p_0 al_p_1 al_p_2 al_p_3 al_p_4 al_p_5 al_p_6 al_p_7 al_p_8 al_p_9 al_f_u0 al_f_u1 al_f_u2 al_f_u3 al_f_u4
    obtain ⟨W6, hW6⟩ : ∃ W, W = w5.alloc (Obj.cells #[.slice g_a_heap_tables x0.heap.tables.length g_c_heap_tables, .slice g_a_heap_cells x0.heap.cells.length g_c_heap_cells, .slice g_a_funs x0.funs.length g_c_funs, .slice g_a_frames x0.frames.length g_c_frames, .slice g_a_out x0.out.length g_c_out, .int .i64 x0.steps, .int .i64 x0.kind, .int .i64 x0.value.k, .int .i64 x0.value.n, .string x0.value.s] 34) := ⟨_, rfl⟩
    rw [← hW6]
    have hbW6 : Below w5.heap.size w5 W6 := by rw [hW6]; exact bel_alloc _ _
    have rV : W6.heap[w5.heap.size]? = some (Obj.cells #[.slice g_a_heap_tables x0.heap.tables.length g_c_heap_tables, .slice g_a_heap_cells x0.heap.cells.length g_c_heap_cells, .slice g_a_funs x0.funs.length g_c_funs, .slice g_a_frames x0.frames.length g_c_frames, .slice g_a_out x0.out.length g_c_out, .int .i64 x0.steps, .int .i64 x0.kind, .int .i64 x0.value.k, .int .i64 x0.value.n, .string x0.value.s] 34) := by rw [hW6]; exact heap_alloc_new _ _
    have zW6 : W6.heap.size = w5.heap.size + 1 := by rw [hW6]; simp
    clear hW6
    have qW6 : Below w1.heap.size w1 W6 := qw5.trans (hbW6.mono qw5.size)
    replace p_0 := (hbW6.cell (p := ⟨w.heap.size, 0, none⟩) (by show w.heap.size < _; omega)).trans p_0
    replace p_1 := (hbW6.cell (p := ⟨w.heap.size, 1, none⟩) (by show w.heap.size < _; omega)).trans p_1
    replace p_2 := (hbW6.cell (p := ⟨w.heap.size, 2, none⟩) (by show w.heap.size < _; omega)).trans p_2
    replace p_3 := (hbW6.cell (p := ⟨w.heap.size, 3, none⟩) (by show w.heap.size < _; omega)).trans p_3
    replace p_4 := (hbW6.cell (p := ⟨w.heap.size, 4, none⟩) (by show w.heap.size < _; omega)).trans p_4
    replace p_5 := (hbW6.cell (p := ⟨w.heap.size, 5, none⟩) (by show w.heap.size < _; omega)).trans p_5
    replace p_6 := (hbW6.cell (p := ⟨w.heap.size, 6, none⟩) (by show w.heap.size < _; omega)).trans p_6
    replace p_7 := (hbW6.cell (p := ⟨w.heap.size, 7, none⟩) (by show w.heap.size < _; omega)).trans p_7
    replace p_8 := (hbW6.cell (p := ⟨w.heap.size, 8, none⟩) (by show w.heap.size < _; omega)).trans p_8
    replace p_9 := (hbW6.cell (p := ⟨w.heap.size, 9, none⟩) (by show w.heap.size < _; omega)).trans p_9
    replace f_u0 := (hbW6.cell (p := ⟨w3.heap.size, 0, none⟩) (by show w3.heap.size < _; omega)).trans f_u0
    replace f_u1 := (hbW6.cell (p := ⟨w3.heap.size, 1, none⟩) (by show w3.heap.size < _; omega)).trans f_u1
    replace f_u2 := (hbW6.cell (p := ⟨w3.heap.size, 2, none⟩) (by show w3.heap.size < _; omega)).trans f_u2
    replace f_u3 := (hbW6.cell (p := ⟨w3.heap.size, 3, none⟩) (by show w3.heap.size < _; omega)).trans f_u3
    replace f_u4 := (hbW6.cell (p := ⟨w3.heap.size, 4, none⟩) (by show w3.heap.size < _; omega)).trans f_u4
    replace P0 := OutcomeOwn_keeps.below (fun b hb => In.lt hb (by omega)) hbW6 P0
    replace X0 := VmOwn_keeps.below (fun b hb => In.lt hb (by omega)) hbW6 X0
    have g_u0 := cell_of_row _ _ 0 _ _ _ rV
    have g_u1 := cell_of_row _ _ 1 _ _ _ rV
    have g_u2 := cell_of_row _ _ 2 _ _ _ rV
    have g_u3 := cell_of_row _ _ 3 _ _ _ rV
    have g_u4 := cell_of_row _ _ 4 _ _ _ rV
    have g_u5 := cell_of_row _ _ 5 _ _ _ rV
    have g_u6 := cell_of_row _ _ 6 _ _ _ rV
    have g_u7 := cell_of_row _ _ 7 _ _ _ rV
    have g_u8 := cell_of_row _ _ 8 _ _ _ rV
    have g_u9 := cell_of_row _ _ 9 _ _ _ rV
    simp only [List.getElem?_toArray, List.getElem?_cons_zero, List.getElem?_cons_succ] at g_u0 g_u1 g_u2 g_u3 g_u4 g_u5 g_u6 g_u7 g_u8 g_u9
    clear rV
    go_wp2_with fail
    refine (HI.out _ _ (st0 VmOwn_lies (by omega) X0)).mono ?_
    rintro e w7 ⟨⟨G0s, rfl, G0⟩, hbw7⟩
    have qw7 : Below w1.heap.size w1 w7 := qW6.trans (hbw7.mono qW6.size)
    have zw7 := hbw7.size
    replace p_0 := (hbw7.cell (p := ⟨w.heap.size, 0, none⟩) (by show w.heap.size < _; omega)).trans p_0
    replace p_1 := (hbw7.cell (p := ⟨w.heap.size, 1, none⟩) (by show w.heap.size < _; omega)).trans p_1
    replace p_2 := (hbw7.cell (p := ⟨w.heap.size, 2, none⟩) (by show w.heap.size < _; omega)).trans p_2
    replace p_3 := (hbw7.cell (p := ⟨w.heap.size, 3, none⟩) (by show w.heap.size < _; omega)).trans p_3
    replace p_4 := (hbw7.cell (p := ⟨w.heap.size, 4, none⟩) (by show w.heap.size < _; omega)).trans p_4
    replace p_5 := (hbw7.cell (p := ⟨w.heap.size, 5, none⟩) (by show w.heap.size < _; omega)).trans p_5
    replace p_6 := (hbw7.cell (p := ⟨w.heap.size, 6, none⟩) (by show w.heap.size < _; omega)).trans p_6
    replace p_7 := (hbw7.cell (p := ⟨w.heap.size, 7, none⟩) (by show w.heap.size < _; omega)).trans p_7
    replace p_8 := (hbw7.cell (p := ⟨w.heap.size, 8, none⟩) (by show w.heap.size < _; omega)).trans p_8
    replace p_9 := (hbw7.cell (p := ⟨w.heap.size, 9, none⟩) (by show w.heap.size < _; omega)).trans p_9
    replace f_u0 := (hbw7.cell (p := ⟨w3.heap.size, 0, none⟩) (by show w3.heap.size < _; omega)).trans f_u0
    replace f_u1 := (hbw7.cell (p := ⟨w3.heap.size, 1, none⟩) (by show w3.heap.size < _; omega)).trans f_u1
    replace f_u2 := (hbw7.cell (p := ⟨w3.heap.size, 2, none⟩) (by show w3.heap.size < _; omega)).trans f_u2
    replace f_u3 := (hbw7.cell (p := ⟨w3.heap.size, 3, none⟩) (by show w3.heap.size < _; omega)).trans f_u3
    replace f_u4 := (hbw7.cell (p := ⟨w3.heap.size, 4, none⟩) (by show w3.heap.size < _; omega)).trans f_u4
    replace g_u0 := (hbw7.cell (p := ⟨w5.heap.size, 0, none⟩) (by show w5.heap.size < _; omega)).trans g_u0
    replace g_u1 := (hbw7.cell (p := ⟨w5.heap.size, 1, none⟩) (by show w5.heap.size < _; omega)).trans g_u1
    replace g_u2 := (hbw7.cell (p := ⟨w5.heap.size, 2, none⟩) (by show w5.heap.size < _; omega)).trans g_u2
    replace g_u3 := (hbw7.cell (p := ⟨w5.heap.size, 3, none⟩) (by show w5.heap.size < _; omega)).trans g_u3
    replace g_u4 := (hbw7.cell (p := ⟨w5.heap.size, 4, none⟩) (by show w5.heap.size < _; omega)).trans g_u4
    replace g_u5 := (hbw7.cell (p := ⟨w5.heap.size, 5, none⟩) (by show w5.heap.size < _; omega)).trans g_u5
    replace g_u6 := (hbw7.cell (p := ⟨w5.heap.size, 6, none⟩) (by show w5.heap.size < _; omega)).trans g_u6
    replace g_u7 := (hbw7.cell (p := ⟨w5.heap.size, 7, none⟩) (by show w5.heap.size < _; omega)).trans g_u7
    replace g_u8 := (hbw7.cell (p := ⟨w5.heap.size, 8, none⟩) (by show w5.heap.size < _; omega)).trans g_u8
    replace g_u9 := (hbw7.cell (p := ⟨w5.heap.size, 9, none⟩) (by show w5.heap.size < _; omega)).trans g_u9
    replace P0 := OutcomeOwn_keeps.below (fun b hb => In.lt hb (by omega)) hbw7 P0
    replace X0 := VmOwn_keeps.below (fun b hb => In.lt hb (by omega)) hbw7 X0
    have G0o := G0
    obtain ⟨_, _, _, h_a_out, h_c_out, rfl, h_l_out, h_r_out⟩ := G0o
    clear h_l_out h_r_out
    have al_p_0 : ∀ O : Obj, (w7.alloc O).cell? ⟨w.heap.size, 0, none⟩ = some (.slice m_a_heap_tables x0.heap.tables.length m_c_heap_tables) := fun O => ((bel_alloc w7 O).cell (p := ⟨w.heap.size, 0, none⟩) (by show w.heap.size < _; omega)).trans p_0
    have al_p_1 : ∀ O : Obj, (w7.alloc O).cell? ⟨w.heap.size, 1, none⟩ = some (.slice m_a_heap_cells x0.heap.cells.length m_c_heap_cells) := fun O => ((bel_alloc w7 O).cell (p := ⟨w.heap.size, 1, none⟩) (by show w.heap.size < _; omega)).trans p_1
    have al_p_2 : ∀ O : Obj, (w7.alloc O).cell? ⟨w.heap.size, 2, none⟩ = some (.slice m_a_funs x0.funs.length m_c_funs) := fun O => ((bel_alloc w7 O).cell (p := ⟨w.heap.size, 2, none⟩) (by show w.heap.size < _; omega)).trans p_2
    have al_p_3 : ∀ O : Obj, (w7.alloc O).cell? ⟨w.heap.size, 3, none⟩ = some (.slice m_a_frames x0.frames.length m_c_frames) := fun O => ((bel_alloc w7 O).cell (p := ⟨w.heap.size, 3, none⟩) (by show w.heap.size < _; omega)).trans p_3
    have al_p_4 : ∀ O : Obj, (w7.alloc O).cell? ⟨w.heap.size, 4, none⟩ = some (.slice m_a_out x0.out.length m_c_out) := fun O => ((bel_alloc w7 O).cell (p := ⟨w.heap.size, 4, none⟩) (by show w.heap.size < _; omega)).trans p_4
    have al_p_5 : ∀ O : Obj, (w7.alloc O).cell? ⟨w.heap.size, 5, none⟩ = some (.int .i64 x0.steps) := fun O => ((bel_alloc w7 O).cell (p := ⟨w.heap.size, 5, none⟩) (by show w.heap.size < _; omega)).trans p_5
    have al_p_6 : ∀ O : Obj, (w7.alloc O).cell? ⟨w.heap.size, 6, none⟩ = some (.int .i64 x0.kind) := fun O => ((bel_alloc w7 O).cell (p := ⟨w.heap.size, 6, none⟩) (by show w.heap.size < _; omega)).trans p_6
    have al_p_7 : ∀ O : Obj, (w7.alloc O).cell? ⟨w.heap.size, 7, none⟩ = some (.int .i64 x0.value.k) := fun O => ((bel_alloc w7 O).cell (p := ⟨w.heap.size, 7, none⟩) (by show w.heap.size < _; omega)).trans p_7
    have al_p_8 : ∀ O : Obj, (w7.alloc O).cell? ⟨w.heap.size, 8, none⟩ = some (.int .i64 x0.value.n) := fun O => ((bel_alloc w7 O).cell (p := ⟨w.heap.size, 8, none⟩) (by show w.heap.size < _; omega)).trans p_8
    have al_p_9 : ∀ O : Obj, (w7.alloc O).cell? ⟨w.heap.size, 9, none⟩ = some (.string x0.value.s) := fun O => ((bel_alloc w7 O).cell (p := ⟨w.heap.size, 9, none⟩) (by show w.heap.size < _; omega)).trans p_9
    have al_f_u0 : ∀ O : Obj, (w7.alloc O).cell? ⟨w3.heap.size, 0, none⟩ = some (.int .i64 V.kind) := fun O => ((bel_alloc w7 O).cell (p := ⟨w3.heap.size, 0, none⟩) (by show w3.heap.size < _; omega)).trans f_u0
    have al_f_u1 : ∀ O : Obj, (w7.alloc O).cell? ⟨w3.heap.size, 1, none⟩ = some (.int .i64 V.value.k) := fun O => ((bel_alloc w7 O).cell (p := ⟨w3.heap.size, 1, none⟩) (by show w3.heap.size < _; omega)).trans f_u1
    have al_f_u2 : ∀ O : Obj, (w7.alloc O).cell? ⟨w3.heap.size, 2, none⟩ = some (.int .i64 V.value.n) := fun O => ((bel_alloc w7 O).cell (p := ⟨w3.heap.size, 2, none⟩) (by show w3.heap.size < _; omega)).trans f_u2
    have al_f_u3 : ∀ O : Obj, (w7.alloc O).cell? ⟨w3.heap.size, 3, none⟩ = some (.string V.value.s) := fun O => ((bel_alloc w7 O).cell (p := ⟨w3.heap.size, 3, none⟩) (by show w3.heap.size < _; omega)).trans f_u3
    have al_f_u4 : ∀ O : Obj, (w7.alloc O).cell? ⟨w3.heap.size, 4, none⟩ = some (.slice f_a_out V.out.length f_c_out) := fun O => ((bel_alloc w7 O).cell (p := ⟨w3.heap.size, 4, none⟩) (by show w3.heap.size < _; omega)).trans f_u4
    have al_g_u0 : ∀ O : Obj, (w7.alloc O).cell? ⟨w5.heap.size, 0, none⟩ = some (.slice g_a_heap_tables x0.heap.tables.length g_c_heap_tables) := fun O => ((bel_alloc w7 O).cell (p := ⟨w5.heap.size, 0, none⟩) (by show w5.heap.size < _; omega)).trans g_u0
    have al_g_u1 : ∀ O : Obj, (w7.alloc O).cell? ⟨w5.heap.size, 1, none⟩ = some (.slice g_a_heap_cells x0.heap.cells.length g_c_heap_cells) := fun O => ((bel_alloc w7 O).cell (p := ⟨w5.heap.size, 1, none⟩) (by show w5.heap.size < _; omega)).trans g_u1
    have al_g_u2 : ∀ O : Obj, (w7.alloc O).cell? ⟨w5.heap.size, 2, none⟩ = some (.slice g_a_funs x0.funs.length g_c_funs) := fun O => ((bel_alloc w7 O).cell (p := ⟨w5.heap.size, 2, none⟩) (by show w5.heap.size < _; omega)).trans g_u2
    have al_g_u3 : ∀ O : Obj, (w7.alloc O).cell? ⟨w5.heap.size, 3, none⟩ = some (.slice g_a_frames x0.frames.length g_c_frames) := fun O => ((bel_alloc w7 O).cell (p := ⟨w5.heap.size, 3, none⟩) (by show w5.heap.size < _; omega)).trans g_u3
    have al_g_u4 : ∀ O : Obj, (w7.alloc O).cell? ⟨w5.heap.size, 4, none⟩ = some (.slice g_a_out x0.out.length g_c_out) := fun O => ((bel_alloc w7 O).cell (p := ⟨w5.heap.size, 4, none⟩) (by show w5.heap.size < _; omega)).trans g_u4
    have al_g_u5 : ∀ O : Obj, (w7.alloc O).cell? ⟨w5.heap.size, 5, none⟩ = some (.int .i64 x0.steps) := fun O => ((bel_alloc w7 O).cell (p := ⟨w5.heap.size, 5, none⟩) (by show w5.heap.size < _; omega)).trans g_u5
    have al_g_u6 : ∀ O : Obj, (w7.alloc O).cell? ⟨w5.heap.size, 6, none⟩ = some (.int .i64 x0.kind) := fun O => ((bel_alloc w7 O).cell (p := ⟨w5.heap.size, 6, none⟩) (by show w5.heap.size < _; omega)).trans g_u6
    have al_g_u7 : ∀ O : Obj, (w7.alloc O).cell? ⟨w5.heap.size, 7, none⟩ = some (.int .i64 x0.value.k) := fun O => ((bel_alloc w7 O).cell (p := ⟨w5.heap.size, 7, none⟩) (by show w5.heap.size < _; omega)).trans g_u7
    have al_g_u8 : ∀ O : Obj, (w7.alloc O).cell? ⟨w5.heap.size, 8, none⟩ = some (.int .i64 x0.value.n) := fun O => ((bel_alloc w7 O).cell (p := ⟨w5.heap.size, 8, none⟩) (by show w5.heap.size < _; omega)).trans g_u8
    have al_g_u9 : ∀ O : Obj, (w7.alloc O).cell? ⟨w5.heap.size, 9, none⟩ = some (.string x0.value.s) := fun O => ((bel_alloc w7 O).cell (p := ⟨w5.heap.size, 9, none⟩) (by show w5.heap.size < _; omega)).trans g_u9
    go_wp2_with fail
    clear al_p_0 al_p_1 al_p_2 al_p_3 al_p_4 al_p_5 al_p_6 al_p_7 al_p_8 al_p_9 al_f_u0 al_f_u1 al_f_u2 al_f_u3 al_f_u4 al_g_u0 al_g_u1 al_g_u2 al_g_u3 al_g_u4 al_g_u5 al_g_u6 al_g_u7 al_g_u8 al_g_u9
    obtain ⟨W8, hW8⟩ : ∃ W, W = w7.alloc (Obj.cells #[.int .i64 V.kind, .int .i64 V.value.k, .int .i64 V.value.n, .string V.value.s, .slice h_a_out V.out.length h_c_out] 54) := ⟨_, rfl⟩
    rw [← hW8]
    have hbW8 : Below w7.heap.size w7 W8 := by rw [hW8]; exact bel_alloc _ _
    have rV : W8.heap[w7.heap.size]? = some (Obj.cells #[.int .i64 V.kind, .int .i64 V.value.k, .int .i64 V.value.n, .string V.value.s, .slice h_a_out V.out.length h_c_out] 54) := by rw [hW8]; exact heap_alloc_new _ _
    have zW8 : W8.heap.size = w7.heap.size + 1 := by rw [hW8]; simp
    clear hW8
    have qW8 : Below w1.heap.size w1 W8 := qw7.trans (hbW8.mono qw7.size)
    replace p_0 := (hbW8.cell (p := ⟨w.heap.size, 0, none⟩) (by show w.heap.size < _; omega)).trans p_0
    replace p_1 := (hbW8.cell (p := ⟨w.heap.size, 1, none⟩) (by show w.heap.size < _; omega)).trans p_1
    replace p_2 := (hbW8.cell (p := ⟨w.heap.size, 2, none⟩) (by show w.heap.size < _; omega)).trans p_2
    replace p_3 := (hbW8.cell (p := ⟨w.heap.size, 3, none⟩) (by show w.heap.size < _; omega)).trans p_3
    replace p_4 := (hbW8.cell (p := ⟨w.heap.size, 4, none⟩) (by show w.heap.size < _; omega)).trans p_4
    replace p_5 := (hbW8.cell (p := ⟨w.heap.size, 5, none⟩) (by show w.heap.size < _; omega)).trans p_5
    replace p_6 := (hbW8.cell (p := ⟨w.heap.size, 6, none⟩) (by show w.heap.size < _; omega)).trans p_6
    replace p_7 := (hbW8.cell (p := ⟨w.heap.size, 7, none⟩) (by show w.heap.size < _; omega)).trans p_7
    replace p_8 := (hbW8.cell (p := ⟨w.heap.size, 8, none⟩) (by show w.heap.size < _; omega)).trans p_8
    replace p_9 := (hbW8.cell (p := ⟨w.heap.size, 9, none⟩) (by show w.heap.size < _; omega)).trans p_9
    replace f_u0 := (hbW8.cell (p := ⟨w3.heap.size, 0, none⟩) (by show w3.heap.size < _; omega)).trans f_u0
    replace f_u1 := (hbW8.cell (p := ⟨w3.heap.size, 1, none⟩) (by show w3.heap.size < _; omega)).trans f_u1
    replace f_u2 := (hbW8.cell (p := ⟨w3.heap.size, 2, none⟩) (by show w3.heap.size < _; omega)).trans f_u2
    replace f_u3 := (hbW8.cell (p := ⟨w3.heap.size, 3, none⟩) (by show w3.heap.size < _; omega)).trans f_u3
    replace f_u4 := (hbW8.cell (p := ⟨w3.heap.size, 4, none⟩) (by show w3.heap.size < _; omega)).trans f_u4
    replace g_u0 := (hbW8.cell (p := ⟨w5.heap.size, 0, none⟩) (by show w5.heap.size < _; omega)).trans g_u0
    replace g_u1 := (hbW8.cell (p := ⟨w5.heap.size, 1, none⟩) (by show w5.heap.size < _; omega)).trans g_u1
    replace g_u2 := (hbW8.cell (p := ⟨w5.heap.size, 2, none⟩) (by show w5.heap.size < _; omega)).trans g_u2
    replace g_u3 := (hbW8.cell (p := ⟨w5.heap.size, 3, none⟩) (by show w5.heap.size < _; omega)).trans g_u3
    replace g_u4 := (hbW8.cell (p := ⟨w5.heap.size, 4, none⟩) (by show w5.heap.size < _; omega)).trans g_u4
    replace g_u5 := (hbW8.cell (p := ⟨w5.heap.size, 5, none⟩) (by show w5.heap.size < _; omega)).trans g_u5
    replace g_u6 := (hbW8.cell (p := ⟨w5.heap.size, 6, none⟩) (by show w5.heap.size < _; omega)).trans g_u6
    replace g_u7 := (hbW8.cell (p := ⟨w5.heap.size, 7, none⟩) (by show w5.heap.size < _; omega)).trans g_u7
    replace g_u8 := (hbW8.cell (p := ⟨w5.heap.size, 8, none⟩) (by show w5.heap.size < _; omega)).trans g_u8
    replace g_u9 := (hbW8.cell (p := ⟨w5.heap.size, 9, none⟩) (by show w5.heap.size < _; omega)).trans g_u9
    replace P0 := OutcomeOwn_keeps.below (fun b hb => In.lt hb (by omega)) hbW8 P0
    replace X0 := VmOwn_keeps.below (fun b hb => In.lt hb (by omega)) hbW8 X0
    replace G0 := OutcomeOwn_keeps.below (fun b hb => In.lt hb (by omega)) hbW8 G0
    have h_u0 := cell_of_row _ _ 0 _ _ _ rV
    have h_u1 := cell_of_row _ _ 1 _ _ _ rV
    have h_u2 := cell_of_row _ _ 2 _ _ _ rV
    have h_u3 := cell_of_row _ _ 3 _ _ _ rV
    have h_u4 := cell_of_row _ _ 4 _ _ _ rV
    simp only [List.getElem?_toArray, List.getElem?_cons_zero, List.getElem?_cons_succ] at h_u0 h_u1 h_u2 h_u3 h_u4
    clear rV
    go_wp2_with fail
    refine (eqOutcome_same V _ _ 0 W8.heap.size 0 W8.heap.size W8 (Nat.le_refl _) (Nat.le_refl _) HVW.out (st0 OutcomeOwn_lies (by omega) G0) (st0 OutcomeOwn_lies (by omega) P0)).mono ?_
    rintro e w9 ⟨rfl, hbw9⟩
    have qw9 : Below w1.heap.size w1 w9 := qW8.trans (hbw9.mono qW8.size)
    have zw9 := hbw9.size
    replace p_0 := (hbw9.cell (p := ⟨w.heap.size, 0, none⟩) (by show w.heap.size < _; omega)).trans p_0
    replace p_1 := (hbw9.cell (p := ⟨w.heap.size, 1, none⟩) (by show w.heap.size < _; omega)).trans p_1
    replace p_2 := (hbw9.cell (p := ⟨w.heap.size, 2, none⟩) (by show w.heap.size < _; omega)).trans p_2
    replace p_3 := (hbw9.cell (p := ⟨w.heap.size, 3, none⟩) (by show w.heap.size < _; omega)).trans p_3
    replace p_4 := (hbw9.cell (p := ⟨w.heap.size, 4, none⟩) (by show w.heap.size < _; omega)).trans p_4
    replace p_5 := (hbw9.cell (p := ⟨w.heap.size, 5, none⟩) (by show w.heap.size < _; omega)).trans p_5
    replace p_6 := (hbw9.cell (p := ⟨w.heap.size, 6, none⟩) (by show w.heap.size < _; omega)).trans p_6
    replace p_7 := (hbw9.cell (p := ⟨w.heap.size, 7, none⟩) (by show w.heap.size < _; omega)).trans p_7
    replace p_8 := (hbw9.cell (p := ⟨w.heap.size, 8, none⟩) (by show w.heap.size < _; omega)).trans p_8
    replace p_9 := (hbw9.cell (p := ⟨w.heap.size, 9, none⟩) (by show w.heap.size < _; omega)).trans p_9
    replace f_u0 := (hbw9.cell (p := ⟨w3.heap.size, 0, none⟩) (by show w3.heap.size < _; omega)).trans f_u0
    replace f_u1 := (hbw9.cell (p := ⟨w3.heap.size, 1, none⟩) (by show w3.heap.size < _; omega)).trans f_u1
    replace f_u2 := (hbw9.cell (p := ⟨w3.heap.size, 2, none⟩) (by show w3.heap.size < _; omega)).trans f_u2
    replace f_u3 := (hbw9.cell (p := ⟨w3.heap.size, 3, none⟩) (by show w3.heap.size < _; omega)).trans f_u3
    replace f_u4 := (hbw9.cell (p := ⟨w3.heap.size, 4, none⟩) (by show w3.heap.size < _; omega)).trans f_u4
    replace g_u0 := (hbw9.cell (p := ⟨w5.heap.size, 0, none⟩) (by show w5.heap.size < _; omega)).trans g_u0
    replace g_u1 := (hbw9.cell (p := ⟨w5.heap.size, 1, none⟩) (by show w5.heap.size < _; omega)).trans g_u1
    replace g_u2 := (hbw9.cell (p := ⟨w5.heap.size, 2, none⟩) (by show w5.heap.size < _; omega)).trans g_u2
    replace g_u3 := (hbw9.cell (p := ⟨w5.heap.size, 3, none⟩) (by show w5.heap.size < _; omega)).trans g_u3
    replace g_u4 := (hbw9.cell (p := ⟨w5.heap.size, 4, none⟩) (by show w5.heap.size < _; omega)).trans g_u4
    replace g_u5 := (hbw9.cell (p := ⟨w5.heap.size, 5, none⟩) (by show w5.heap.size < _; omega)).trans g_u5
    replace g_u6 := (hbw9.cell (p := ⟨w5.heap.size, 6, none⟩) (by show w5.heap.size < _; omega)).trans g_u6
    replace g_u7 := (hbw9.cell (p := ⟨w5.heap.size, 7, none⟩) (by show w5.heap.size < _; omega)).trans g_u7
    replace g_u8 := (hbw9.cell (p := ⟨w5.heap.size, 8, none⟩) (by show w5.heap.size < _; omega)).trans g_u8
    replace g_u9 := (hbw9.cell (p := ⟨w5.heap.size, 9, none⟩) (by show w5.heap.size < _; omega)).trans g_u9
    replace h_u0 := (hbw9.cell (p := ⟨w7.heap.size, 0, none⟩) (by show w7.heap.size < _; omega)).trans h_u0
    replace h_u1 := (hbw9.cell (p := ⟨w7.heap.size, 1, none⟩) (by show w7.heap.size < _; omega)).trans h_u1
    replace h_u2 := (hbw9.cell (p := ⟨w7.heap.size, 2, none⟩) (by show w7.heap.size < _; omega)).trans h_u2
    replace h_u3 := (hbw9.cell (p := ⟨w7.heap.size, 3, none⟩) (by show w7.heap.size < _; omega)).trans h_u3
    replace h_u4 := (hbw9.cell (p := ⟨w7.heap.size, 4, none⟩) (by show w7.heap.size < _; omega)).trans h_u4
    replace P0 := OutcomeOwn_keeps.below (fun b hb => In.lt hb (by omega)) hbw9 P0
    replace X0 := VmOwn_keeps.below (fun b hb => In.lt hb (by omega)) hbw9 X0
    replace G0 := OutcomeOwn_keeps.below (fun b hb => In.lt hb (by omega)) hbw9 G0
    have KEEP : Hid (∀ W' : World, Below w9.heap.size w9 W' → (fun w' => Below w9.heap.size w9 w' ∧ w'.cell? ⟨w.heap.size, 0, none⟩ = some (.slice m_a_heap_tables x0.heap.tables.length m_c_heap_tables) ∧ w'.cell? ⟨w.heap.size, 1, none⟩ = some (.slice m_a_heap_cells x0.heap.cells.length m_c_heap_cells) ∧ w'.cell? ⟨w.heap.size, 2, none⟩ = some (.slice m_a_funs x0.funs.length m_c_funs) ∧ w'.cell? ⟨w.heap.size, 3, none⟩ = some (.slice m_a_frames x0.frames.length m_c_frames) ∧ w'.cell? ⟨w.heap.size, 4, none⟩ = some (.slice m_a_out x0.out.length m_c_out) ∧ w'.cell? ⟨w.heap.size, 5, none⟩ = some (.int .i64 x0.steps) ∧ w'.cell? ⟨w.heap.size, 6, none⟩ = some (.int .i64 x0.kind) ∧ w'.cell? ⟨w.heap.size, 7, none⟩ = some (.int .i64 x0.value.k) ∧ w'.cell? ⟨w.heap.size, 8, none⟩ = some (.int .i64 x0.value.n) ∧ w'.cell? ⟨w.heap.size, 9, none⟩ = some (.string x0.value.s) ∧ w'.cell? ⟨w5.heap.size, 0, none⟩ = some (.slice g_a_heap_tables x0.heap.tables.length g_c_heap_tables) ∧ w'.cell? ⟨w5.heap.size, 1, none⟩ = some (.slice g_a_heap_cells x0.heap.cells.length g_c_heap_cells) ∧ w'.cell? ⟨w5.heap.size, 2, none⟩ = some (.slice g_a_funs x0.funs.length g_c_funs) ∧ w'.cell? ⟨w5.heap.size, 3, none⟩ = some (.slice g_a_frames x0.frames.length g_c_frames) ∧ w'.cell? ⟨w5.heap.size, 4, none⟩ = some (.slice g_a_out x0.out.length g_c_out) ∧ w'.cell? ⟨w5.heap.size, 5, none⟩ = some (.int .i64 x0.steps) ∧ w'.cell? ⟨w5.heap.size, 6, none⟩ = some (.int .i64 x0.kind) ∧ w'.cell? ⟨w5.heap.size, 7, none⟩ = some (.int .i64 x0.value.k) ∧ w'.cell? ⟨w5.heap.size, 8, none⟩ = some (.int .i64 x0.value.n) ∧ w'.cell? ⟨w5.heap.size, 9, none⟩ = some (.string x0.value.s)) W') := fun W' hB => ⟨hB, (hB.cell (p := ⟨w.heap.size, 0, none⟩) (by show w.heap.size < _; omega)).trans p_0, (hB.cell (p := ⟨w.heap.size, 1, none⟩) (by show w.heap.size < _; omega)).trans p_1, (hB.cell (p := ⟨w.heap.size, 2, none⟩) (by show w.heap.size < _; omega)).trans p_2, (hB.cell (p := ⟨w.heap.size, 3, none⟩) (by show w.heap.size < _; omega)).trans p_3, (hB.cell (p := ⟨w.heap.size, 4, none⟩) (by show w.heap.size < _; omega)).trans p_4, (hB.cell (p := ⟨w.heap.size, 5, none⟩) (by show w.heap.size < _; omega)).trans p_5, (hB.cell (p := ⟨w.heap.size, 6, none⟩) (by show w.heap.size < _; omega)).trans p_6, (hB.cell (p := ⟨w.heap.size, 7, none⟩) (by show w.heap.size < _; omega)).trans p_7, (hB.cell (p := ⟨w.heap.size, 8, none⟩) (by show w.heap.size < _; omega)).trans p_8, (hB.cell (p := ⟨w.heap.size, 9, none⟩) (by show w.heap.size < _; omega)).trans p_9, (hB.cell (p := ⟨w5.heap.size, 0, none⟩) (by show w5.heap.size < _; omega)).trans g_u0, (hB.cell (p := ⟨w5.heap.size, 1, none⟩) (by show w5.heap.size < _; omega)).trans g_u1, (hB.cell (p := ⟨w5.heap.size, 2, none⟩) (by show w5.heap.size < _; omega)).trans g_u2, (hB.cell (p := ⟨w5.heap.size, 3, none⟩) (by show w5.heap.size < _; omega)).trans g_u3, (hB.cell (p := ⟨w5.heap.size, 4, none⟩) (by show w5.heap.size < _; omega)).trans g_u4, (hB.cell (p := ⟨w5.heap.size, 5, none⟩) (by show w5.heap.size < _; omega)).trans g_u5, (hB.cell (p := ⟨w5.heap.size, 6, none⟩) (by show w5.heap.size < _; omega)).trans g_u6, (hB.cell (p := ⟨w5.heap.size, 7, none⟩) (by show w5.heap.size < _; omega)).trans g_u7, (hB.cell (p := ⟨w5.heap.size, 8, none⟩) (by show w5.heap.size < _; omega)).trans g_u8, (hB.cell (p := ⟨w5.heap.size, 9, none⟩) (by show w5.heap.size < _; omega)).trans g_u9⟩
    have HT9 : Hid (∀ W, Below w9.heap.size w9 W → Calls Try.prog 18 #[.agg #[.slice m_a_heap_tables x0.heap.tables.length m_c_heap_tables, .slice m_a_heap_cells x0.heap.cells.length m_c_heap_cells, .slice m_a_funs x0.funs.length m_c_funs, .slice m_a_frames x0.frames.length m_c_frames, .slice m_a_out x0.out.length m_c_out, .int .i64 x0.steps, .int .i64 x0.kind, .int .i64 x0.value.k, .int .i64 x0.value.n, .string x0.value.s]] W fun e w' => (∃ cs, e = .returned (.agg cs.toArray) ∧ VmC w' 0 w'.heap.size x0 cs) ∧ Below W.heap.size W w') := fun W hW => (HTO.out W (qw9.trans (hW.mono qw9.size))).mono fun e w' ⟨⟨cs, he, hR⟩, hb⟩ => ⟨⟨cs, he, st0 VmOwn_lies (Nat.le_refl _) hR⟩, hb⟩
    have HE9 : Hid (∀ W cs', Below w9.heap.size w9 W → VmC W 0 W.heap.size x0 cs' → Calls Try.prog 11 #[.agg #[.slice g_a_heap_tables x0.heap.tables.length g_c_heap_tables, .slice g_a_heap_cells x0.heap.cells.length g_c_heap_cells, .slice g_a_funs x0.funs.length g_c_funs, .slice g_a_frames x0.frames.length g_c_frames, .slice g_a_out x0.out.length g_c_out, .int .i64 x0.steps, .int .i64 x0.kind, .int .i64 x0.value.k, .int .i64 x0.value.n, .string x0.value.s], .agg cs'.toArray] W fun e w' => e = .returned (.bool true) ∧ Below W.heap.size W w') := fun W cs' hW h2 => eqVm_same x0 _ cs' _ _ _ _ W (Nat.le_refl _) (Nat.le_refl _) (by omega) (st0_b VmC_keeps (st0 VmOwn_lies (by omega) X0) hW) h2
    have HP0 : Hid (OutcomeOwn w9 (In w2.heap.size w3.heap.size) V _) := P0
    have Hf_u0 : Hid (w9.cell? ⟨w3.heap.size, 0, none⟩ = some (.int .i64 V.kind)) := f_u0
    have Hf_u1 : Hid (w9.cell? ⟨w3.heap.size, 1, none⟩ = some (.int .i64 V.value.k)) := f_u1
    have Hf_u2 : Hid (w9.cell? ⟨w3.heap.size, 2, none⟩ = some (.int .i64 V.value.n)) := f_u2
    have Hf_u3 : Hid (w9.cell? ⟨w3.heap.size, 3, none⟩ = some (.string V.value.s)) := f_u3
    have Hf_u4 : Hid (w9.cell? ⟨w3.heap.size, 4, none⟩ = some (.slice f_a_out V.out.length f_c_out)) := f_u4
    have HX0 : Hid (VmOwn w9 (In W4.heap.size w5.heap.size) x0 _) := X0
    have HG0 : Hid (OutcomeOwn w9 (In W6.heap.size w7.heap.size) V _) := G0
    have Hh_u0 : Hid (w9.cell? ⟨w7.heap.size, 0, none⟩ = some (.int .i64 V.kind)) := h_u0
    have Hh_u1 : Hid (w9.cell? ⟨w7.heap.size, 1, none⟩ = some (.int .i64 V.value.k)) := h_u1
    have Hh_u2 : Hid (w9.cell? ⟨w7.heap.size, 2, none⟩ = some (.int .i64 V.value.n)) := h_u2
    have Hh_u3 : Hid (w9.cell? ⟨w7.heap.size, 3, none⟩ = some (.string V.value.s)) := h_u3
    have Hh_u4 : Hid (w9.cell? ⟨w7.heap.size, 4, none⟩ = some (.slice h_a_out V.out.length h_c_out)) := h_u4
    have hq09 : Below w9.heap.size w9 w9.drew := (Below.refl _ _).drew
    clear p_0 p_1 p_2 p_3 p_4 p_5 p_6 p_7 p_8 p_9 g_u0 g_u1 g_u2 g_u3 g_u4 g_u5 g_u6 g_u7 g_u8 g_u9 P0 f_u0 f_u1 f_u2 f_u3 f_u4 X0 G0 h_u0 h_u1 h_u2 h_u3 h_u4
    go_wp2_with fail
    go_cut [31] from 27 (fun u wx => u = .bool false ∧ Below w9.heap.size w9 wx)
    case first =>
      go_region_held3 (fun w' => Below w9.heap.size w9 w' ∧ w'.cell? ⟨w.heap.size, 0, none⟩ = some (.slice m_a_heap_tables x0.heap.tables.length m_c_heap_tables) ∧ w'.cell? ⟨w.heap.size, 1, none⟩ = some (.slice m_a_heap_cells x0.heap.cells.length m_c_heap_cells) ∧ w'.cell? ⟨w.heap.size, 2, none⟩ = some (.slice m_a_funs x0.funs.length m_c_funs) ∧ w'.cell? ⟨w.heap.size, 3, none⟩ = some (.slice m_a_frames x0.frames.length m_c_frames) ∧ w'.cell? ⟨w.heap.size, 4, none⟩ = some (.slice m_a_out x0.out.length m_c_out) ∧ w'.cell? ⟨w.heap.size, 5, none⟩ = some (.int .i64 x0.steps) ∧ w'.cell? ⟨w.heap.size, 6, none⟩ = some (.int .i64 x0.kind) ∧ w'.cell? ⟨w.heap.size, 7, none⟩ = some (.int .i64 x0.value.k) ∧ w'.cell? ⟨w.heap.size, 8, none⟩ = some (.int .i64 x0.value.n) ∧ w'.cell? ⟨w.heap.size, 9, none⟩ = some (.string x0.value.s) ∧ w'.cell? ⟨w5.heap.size, 0, none⟩ = some (.slice g_a_heap_tables x0.heap.tables.length g_c_heap_tables) ∧ w'.cell? ⟨w5.heap.size, 1, none⟩ = some (.slice g_a_heap_cells x0.heap.cells.length g_c_heap_cells) ∧ w'.cell? ⟨w5.heap.size, 2, none⟩ = some (.slice g_a_funs x0.funs.length g_c_funs) ∧ w'.cell? ⟨w5.heap.size, 3, none⟩ = some (.slice g_a_frames x0.frames.length g_c_frames) ∧ w'.cell? ⟨w5.heap.size, 4, none⟩ = some (.slice g_a_out x0.out.length g_c_out) ∧ w'.cell? ⟨w5.heap.size, 5, none⟩ = some (.int .i64 x0.steps) ∧ w'.cell? ⟨w5.heap.size, 6, none⟩ = some (.int .i64 x0.kind) ∧ w'.cell? ⟨w5.heap.size, 7, none⟩ = some (.int .i64 x0.value.k) ∧ w'.cell? ⟨w5.heap.size, 8, none⟩ = some (.int .i64 x0.value.n) ∧ w'.cell? ⟨w5.heap.size, 9, none⟩ = some (.string x0.value.s)) (first | (with_reducible assumption) | exact KEEP.out _ (by with_reducible assumption)) (first | (go_at_call 18; (first | refine (HT9.out _ (bel_of (by with_reducible assumption))).mono ?_ | refine (HT9.out _ (by with_reducible assumption)).mono ?_); rintro e w' ⟨⟨t0, rfl, hZ⟩, hb'⟩; (first | (have hq' := bel_step (by with_reducible assumption) hb') | (have hq' := bel_stepd (by with_reducible assumption) hb'))) | (go_at_call 11; (first | refine (HE9.out _ _ (by with_reducible assumption) hZ).mono ?_ | refine (HE9.out _ _ (bel_of (by with_reducible assumption)) hZ).mono ?_); rintro e w'' ⟨rfl, hb''⟩; (first | (have hq'' := bel_step (by with_reducible assumption) hb'') | (have hq'' := bel_stepd (by with_reducible assumption) hb''))))
      all_goals
        go_wp2_with fail
        go_meet
        case rel => exact ⟨rfl, by first | (with_reducible assumption) | exact bel_of (by with_reducible assumption)⟩
    case rest =>
      rename World => w12
      obtain ⟨rfl, hbw12⟩ := hcut
      have qw12 : Below w1.heap.size w1 w12 := qw9.trans (hbw12.mono qw9.size)
      have zw12 := hbw12.size
      have p_0 := (KEEP.out _ hbw12).2.1
      have p_1 := (KEEP.out _ hbw12).2.2.1
      have p_2 := (KEEP.out _ hbw12).2.2.2.1
      have p_3 := (KEEP.out _ hbw12).2.2.2.2.1
      have p_4 := (KEEP.out _ hbw12).2.2.2.2.2.1
      have p_5 := (KEEP.out _ hbw12).2.2.2.2.2.2.1
      have p_6 := (KEEP.out _ hbw12).2.2.2.2.2.2.2.1
      have p_7 := (KEEP.out _ hbw12).2.2.2.2.2.2.2.2.1
      have p_8 := (KEEP.out _ hbw12).2.2.2.2.2.2.2.2.2.1
      have p_9 := (KEEP.out _ hbw12).2.2.2.2.2.2.2.2.2.2.1
      have g_u0 := (KEEP.out _ hbw12).2.2.2.2.2.2.2.2.2.2.2.1
      have g_u1 := (KEEP.out _ hbw12).2.2.2.2.2.2.2.2.2.2.2.2.1
      have g_u2 := (KEEP.out _ hbw12).2.2.2.2.2.2.2.2.2.2.2.2.2.1
      have g_u3 := (KEEP.out _ hbw12).2.2.2.2.2.2.2.2.2.2.2.2.2.2.1
      have g_u4 := (KEEP.out _ hbw12).2.2.2.2.2.2.2.2.2.2.2.2.2.2.2.1
      have g_u5 := (KEEP.out _ hbw12).2.2.2.2.2.2.2.2.2.2.2.2.2.2.2.2.1
      have g_u6 := (KEEP.out _ hbw12).2.2.2.2.2.2.2.2.2.2.2.2.2.2.2.2.2.1
      have g_u7 := (KEEP.out _ hbw12).2.2.2.2.2.2.2.2.2.2.2.2.2.2.2.2.2.2.1
      have g_u8 := (KEEP.out _ hbw12).2.2.2.2.2.2.2.2.2.2.2.2.2.2.2.2.2.2.2.1
      have g_u9 := (KEEP.out _ hbw12).2.2.2.2.2.2.2.2.2.2.2.2.2.2.2.2.2.2.2.2
      have P0 := HP0.out
      have f_u0 := Hf_u0.out
      have f_u1 := Hf_u1.out
      have f_u2 := Hf_u2.out
      have f_u3 := Hf_u3.out
      have f_u4 := Hf_u4.out
      have X0 := HX0.out
      have G0 := HG0.out
      have h_u0 := Hh_u0.out
      have h_u1 := Hh_u1.out
      have h_u2 := Hh_u2.out
      have h_u3 := Hh_u3.out
      have h_u4 := Hh_u4.out
      replace P0 := OutcomeOwn_keeps.below (fun b hb => In.lt hb (by omega)) hbw12 P0
      replace f_u0 := (hbw12.cell (p := ⟨w3.heap.size, 0, none⟩) (by show w3.heap.size < _; omega)).trans f_u0
      replace f_u1 := (hbw12.cell (p := ⟨w3.heap.size, 1, none⟩) (by show w3.heap.size < _; omega)).trans f_u1
      replace f_u2 := (hbw12.cell (p := ⟨w3.heap.size, 2, none⟩) (by show w3.heap.size < _; omega)).trans f_u2
      replace f_u3 := (hbw12.cell (p := ⟨w3.heap.size, 3, none⟩) (by show w3.heap.size < _; omega)).trans f_u3
      replace f_u4 := (hbw12.cell (p := ⟨w3.heap.size, 4, none⟩) (by show w3.heap.size < _; omega)).trans f_u4
      replace X0 := VmOwn_keeps.below (fun b hb => In.lt hb (by omega)) hbw12 X0
      replace G0 := OutcomeOwn_keeps.below (fun b hb => In.lt hb (by omega)) hbw12 G0
      replace h_u0 := (hbw12.cell (p := ⟨w7.heap.size, 0, none⟩) (by show w7.heap.size < _; omega)).trans h_u0
      replace h_u1 := (hbw12.cell (p := ⟨w7.heap.size, 1, none⟩) (by show w7.heap.size < _; omega)).trans h_u1
      replace h_u2 := (hbw12.cell (p := ⟨w7.heap.size, 2, none⟩) (by show w7.heap.size < _; omega)).trans h_u2
      replace h_u3 := (hbw12.cell (p := ⟨w7.heap.size, 3, none⟩) (by show w7.heap.size < _; omega)).trans h_u3
      replace h_u4 := (hbw12.cell (p := ⟨w7.heap.size, 4, none⟩) (by show w7.heap.size < _; omega)).trans h_u4
      clear KEEP HT9 HE9 HP0 Hf_u0 Hf_u1 Hf_u2 Hf_u3 Hf_u4 HX0 HG0 Hh_u0 Hh_u1 Hh_u2 Hh_u3 Hh_u4
      go_wp2_with fail
      refine (mkVm_any x0 _ 1 1 (In W4.heap.size w5.heap.size) w12 (fun b hb => In.lt hb (by omega)) X0 rfl (by decide) HXN.out).mono ?_
      rintro e w13 ⟨rfl, _, oX⟩
      have zw13 := oX.size
      have bX : Below w1.heap.size w12 w13 := oX.below (by omega) (fun b hb h => by have := h.1; omega)
      have qw13 : Below w1.heap.size w1 w13 := qw12.trans bX
      clear X0 g_u0 g_u1 g_u2 g_u3 g_u4 g_u5 g_u6 g_u7 g_u8 g_u9
      replace p_0 := (World.cell?_of_block (a := ⟨w.heap.size, 0, none⟩) (oX.block w.heap.size (by omega) (fun h => by have h1 := h.1; have h2 := h.2; omega))).trans p_0
      replace p_1 := (World.cell?_of_block (a := ⟨w.heap.size, 1, none⟩) (oX.block w.heap.size (by omega) (fun h => by have h1 := h.1; have h2 := h.2; omega))).trans p_1
      replace p_2 := (World.cell?_of_block (a := ⟨w.heap.size, 2, none⟩) (oX.block w.heap.size (by omega) (fun h => by have h1 := h.1; have h2 := h.2; omega))).trans p_2
      replace p_3 := (World.cell?_of_block (a := ⟨w.heap.size, 3, none⟩) (oX.block w.heap.size (by omega) (fun h => by have h1 := h.1; have h2 := h.2; omega))).trans p_3
      replace p_4 := (World.cell?_of_block (a := ⟨w.heap.size, 4, none⟩) (oX.block w.heap.size (by omega) (fun h => by have h1 := h.1; have h2 := h.2; omega))).trans p_4
      replace p_5 := (World.cell?_of_block (a := ⟨w.heap.size, 5, none⟩) (oX.block w.heap.size (by omega) (fun h => by have h1 := h.1; have h2 := h.2; omega))).trans p_5
      replace p_6 := (World.cell?_of_block (a := ⟨w.heap.size, 6, none⟩) (oX.block w.heap.size (by omega) (fun h => by have h1 := h.1; have h2 := h.2; omega))).trans p_6
      replace p_7 := (World.cell?_of_block (a := ⟨w.heap.size, 7, none⟩) (oX.block w.heap.size (by omega) (fun h => by have h1 := h.1; have h2 := h.2; omega))).trans p_7
      replace p_8 := (World.cell?_of_block (a := ⟨w.heap.size, 8, none⟩) (oX.block w.heap.size (by omega) (fun h => by have h1 := h.1; have h2 := h.2; omega))).trans p_8
      replace p_9 := (World.cell?_of_block (a := ⟨w.heap.size, 9, none⟩) (oX.block w.heap.size (by omega) (fun h => by have h1 := h.1; have h2 := h.2; omega))).trans p_9
      replace P0 := OutcomeOwn_keeps _ _ _ _ _ _ (fun _ h => h) (fun b hb => oX.block b (In.lt hb (by omega)) (fun hc => by have h1 := hb.1; have h2 := hb.2; have h3 := hc.1; have h4 := hc.2; omega)) P0
      replace f_u0 := (World.cell?_of_block (a := ⟨w3.heap.size, 0, none⟩) (oX.block w3.heap.size (by omega) (fun h => by have h1 := h.1; have h2 := h.2; omega))).trans f_u0
      replace f_u1 := (World.cell?_of_block (a := ⟨w3.heap.size, 1, none⟩) (oX.block w3.heap.size (by omega) (fun h => by have h1 := h.1; have h2 := h.2; omega))).trans f_u1
      replace f_u2 := (World.cell?_of_block (a := ⟨w3.heap.size, 2, none⟩) (oX.block w3.heap.size (by omega) (fun h => by have h1 := h.1; have h2 := h.2; omega))).trans f_u2
      replace f_u3 := (World.cell?_of_block (a := ⟨w3.heap.size, 3, none⟩) (oX.block w3.heap.size (by omega) (fun h => by have h1 := h.1; have h2 := h.2; omega))).trans f_u3
      replace f_u4 := (World.cell?_of_block (a := ⟨w3.heap.size, 4, none⟩) (oX.block w3.heap.size (by omega) (fun h => by have h1 := h.1; have h2 := h.2; omega))).trans f_u4
      replace G0 := OutcomeOwn_keeps _ _ _ _ _ _ (fun _ h => h) (fun b hb => oX.block b (In.lt hb (by omega)) (fun hc => by have h1 := hb.1; have h2 := hb.2; have h3 := hc.1; have h4 := hc.2; omega)) G0
      replace h_u0 := (World.cell?_of_block (a := ⟨w7.heap.size, 0, none⟩) (oX.block w7.heap.size (by omega) (fun h => by have h1 := h.1; have h2 := h.2; omega))).trans h_u0
      replace h_u1 := (World.cell?_of_block (a := ⟨w7.heap.size, 1, none⟩) (oX.block w7.heap.size (by omega) (fun h => by have h1 := h.1; have h2 := h.2; omega))).trans h_u1
      replace h_u2 := (World.cell?_of_block (a := ⟨w7.heap.size, 2, none⟩) (oX.block w7.heap.size (by omega) (fun h => by have h1 := h.1; have h2 := h.2; omega))).trans h_u2
      replace h_u3 := (World.cell?_of_block (a := ⟨w7.heap.size, 3, none⟩) (oX.block w7.heap.size (by omega) (fun h => by have h1 := h.1; have h2 := h.2; omega))).trans h_u3
      replace h_u4 := (World.cell?_of_block (a := ⟨w7.heap.size, 4, none⟩) (oX.block w7.heap.size (by omega) (fun h => by have h1 := h.1; have h2 := h.2; omega))).trans h_u4
      have hk0 : ¬ (((1 + Vmtn x0 : Nat) : Int) < 0) := by omega
      generalize Vmtn x0 = NX at *
      go_wp2_with fail
      refine (eqOutcome_same V _ _ 0 w13.heap.size 0 w13.heap.size w13 (Nat.le_refl _) (Nat.le_refl _) HVW.out (st0 OutcomeOwn_lies (by omega) G0) (st0 OutcomeOwn_lies (by omega) P0)).mono ?_
      rintro e w14 ⟨rfl, hbw14⟩
      have qw14 : Below w1.heap.size w1 w14 := qw13.trans (hbw14.mono qw13.size)
      have zw14 := hbw14.size
      replace p_0 := (hbw14.cell (p := ⟨w.heap.size, 0, none⟩) (by show w.heap.size < _; omega)).trans p_0
      replace p_1 := (hbw14.cell (p := ⟨w.heap.size, 1, none⟩) (by show w.heap.size < _; omega)).trans p_1
      replace p_2 := (hbw14.cell (p := ⟨w.heap.size, 2, none⟩) (by show w.heap.size < _; omega)).trans p_2
      replace p_3 := (hbw14.cell (p := ⟨w.heap.size, 3, none⟩) (by show w.heap.size < _; omega)).trans p_3
      replace p_4 := (hbw14.cell (p := ⟨w.heap.size, 4, none⟩) (by show w.heap.size < _; omega)).trans p_4
      replace p_5 := (hbw14.cell (p := ⟨w.heap.size, 5, none⟩) (by show w.heap.size < _; omega)).trans p_5
      replace p_6 := (hbw14.cell (p := ⟨w.heap.size, 6, none⟩) (by show w.heap.size < _; omega)).trans p_6
      replace p_7 := (hbw14.cell (p := ⟨w.heap.size, 7, none⟩) (by show w.heap.size < _; omega)).trans p_7
      replace p_8 := (hbw14.cell (p := ⟨w.heap.size, 8, none⟩) (by show w.heap.size < _; omega)).trans p_8
      replace p_9 := (hbw14.cell (p := ⟨w.heap.size, 9, none⟩) (by show w.heap.size < _; omega)).trans p_9
      replace f_u0 := (hbw14.cell (p := ⟨w3.heap.size, 0, none⟩) (by show w3.heap.size < _; omega)).trans f_u0
      replace f_u1 := (hbw14.cell (p := ⟨w3.heap.size, 1, none⟩) (by show w3.heap.size < _; omega)).trans f_u1
      replace f_u2 := (hbw14.cell (p := ⟨w3.heap.size, 2, none⟩) (by show w3.heap.size < _; omega)).trans f_u2
      replace f_u3 := (hbw14.cell (p := ⟨w3.heap.size, 3, none⟩) (by show w3.heap.size < _; omega)).trans f_u3
      replace f_u4 := (hbw14.cell (p := ⟨w3.heap.size, 4, none⟩) (by show w3.heap.size < _; omega)).trans f_u4
      replace h_u0 := (hbw14.cell (p := ⟨w7.heap.size, 0, none⟩) (by show w7.heap.size < _; omega)).trans h_u0
      replace h_u1 := (hbw14.cell (p := ⟨w7.heap.size, 1, none⟩) (by show w7.heap.size < _; omega)).trans h_u1
      replace h_u2 := (hbw14.cell (p := ⟨w7.heap.size, 2, none⟩) (by show w7.heap.size < _; omega)).trans h_u2
      replace h_u3 := (hbw14.cell (p := ⟨w7.heap.size, 3, none⟩) (by show w7.heap.size < _; omega)).trans h_u3
      replace h_u4 := (hbw14.cell (p := ⟨w7.heap.size, 4, none⟩) (by show w7.heap.size < _; omega)).trans h_u4
      replace P0 := OutcomeOwn_keeps.below (fun b hb => In.lt hb (by omega)) hbw14 P0
      replace G0 := OutcomeOwn_keeps.below (fun b hb => In.lt hb (by omega)) hbw14 G0
      go_wp2_with fail
      refine (mkOutcome_any V _ 1 1 (In W6.heap.size w7.heap.size) w14 (fun b hb => In.lt hb (by omega)) G0 rfl (by decide) HVN.out).mono ?_
      rintro e w15 ⟨rfl, M0, oG⟩
      have zw15 := oG.size
      have bG : Below w1.heap.size w14 w15 := oG.below (by omega) (fun b hb h => by have := h.1; omega)
      have qw15 : Below w1.heap.size w1 w15 := qw14.trans bG
      clear G0
      replace p_0 := (World.cell?_of_block (a := ⟨w.heap.size, 0, none⟩) (oG.block w.heap.size (by omega) (fun h => by have h1 := h.1; have h2 := h.2; omega))).trans p_0
      replace p_1 := (World.cell?_of_block (a := ⟨w.heap.size, 1, none⟩) (oG.block w.heap.size (by omega) (fun h => by have h1 := h.1; have h2 := h.2; omega))).trans p_1
      replace p_2 := (World.cell?_of_block (a := ⟨w.heap.size, 2, none⟩) (oG.block w.heap.size (by omega) (fun h => by have h1 := h.1; have h2 := h.2; omega))).trans p_2
      replace p_3 := (World.cell?_of_block (a := ⟨w.heap.size, 3, none⟩) (oG.block w.heap.size (by omega) (fun h => by have h1 := h.1; have h2 := h.2; omega))).trans p_3
      replace p_4 := (World.cell?_of_block (a := ⟨w.heap.size, 4, none⟩) (oG.block w.heap.size (by omega) (fun h => by have h1 := h.1; have h2 := h.2; omega))).trans p_4
      replace p_5 := (World.cell?_of_block (a := ⟨w.heap.size, 5, none⟩) (oG.block w.heap.size (by omega) (fun h => by have h1 := h.1; have h2 := h.2; omega))).trans p_5
      replace p_6 := (World.cell?_of_block (a := ⟨w.heap.size, 6, none⟩) (oG.block w.heap.size (by omega) (fun h => by have h1 := h.1; have h2 := h.2; omega))).trans p_6
      replace p_7 := (World.cell?_of_block (a := ⟨w.heap.size, 7, none⟩) (oG.block w.heap.size (by omega) (fun h => by have h1 := h.1; have h2 := h.2; omega))).trans p_7
      replace p_8 := (World.cell?_of_block (a := ⟨w.heap.size, 8, none⟩) (oG.block w.heap.size (by omega) (fun h => by have h1 := h.1; have h2 := h.2; omega))).trans p_8
      replace p_9 := (World.cell?_of_block (a := ⟨w.heap.size, 9, none⟩) (oG.block w.heap.size (by omega) (fun h => by have h1 := h.1; have h2 := h.2; omega))).trans p_9
      replace P0 := OutcomeOwn_keeps _ _ _ _ _ _ (fun _ h => h) (fun b hb => oG.block b (In.lt hb (by omega)) (fun hc => by have h1 := hb.1; have h2 := hb.2; have h3 := hc.1; have h4 := hc.2; omega)) P0
      replace f_u0 := (World.cell?_of_block (a := ⟨w3.heap.size, 0, none⟩) (oG.block w3.heap.size (by omega) (fun h => by have h1 := h.1; have h2 := h.2; omega))).trans f_u0
      replace f_u1 := (World.cell?_of_block (a := ⟨w3.heap.size, 1, none⟩) (oG.block w3.heap.size (by omega) (fun h => by have h1 := h.1; have h2 := h.2; omega))).trans f_u1
      replace f_u2 := (World.cell?_of_block (a := ⟨w3.heap.size, 2, none⟩) (oG.block w3.heap.size (by omega) (fun h => by have h1 := h.1; have h2 := h.2; omega))).trans f_u2
      replace f_u3 := (World.cell?_of_block (a := ⟨w3.heap.size, 3, none⟩) (oG.block w3.heap.size (by omega) (fun h => by have h1 := h.1; have h2 := h.2; omega))).trans f_u3
      replace f_u4 := (World.cell?_of_block (a := ⟨w3.heap.size, 4, none⟩) (oG.block w3.heap.size (by omega) (fun h => by have h1 := h.1; have h2 := h.2; omega))).trans f_u4
      replace h_u0 := (World.cell?_of_block (a := ⟨w7.heap.size, 0, none⟩) (oG.block w7.heap.size (by omega) (fun h => by have h1 := h.1; have h2 := h.2; omega))).trans h_u0
      replace h_u1 := (World.cell?_of_block (a := ⟨w7.heap.size, 1, none⟩) (oG.block w7.heap.size (by omega) (fun h => by have h1 := h.1; have h2 := h.2; omega))).trans h_u1
      replace h_u2 := (World.cell?_of_block (a := ⟨w7.heap.size, 2, none⟩) (oG.block w7.heap.size (by omega) (fun h => by have h1 := h.1; have h2 := h.2; omega))).trans h_u2
      replace h_u3 := (World.cell?_of_block (a := ⟨w7.heap.size, 3, none⟩) (oG.block w7.heap.size (by omega) (fun h => by have h1 := h.1; have h2 := h.2; omega))).trans h_u3
      replace h_u4 := (World.cell?_of_block (a := ⟨w7.heap.size, 4, none⟩) (oG.block w7.heap.size (by omega) (fun h => by have h1 := h.1; have h2 := h.2; omega))).trans h_u4
      go_wp2_with fail
      refine (hdOutcome_any V _ 1 1 (In W6.heap.size w7.heap.size) w15 (fun b hb => In.lt hb (by omega)) M0 rfl (by decide) HVN.out).mono ?_
      rintro e w16 ⟨rfl, hbw16⟩
      have qw16 : Below w1.heap.size w1 w16 := qw15.trans (hbw16.mono qw15.size)
      have zw16 := hbw16.size
      replace p_0 := (hbw16.cell (p := ⟨w.heap.size, 0, none⟩) (by show w.heap.size < _; omega)).trans p_0
      replace p_1 := (hbw16.cell (p := ⟨w.heap.size, 1, none⟩) (by show w.heap.size < _; omega)).trans p_1
      replace p_2 := (hbw16.cell (p := ⟨w.heap.size, 2, none⟩) (by show w.heap.size < _; omega)).trans p_2
      replace p_3 := (hbw16.cell (p := ⟨w.heap.size, 3, none⟩) (by show w.heap.size < _; omega)).trans p_3
      replace p_4 := (hbw16.cell (p := ⟨w.heap.size, 4, none⟩) (by show w.heap.size < _; omega)).trans p_4
      replace p_5 := (hbw16.cell (p := ⟨w.heap.size, 5, none⟩) (by show w.heap.size < _; omega)).trans p_5
      replace p_6 := (hbw16.cell (p := ⟨w.heap.size, 6, none⟩) (by show w.heap.size < _; omega)).trans p_6
      replace p_7 := (hbw16.cell (p := ⟨w.heap.size, 7, none⟩) (by show w.heap.size < _; omega)).trans p_7
      replace p_8 := (hbw16.cell (p := ⟨w.heap.size, 8, none⟩) (by show w.heap.size < _; omega)).trans p_8
      replace p_9 := (hbw16.cell (p := ⟨w.heap.size, 9, none⟩) (by show w.heap.size < _; omega)).trans p_9
      replace f_u0 := (hbw16.cell (p := ⟨w3.heap.size, 0, none⟩) (by show w3.heap.size < _; omega)).trans f_u0
      replace f_u1 := (hbw16.cell (p := ⟨w3.heap.size, 1, none⟩) (by show w3.heap.size < _; omega)).trans f_u1
      replace f_u2 := (hbw16.cell (p := ⟨w3.heap.size, 2, none⟩) (by show w3.heap.size < _; omega)).trans f_u2
      replace f_u3 := (hbw16.cell (p := ⟨w3.heap.size, 3, none⟩) (by show w3.heap.size < _; omega)).trans f_u3
      replace f_u4 := (hbw16.cell (p := ⟨w3.heap.size, 4, none⟩) (by show w3.heap.size < _; omega)).trans f_u4
      replace h_u0 := (hbw16.cell (p := ⟨w7.heap.size, 0, none⟩) (by show w7.heap.size < _; omega)).trans h_u0
      replace h_u1 := (hbw16.cell (p := ⟨w7.heap.size, 1, none⟩) (by show w7.heap.size < _; omega)).trans h_u1
      replace h_u2 := (hbw16.cell (p := ⟨w7.heap.size, 2, none⟩) (by show w7.heap.size < _; omega)).trans h_u2
      replace h_u3 := (hbw16.cell (p := ⟨w7.heap.size, 3, none⟩) (by show w7.heap.size < _; omega)).trans h_u3
      replace h_u4 := (hbw16.cell (p := ⟨w7.heap.size, 4, none⟩) (by show w7.heap.size < _; omega)).trans h_u4
      replace P0 := OutcomeOwn_keeps.below (fun b hb => In.lt hb (by omega)) hbw16 P0
      replace M0 := OutcomeOwn_keeps.below (fun b hb => In.lt hb (by omega)) hbw16 M0
      go_wp2_with fail
      refine (HTO.out _ qw16).mono ?_
      rintro e w17 ⟨⟨Ys, rfl, Y⟩, hbw17⟩
      have qw17 : Below w1.heap.size w1 w17 := qw16.trans (hbw17.mono qw16.size)
      have zw17 := hbw17.size
      replace p_0 := (hbw17.cell (p := ⟨w.heap.size, 0, none⟩) (by show w.heap.size < _; omega)).trans p_0
      replace p_1 := (hbw17.cell (p := ⟨w.heap.size, 1, none⟩) (by show w.heap.size < _; omega)).trans p_1
      replace p_2 := (hbw17.cell (p := ⟨w.heap.size, 2, none⟩) (by show w.heap.size < _; omega)).trans p_2
      replace p_3 := (hbw17.cell (p := ⟨w.heap.size, 3, none⟩) (by show w.heap.size < _; omega)).trans p_3
      replace p_4 := (hbw17.cell (p := ⟨w.heap.size, 4, none⟩) (by show w.heap.size < _; omega)).trans p_4
      replace p_5 := (hbw17.cell (p := ⟨w.heap.size, 5, none⟩) (by show w.heap.size < _; omega)).trans p_5
      replace p_6 := (hbw17.cell (p := ⟨w.heap.size, 6, none⟩) (by show w.heap.size < _; omega)).trans p_6
      replace p_7 := (hbw17.cell (p := ⟨w.heap.size, 7, none⟩) (by show w.heap.size < _; omega)).trans p_7
      replace p_8 := (hbw17.cell (p := ⟨w.heap.size, 8, none⟩) (by show w.heap.size < _; omega)).trans p_8
      replace p_9 := (hbw17.cell (p := ⟨w.heap.size, 9, none⟩) (by show w.heap.size < _; omega)).trans p_9
      replace f_u0 := (hbw17.cell (p := ⟨w3.heap.size, 0, none⟩) (by show w3.heap.size < _; omega)).trans f_u0
      replace f_u1 := (hbw17.cell (p := ⟨w3.heap.size, 1, none⟩) (by show w3.heap.size < _; omega)).trans f_u1
      replace f_u2 := (hbw17.cell (p := ⟨w3.heap.size, 2, none⟩) (by show w3.heap.size < _; omega)).trans f_u2
      replace f_u3 := (hbw17.cell (p := ⟨w3.heap.size, 3, none⟩) (by show w3.heap.size < _; omega)).trans f_u3
      replace f_u4 := (hbw17.cell (p := ⟨w3.heap.size, 4, none⟩) (by show w3.heap.size < _; omega)).trans f_u4
      replace h_u0 := (hbw17.cell (p := ⟨w7.heap.size, 0, none⟩) (by show w7.heap.size < _; omega)).trans h_u0
      replace h_u1 := (hbw17.cell (p := ⟨w7.heap.size, 1, none⟩) (by show w7.heap.size < _; omega)).trans h_u1
      replace h_u2 := (hbw17.cell (p := ⟨w7.heap.size, 2, none⟩) (by show w7.heap.size < _; omega)).trans h_u2
      replace h_u3 := (hbw17.cell (p := ⟨w7.heap.size, 3, none⟩) (by show w7.heap.size < _; omega)).trans h_u3
      replace h_u4 := (hbw17.cell (p := ⟨w7.heap.size, 4, none⟩) (by show w7.heap.size < _; omega)).trans h_u4
      replace P0 := OutcomeOwn_keeps.below (fun b hb => In.lt hb (by omega)) hbw17 P0
      replace M0 := OutcomeOwn_keeps.below (fun b hb => In.lt hb (by omega)) hbw17 M0
      go_wp2_with fail
      refine (HI.out _ _ (st0 VmOwn_lies (Nat.le_refl _) Y)).mono ?_
      rintro e w18 ⟨⟨K0s, rfl, K0⟩, hbw18⟩
      have qw18 : Below w1.heap.size w1 w18 := qw17.trans (hbw18.mono qw17.size)
      have zw18 := hbw18.size
      clear Y
      replace p_0 := (hbw18.cell (p := ⟨w.heap.size, 0, none⟩) (by show w.heap.size < _; omega)).trans p_0
      replace p_1 := (hbw18.cell (p := ⟨w.heap.size, 1, none⟩) (by show w.heap.size < _; omega)).trans p_1
      replace p_2 := (hbw18.cell (p := ⟨w.heap.size, 2, none⟩) (by show w.heap.size < _; omega)).trans p_2
      replace p_3 := (hbw18.cell (p := ⟨w.heap.size, 3, none⟩) (by show w.heap.size < _; omega)).trans p_3
      replace p_4 := (hbw18.cell (p := ⟨w.heap.size, 4, none⟩) (by show w.heap.size < _; omega)).trans p_4
      replace p_5 := (hbw18.cell (p := ⟨w.heap.size, 5, none⟩) (by show w.heap.size < _; omega)).trans p_5
      replace p_6 := (hbw18.cell (p := ⟨w.heap.size, 6, none⟩) (by show w.heap.size < _; omega)).trans p_6
      replace p_7 := (hbw18.cell (p := ⟨w.heap.size, 7, none⟩) (by show w.heap.size < _; omega)).trans p_7
      replace p_8 := (hbw18.cell (p := ⟨w.heap.size, 8, none⟩) (by show w.heap.size < _; omega)).trans p_8
      replace p_9 := (hbw18.cell (p := ⟨w.heap.size, 9, none⟩) (by show w.heap.size < _; omega)).trans p_9
      replace f_u0 := (hbw18.cell (p := ⟨w3.heap.size, 0, none⟩) (by show w3.heap.size < _; omega)).trans f_u0
      replace f_u1 := (hbw18.cell (p := ⟨w3.heap.size, 1, none⟩) (by show w3.heap.size < _; omega)).trans f_u1
      replace f_u2 := (hbw18.cell (p := ⟨w3.heap.size, 2, none⟩) (by show w3.heap.size < _; omega)).trans f_u2
      replace f_u3 := (hbw18.cell (p := ⟨w3.heap.size, 3, none⟩) (by show w3.heap.size < _; omega)).trans f_u3
      replace f_u4 := (hbw18.cell (p := ⟨w3.heap.size, 4, none⟩) (by show w3.heap.size < _; omega)).trans f_u4
      replace h_u0 := (hbw18.cell (p := ⟨w7.heap.size, 0, none⟩) (by show w7.heap.size < _; omega)).trans h_u0
      replace h_u1 := (hbw18.cell (p := ⟨w7.heap.size, 1, none⟩) (by show w7.heap.size < _; omega)).trans h_u1
      replace h_u2 := (hbw18.cell (p := ⟨w7.heap.size, 2, none⟩) (by show w7.heap.size < _; omega)).trans h_u2
      replace h_u3 := (hbw18.cell (p := ⟨w7.heap.size, 3, none⟩) (by show w7.heap.size < _; omega)).trans h_u3
      replace h_u4 := (hbw18.cell (p := ⟨w7.heap.size, 4, none⟩) (by show w7.heap.size < _; omega)).trans h_u4
      replace P0 := OutcomeOwn_keeps.below (fun b hb => In.lt hb (by omega)) hbw18 P0
      replace M0 := OutcomeOwn_keeps.below (fun b hb => In.lt hb (by omega)) hbw18 M0
      have K0o := K0
      obtain ⟨_, _, _, k_a_out, k_c_out, rfl, k_l_out, k_r_out⟩ := K0o
      clear k_l_out k_r_out
      have al_p_0 : ∀ O : Obj, (w18.alloc O).cell? ⟨w.heap.size, 0, none⟩ = some (.slice m_a_heap_tables x0.heap.tables.length m_c_heap_tables) := fun O => ((bel_alloc w18 O).cell (p := ⟨w.heap.size, 0, none⟩) (by show w.heap.size < _; omega)).trans p_0
      have al_p_1 : ∀ O : Obj, (w18.alloc O).cell? ⟨w.heap.size, 1, none⟩ = some (.slice m_a_heap_cells x0.heap.cells.length m_c_heap_cells) := fun O => ((bel_alloc w18 O).cell (p := ⟨w.heap.size, 1, none⟩) (by show w.heap.size < _; omega)).trans p_1
      have al_p_2 : ∀ O : Obj, (w18.alloc O).cell? ⟨w.heap.size, 2, none⟩ = some (.slice m_a_funs x0.funs.length m_c_funs) := fun O => ((bel_alloc w18 O).cell (p := ⟨w.heap.size, 2, none⟩) (by show w.heap.size < _; omega)).trans p_2
      have al_p_3 : ∀ O : Obj, (w18.alloc O).cell? ⟨w.heap.size, 3, none⟩ = some (.slice m_a_frames x0.frames.length m_c_frames) := fun O => ((bel_alloc w18 O).cell (p := ⟨w.heap.size, 3, none⟩) (by show w.heap.size < _; omega)).trans p_3
      have al_p_4 : ∀ O : Obj, (w18.alloc O).cell? ⟨w.heap.size, 4, none⟩ = some (.slice m_a_out x0.out.length m_c_out) := fun O => ((bel_alloc w18 O).cell (p := ⟨w.heap.size, 4, none⟩) (by show w.heap.size < _; omega)).trans p_4
      have al_p_5 : ∀ O : Obj, (w18.alloc O).cell? ⟨w.heap.size, 5, none⟩ = some (.int .i64 x0.steps) := fun O => ((bel_alloc w18 O).cell (p := ⟨w.heap.size, 5, none⟩) (by show w.heap.size < _; omega)).trans p_5
      have al_p_6 : ∀ O : Obj, (w18.alloc O).cell? ⟨w.heap.size, 6, none⟩ = some (.int .i64 x0.kind) := fun O => ((bel_alloc w18 O).cell (p := ⟨w.heap.size, 6, none⟩) (by show w.heap.size < _; omega)).trans p_6
      have al_p_7 : ∀ O : Obj, (w18.alloc O).cell? ⟨w.heap.size, 7, none⟩ = some (.int .i64 x0.value.k) := fun O => ((bel_alloc w18 O).cell (p := ⟨w.heap.size, 7, none⟩) (by show w.heap.size < _; omega)).trans p_7
      have al_p_8 : ∀ O : Obj, (w18.alloc O).cell? ⟨w.heap.size, 8, none⟩ = some (.int .i64 x0.value.n) := fun O => ((bel_alloc w18 O).cell (p := ⟨w.heap.size, 8, none⟩) (by show w.heap.size < _; omega)).trans p_8
      have al_p_9 : ∀ O : Obj, (w18.alloc O).cell? ⟨w.heap.size, 9, none⟩ = some (.string x0.value.s) := fun O => ((bel_alloc w18 O).cell (p := ⟨w.heap.size, 9, none⟩) (by show w.heap.size < _; omega)).trans p_9
      have al_f_u0 : ∀ O : Obj, (w18.alloc O).cell? ⟨w3.heap.size, 0, none⟩ = some (.int .i64 V.kind) := fun O => ((bel_alloc w18 O).cell (p := ⟨w3.heap.size, 0, none⟩) (by show w3.heap.size < _; omega)).trans f_u0
      have al_f_u1 : ∀ O : Obj, (w18.alloc O).cell? ⟨w3.heap.size, 1, none⟩ = some (.int .i64 V.value.k) := fun O => ((bel_alloc w18 O).cell (p := ⟨w3.heap.size, 1, none⟩) (by show w3.heap.size < _; omega)).trans f_u1
      have al_f_u2 : ∀ O : Obj, (w18.alloc O).cell? ⟨w3.heap.size, 2, none⟩ = some (.int .i64 V.value.n) := fun O => ((bel_alloc w18 O).cell (p := ⟨w3.heap.size, 2, none⟩) (by show w3.heap.size < _; omega)).trans f_u2
      have al_f_u3 : ∀ O : Obj, (w18.alloc O).cell? ⟨w3.heap.size, 3, none⟩ = some (.string V.value.s) := fun O => ((bel_alloc w18 O).cell (p := ⟨w3.heap.size, 3, none⟩) (by show w3.heap.size < _; omega)).trans f_u3
      have al_f_u4 : ∀ O : Obj, (w18.alloc O).cell? ⟨w3.heap.size, 4, none⟩ = some (.slice f_a_out V.out.length f_c_out) := fun O => ((bel_alloc w18 O).cell (p := ⟨w3.heap.size, 4, none⟩) (by show w3.heap.size < _; omega)).trans f_u4
      have al_h_u0 : ∀ O : Obj, (w18.alloc O).cell? ⟨w7.heap.size, 0, none⟩ = some (.int .i64 V.kind) := fun O => ((bel_alloc w18 O).cell (p := ⟨w7.heap.size, 0, none⟩) (by show w7.heap.size < _; omega)).trans h_u0
      have al_h_u1 : ∀ O : Obj, (w18.alloc O).cell? ⟨w7.heap.size, 1, none⟩ = some (.int .i64 V.value.k) := fun O => ((bel_alloc w18 O).cell (p := ⟨w7.heap.size, 1, none⟩) (by show w7.heap.size < _; omega)).trans h_u1
      have al_h_u2 : ∀ O : Obj, (w18.alloc O).cell? ⟨w7.heap.size, 2, none⟩ = some (.int .i64 V.value.n) := fun O => ((bel_alloc w18 O).cell (p := ⟨w7.heap.size, 2, none⟩) (by show w7.heap.size < _; omega)).trans h_u2
      have al_h_u3 : ∀ O : Obj, (w18.alloc O).cell? ⟨w7.heap.size, 3, none⟩ = some (.string V.value.s) := fun O => ((bel_alloc w18 O).cell (p := ⟨w7.heap.size, 3, none⟩) (by show w7.heap.size < _; omega)).trans h_u3
      have al_h_u4 : ∀ O : Obj, (w18.alloc O).cell? ⟨w7.heap.size, 4, none⟩ = some (.slice h_a_out V.out.length h_c_out) := fun O => ((bel_alloc w18 O).cell (p := ⟨w7.heap.size, 4, none⟩) (by show w7.heap.size < _; omega)).trans h_u4
      go_wp2_with fail
      clear al_p_0 al_p_1 al_p_2 al_p_3 al_p_4 al_p_5 al_p_6 al_p_7 al_p_8 al_p_9 al_f_u0 al_f_u1 al_f_u2 al_f_u3 al_f_u4 al_h_u0 al_h_u1 al_h_u2 al_h_u3 al_h_u4
      obtain ⟨W19, hW19⟩ : ∃ W, W = w18.alloc (Obj.cells #[.int .i64 V.kind, .int .i64 V.value.k, .int .i64 V.value.n, .string V.value.s, .slice k_a_out V.out.length k_c_out] 54) := ⟨_, rfl⟩
      rw [← hW19]
      have hbW19 : Below w18.heap.size w18 W19 := by rw [hW19]; exact bel_alloc _ _
      have rV : W19.heap[w18.heap.size]? = some (Obj.cells #[.int .i64 V.kind, .int .i64 V.value.k, .int .i64 V.value.n, .string V.value.s, .slice k_a_out V.out.length k_c_out] 54) := by rw [hW19]; exact heap_alloc_new _ _
      have zW19 : W19.heap.size = w18.heap.size + 1 := by rw [hW19]; simp
      clear hW19
      have qW19 : Below w1.heap.size w1 W19 := qw18.trans (hbW19.mono qw18.size)
      replace p_0 := (hbW19.cell (p := ⟨w.heap.size, 0, none⟩) (by show w.heap.size < _; omega)).trans p_0
      replace p_1 := (hbW19.cell (p := ⟨w.heap.size, 1, none⟩) (by show w.heap.size < _; omega)).trans p_1
      replace p_2 := (hbW19.cell (p := ⟨w.heap.size, 2, none⟩) (by show w.heap.size < _; omega)).trans p_2
      replace p_3 := (hbW19.cell (p := ⟨w.heap.size, 3, none⟩) (by show w.heap.size < _; omega)).trans p_3
      replace p_4 := (hbW19.cell (p := ⟨w.heap.size, 4, none⟩) (by show w.heap.size < _; omega)).trans p_4
      replace p_5 := (hbW19.cell (p := ⟨w.heap.size, 5, none⟩) (by show w.heap.size < _; omega)).trans p_5
      replace p_6 := (hbW19.cell (p := ⟨w.heap.size, 6, none⟩) (by show w.heap.size < _; omega)).trans p_6
      replace p_7 := (hbW19.cell (p := ⟨w.heap.size, 7, none⟩) (by show w.heap.size < _; omega)).trans p_7
      replace p_8 := (hbW19.cell (p := ⟨w.heap.size, 8, none⟩) (by show w.heap.size < _; omega)).trans p_8
      replace p_9 := (hbW19.cell (p := ⟨w.heap.size, 9, none⟩) (by show w.heap.size < _; omega)).trans p_9
      replace f_u0 := (hbW19.cell (p := ⟨w3.heap.size, 0, none⟩) (by show w3.heap.size < _; omega)).trans f_u0
      replace f_u1 := (hbW19.cell (p := ⟨w3.heap.size, 1, none⟩) (by show w3.heap.size < _; omega)).trans f_u1
      replace f_u2 := (hbW19.cell (p := ⟨w3.heap.size, 2, none⟩) (by show w3.heap.size < _; omega)).trans f_u2
      replace f_u3 := (hbW19.cell (p := ⟨w3.heap.size, 3, none⟩) (by show w3.heap.size < _; omega)).trans f_u3
      replace f_u4 := (hbW19.cell (p := ⟨w3.heap.size, 4, none⟩) (by show w3.heap.size < _; omega)).trans f_u4
      replace h_u0 := (hbW19.cell (p := ⟨w7.heap.size, 0, none⟩) (by show w7.heap.size < _; omega)).trans h_u0
      replace h_u1 := (hbW19.cell (p := ⟨w7.heap.size, 1, none⟩) (by show w7.heap.size < _; omega)).trans h_u1
      replace h_u2 := (hbW19.cell (p := ⟨w7.heap.size, 2, none⟩) (by show w7.heap.size < _; omega)).trans h_u2
      replace h_u3 := (hbW19.cell (p := ⟨w7.heap.size, 3, none⟩) (by show w7.heap.size < _; omega)).trans h_u3
      replace h_u4 := (hbW19.cell (p := ⟨w7.heap.size, 4, none⟩) (by show w7.heap.size < _; omega)).trans h_u4
      replace P0 := OutcomeOwn_keeps.below (fun b hb => In.lt hb (by omega)) hbW19 P0
      replace M0 := OutcomeOwn_keeps.below (fun b hb => In.lt hb (by omega)) hbW19 M0
      replace K0 := OutcomeOwn_keeps.below (fun b hb => In.lt hb (by omega)) hbW19 K0
      have k_u0 := cell_of_row _ _ 0 _ _ _ rV
      have k_u1 := cell_of_row _ _ 1 _ _ _ rV
      have k_u2 := cell_of_row _ _ 2 _ _ _ rV
      have k_u3 := cell_of_row _ _ 3 _ _ _ rV
      have k_u4 := cell_of_row _ _ 4 _ _ _ rV
      simp only [List.getElem?_toArray, List.getElem?_cons_zero, List.getElem?_cons_succ] at k_u0 k_u1 k_u2 k_u3 k_u4
      clear rV
      go_wp2_with fail
      refine (eqOutcome_same V _ _ 0 W19.heap.size 0 W19.heap.size W19 (Nat.le_refl _) (Nat.le_refl _) HVW.out (st0 OutcomeOwn_lies (by omega) K0) (st0 OutcomeOwn_lies (by omega) P0)).mono ?_
      rintro e w20 ⟨rfl, hbw20⟩
      have qw20 : Below w1.heap.size w1 w20 := qW19.trans (hbw20.mono qW19.size)
      have zw20 := hbw20.size
      replace p_0 := (hbw20.cell (p := ⟨w.heap.size, 0, none⟩) (by show w.heap.size < _; omega)).trans p_0
      replace p_1 := (hbw20.cell (p := ⟨w.heap.size, 1, none⟩) (by show w.heap.size < _; omega)).trans p_1
      replace p_2 := (hbw20.cell (p := ⟨w.heap.size, 2, none⟩) (by show w.heap.size < _; omega)).trans p_2
      replace p_3 := (hbw20.cell (p := ⟨w.heap.size, 3, none⟩) (by show w.heap.size < _; omega)).trans p_3
      replace p_4 := (hbw20.cell (p := ⟨w.heap.size, 4, none⟩) (by show w.heap.size < _; omega)).trans p_4
      replace p_5 := (hbw20.cell (p := ⟨w.heap.size, 5, none⟩) (by show w.heap.size < _; omega)).trans p_5
      replace p_6 := (hbw20.cell (p := ⟨w.heap.size, 6, none⟩) (by show w.heap.size < _; omega)).trans p_6
      replace p_7 := (hbw20.cell (p := ⟨w.heap.size, 7, none⟩) (by show w.heap.size < _; omega)).trans p_7
      replace p_8 := (hbw20.cell (p := ⟨w.heap.size, 8, none⟩) (by show w.heap.size < _; omega)).trans p_8
      replace p_9 := (hbw20.cell (p := ⟨w.heap.size, 9, none⟩) (by show w.heap.size < _; omega)).trans p_9
      replace f_u0 := (hbw20.cell (p := ⟨w3.heap.size, 0, none⟩) (by show w3.heap.size < _; omega)).trans f_u0
      replace f_u1 := (hbw20.cell (p := ⟨w3.heap.size, 1, none⟩) (by show w3.heap.size < _; omega)).trans f_u1
      replace f_u2 := (hbw20.cell (p := ⟨w3.heap.size, 2, none⟩) (by show w3.heap.size < _; omega)).trans f_u2
      replace f_u3 := (hbw20.cell (p := ⟨w3.heap.size, 3, none⟩) (by show w3.heap.size < _; omega)).trans f_u3
      replace f_u4 := (hbw20.cell (p := ⟨w3.heap.size, 4, none⟩) (by show w3.heap.size < _; omega)).trans f_u4
      replace h_u0 := (hbw20.cell (p := ⟨w7.heap.size, 0, none⟩) (by show w7.heap.size < _; omega)).trans h_u0
      replace h_u1 := (hbw20.cell (p := ⟨w7.heap.size, 1, none⟩) (by show w7.heap.size < _; omega)).trans h_u1
      replace h_u2 := (hbw20.cell (p := ⟨w7.heap.size, 2, none⟩) (by show w7.heap.size < _; omega)).trans h_u2
      replace h_u3 := (hbw20.cell (p := ⟨w7.heap.size, 3, none⟩) (by show w7.heap.size < _; omega)).trans h_u3
      replace h_u4 := (hbw20.cell (p := ⟨w7.heap.size, 4, none⟩) (by show w7.heap.size < _; omega)).trans h_u4
      replace k_u0 := (hbw20.cell (p := ⟨w18.heap.size, 0, none⟩) (by show w18.heap.size < _; omega)).trans k_u0
      replace k_u1 := (hbw20.cell (p := ⟨w18.heap.size, 1, none⟩) (by show w18.heap.size < _; omega)).trans k_u1
      replace k_u2 := (hbw20.cell (p := ⟨w18.heap.size, 2, none⟩) (by show w18.heap.size < _; omega)).trans k_u2
      replace k_u3 := (hbw20.cell (p := ⟨w18.heap.size, 3, none⟩) (by show w18.heap.size < _; omega)).trans k_u3
      replace k_u4 := (hbw20.cell (p := ⟨w18.heap.size, 4, none⟩) (by show w18.heap.size < _; omega)).trans k_u4
      replace P0 := OutcomeOwn_keeps.below (fun b hb => In.lt hb (by omega)) hbw20 P0
      replace M0 := OutcomeOwn_keeps.below (fun b hb => In.lt hb (by omega)) hbw20 M0
      replace K0 := OutcomeOwn_keeps.below (fun b hb => In.lt hb (by omega)) hbw20 K0
      go_wp2_with fail
      refine (hdOutcome_any V _ 1 1 (In W6.heap.size w7.heap.size) w20 (fun b hb => In.lt hb (by omega)) M0 rfl (by decide) HVN.out).mono ?_
      rintro e w21 ⟨rfl, hbw21⟩
      have qw21 : Below w1.heap.size w1 w21 := qw20.trans (hbw21.mono qw20.size)
      have zw21 := hbw21.size
      replace p_0 := (hbw21.cell (p := ⟨w.heap.size, 0, none⟩) (by show w.heap.size < _; omega)).trans p_0
      replace p_1 := (hbw21.cell (p := ⟨w.heap.size, 1, none⟩) (by show w.heap.size < _; omega)).trans p_1
      replace p_2 := (hbw21.cell (p := ⟨w.heap.size, 2, none⟩) (by show w.heap.size < _; omega)).trans p_2
      replace p_3 := (hbw21.cell (p := ⟨w.heap.size, 3, none⟩) (by show w.heap.size < _; omega)).trans p_3
      replace p_4 := (hbw21.cell (p := ⟨w.heap.size, 4, none⟩) (by show w.heap.size < _; omega)).trans p_4
      replace p_5 := (hbw21.cell (p := ⟨w.heap.size, 5, none⟩) (by show w.heap.size < _; omega)).trans p_5
      replace p_6 := (hbw21.cell (p := ⟨w.heap.size, 6, none⟩) (by show w.heap.size < _; omega)).trans p_6
      replace p_7 := (hbw21.cell (p := ⟨w.heap.size, 7, none⟩) (by show w.heap.size < _; omega)).trans p_7
      replace p_8 := (hbw21.cell (p := ⟨w.heap.size, 8, none⟩) (by show w.heap.size < _; omega)).trans p_8
      replace p_9 := (hbw21.cell (p := ⟨w.heap.size, 9, none⟩) (by show w.heap.size < _; omega)).trans p_9
      replace f_u0 := (hbw21.cell (p := ⟨w3.heap.size, 0, none⟩) (by show w3.heap.size < _; omega)).trans f_u0
      replace f_u1 := (hbw21.cell (p := ⟨w3.heap.size, 1, none⟩) (by show w3.heap.size < _; omega)).trans f_u1
      replace f_u2 := (hbw21.cell (p := ⟨w3.heap.size, 2, none⟩) (by show w3.heap.size < _; omega)).trans f_u2
      replace f_u3 := (hbw21.cell (p := ⟨w3.heap.size, 3, none⟩) (by show w3.heap.size < _; omega)).trans f_u3
      replace f_u4 := (hbw21.cell (p := ⟨w3.heap.size, 4, none⟩) (by show w3.heap.size < _; omega)).trans f_u4
      replace h_u0 := (hbw21.cell (p := ⟨w7.heap.size, 0, none⟩) (by show w7.heap.size < _; omega)).trans h_u0
      replace h_u1 := (hbw21.cell (p := ⟨w7.heap.size, 1, none⟩) (by show w7.heap.size < _; omega)).trans h_u1
      replace h_u2 := (hbw21.cell (p := ⟨w7.heap.size, 2, none⟩) (by show w7.heap.size < _; omega)).trans h_u2
      replace h_u3 := (hbw21.cell (p := ⟨w7.heap.size, 3, none⟩) (by show w7.heap.size < _; omega)).trans h_u3
      replace h_u4 := (hbw21.cell (p := ⟨w7.heap.size, 4, none⟩) (by show w7.heap.size < _; omega)).trans h_u4
      replace k_u0 := (hbw21.cell (p := ⟨w18.heap.size, 0, none⟩) (by show w18.heap.size < _; omega)).trans k_u0
      replace k_u1 := (hbw21.cell (p := ⟨w18.heap.size, 1, none⟩) (by show w18.heap.size < _; omega)).trans k_u1
      replace k_u2 := (hbw21.cell (p := ⟨w18.heap.size, 2, none⟩) (by show w18.heap.size < _; omega)).trans k_u2
      replace k_u3 := (hbw21.cell (p := ⟨w18.heap.size, 3, none⟩) (by show w18.heap.size < _; omega)).trans k_u3
      replace k_u4 := (hbw21.cell (p := ⟨w18.heap.size, 4, none⟩) (by show w18.heap.size < _; omega)).trans k_u4
      replace P0 := OutcomeOwn_keeps.below (fun b hb => In.lt hb (by omega)) hbw21 P0
      replace M0 := OutcomeOwn_keeps.below (fun b hb => In.lt hb (by omega)) hbw21 M0
      replace K0 := OutcomeOwn_keeps.below (fun b hb => In.lt hb (by omega)) hbw21 K0
      go_wp2_with fail
      go_ret
      exact ⟨rfl, HB1.out.trans (qw21.mono HB1.out.size)⟩
end Go.Proofs.Ytfcmnmojejoeeaa
