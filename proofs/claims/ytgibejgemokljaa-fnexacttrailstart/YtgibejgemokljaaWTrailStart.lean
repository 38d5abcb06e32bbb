/- The walk of FnExactTrailStart: it returns true. -/
import Derived.Test.YtgibejgemokljaaTstS
import Derived.Test.YtgibejgemokljaaTstJ
import Derived.Test.YtgibejgemokljaaTrK
import Derived.Test.YtgibejgemokljaaTrE
import Derived.Test.YtgibejgemokljaaTrC
import Derived.Test.YtgibejgemokljaaDatE
import Derived.Test.YtgibejgemokljaaDatS
import Derived.Deep.RegionHeld3
import Derived.Deep.Cut
namespace Go.Proofs.Ytgibejgemokljaa
open Go.RowKit

theorem mnR_le {α : Type} (c f : α → Nat) (k : Nat) (hc : ∀ x, c x ≤ k * (1 + f x)) (xs : List α) : mnR c xs ≤ k * wtR f xs := by
  unfold mnR wtR
  induction xs with
  | nil => exact Nat.zero_le _
  | cons x xs ih =>
    rw [List.map_cons, List.sum_cons, List.map_cons, List.sum_cons, Nat.mul_add]
    exact Nat.add_le_add (hc x) ih
theorem mkbound_FnExactTrailStart (xs : List ProtoD) (h : wtR ProtoD.wt xs ≤ 1048576) : 1 + mnR Protomn xs ≤ 1099511627776 := by
  have h1 := mnR_le Protomn ProtoD.wt 7 (fun p => by unfold Protomn ProtoD.wt; have h2 := len_wtR InstrD.wt p.code; have h3 := len_wtR NameD.wt p.names; omega) xs
  omega
theorem start_vmn (ps : List ProtoD) : Vmmn (startV ps) ≤ 1005 := by
  have h := start_mn ps
  unfold Vmtn Heaptn at h
  unfold Vmmn
  cases hb : codeOk ps with
  | false => rw [start_no hb]; decide
  | true =>
    have hs := slots_le ps hb
    rw [start_yes hb] at h ⊢
    omega
theorem trail_tn (ps : List ProtoD) (n : Int) (h : wtR ProtoD.wt ps ≤ 1048576) : 1 + Trailtn (trailV ps n) ≤ 1099511627776 := by
  have h0 := mkbound_FnExactTrailStart ps h
  have h1 := mnR_le Protomn ProtoD.wt 7 (fun p => by unfold Protomn ProtoD.wt; have h2 := len_wtR InstrD.wt p.code; have h3 := len_wtR NameD.wt p.names; omega) ps
  have h2 := start_mn ps
  have h3 := start_vmn ps
  cases hb : trailB ps n with
  | false => rw [trail_no hb]; decide
  | true =>
    rw [trail_yes hb]
    show 1 + (mnR Protomn ps + mnR Vmmn [startV ps] + Vmtn (startV ps)) ≤ _
    have : mnR Vmmn [startV ps] = Vmmn (startV ps) := by simp [mnR]
    omega
/-- In the whole of a world. -/
theorem at0 {α : Type} {k : Nat} {D : World → (Nat → Prop) → α → List Value → Prop} {C : World → Nat → Nat → α → List Value → Prop} (hL : Lies D C) {w : World} {l h : Nat} {xs : List α} {a : Option Addr} (hh : h ≤ w.heap.size) (hd : RowD k D w (In l h) xs a) : RowAt k C w 0 w.heap.size xs a :=
  hd.lies hL fun _ hb => ⟨Nat.zero_le _, Nat.lt_of_lt_of_le hb.2 hh⟩
theorem st0 {α : Type} {D : World → (Nat → Prop) → α → List Value → Prop} {C : World → Nat → Nat → α → List Value → Prop} (hL : Lies D C) {w : World} {l h : Nat} {x : α} {cs : List Value} (hh : h ≤ w.heap.size) (hd : D w (In l h) x cs) : C w 0 w.heap.size x cs :=
  hL _ _ _ _ _ _ (fun _ hb => ⟨Nat.zero_le _, Nat.lt_of_lt_of_le hb.2 hh⟩) hd
theorem at0_b {α : Type} {k : Nat} {C : World → Nat → Nat → α → List Value → Prop} (hK : Keeps C) {w w' : World} {xs : List α} {a : Option Addr} (h : RowAt k C w 0 w.heap.size xs a) (hb : Below w.heap.size w w') : RowAt k C w' 0 w'.heap.size xs a :=
  (h.below hK hb (Nat.le_refl _)).wide hK (Nat.le_refl _) hb.size
theorem st0_b {α : Type} {C : World → Nat → Nat → α → List Value → Prop} (hK : Keeps C) {w w' : World} {x : α} {cs : List Value} (h : C w 0 w.heap.size x cs) (hb : Below w.heap.size w w') : C w' 0 w'.heap.size x cs :=
  hK _ _ _ _ _ _ _ _ (Nat.le_refl _) hb.size (fun _ _ hp => hb.cell hp) h
set_option maxRecDepth 100000 in
set_option maxHeartbeats 3200000 in
theorem exact_trailstart (xs0 : List ProtoD) (a0 : Option Addr) (ca0 : Nat) (n : Int) (hN : IntOk n) (w : World) (hn0 : xs0.length ≤ maxLen) (hS0 : RowAt 5 ProtoC w 0 w.heap.size xs0 a0) :
    Calls Try.prog 4 #[.slice a0 xs0.length ca0, .int .i64 n] w fun e w' => e = .returned (.bool true) ∧ Below w.heap.size w w' := by
  obtain ⟨W0, hW0⟩ : ∃ W0, W0 = w := ⟨_, rfl⟩
  have B0 : Below w.heap.size w W0 := by rw [hW0]; exact Below.refl _ _
  have z0 : W0.heap.size = w.heap.size := by rw [hW0]
  go_enter Try.func4, Try.ntmps4
  go_wp2_with fail
  rw [← hW0]
  clear hW0
  refine (szProtoS_any xs0 a0 ca0 0 w.heap.size 1048576 W0 B0.size hn0 (hS0.below ProtoC_keeps B0 (Nat.le_refl _)) (by decide) (by decide)).mono ?_
  rintro e w1 ⟨⟨r1, rfl, hr1⟩, hb1⟩
  have B1 := B0.trans (hb1.mono B0.size)
  have z1 := hb1.size
  by_cases hneg : r1 < 0
  · go_wp2_with fail
    go_ret
    exact ⟨rfl, B1⟩
  · skip
    have hw0 : wtR ProtoD.wt xs0 ≤ 1048576 := by rcases hr1 with h | h; exact absurd h (by omega); omega
    have HB1 : Hid (Below w.heap.size w w1) := B1
    have HTO : Hid (∀ W, Below w1.heap.size w1 W → Calls Try.prog 14 #[.slice a0 xs0.length ca0] W fun e w' => (∃ b cb, e = .returned (.slice b xs0.length cb) ∧ RowD 5 ProtoOwn w' (In W.heap.size w'.heap.size) xs0 b) ∧ Below W.heap.size W w') := fun W hW => owProtoS_any xs0 a0 ca0 0 w.heap.size W (Nat.le_trans B1.size hW.size) hw0 ((hS0.below ProtoC_keeps B1 (Nat.le_refl _)).below ProtoC_keeps hW B1.size)
    have HS : Hid (∀ W b c, RowAt 5 ProtoC W 0 W.heap.size xs0 b → Calls Try.prog 13 #[.slice b xs0.length c, .int .i64 n] W fun e w' => (∃ cs', e = .returned (.tuple #[.agg cs'.toArray, .bool (trailB xs0 n)]) ∧ TrailOwn w' (In W.heap.size w'.heap.size) (trailV xs0 n) cs') ∧ Below W.heap.size W w') := fun W b c h => tstart_spec xs0 b c 0 W.heap.size n hN W (Nat.le_refl _) hw0 h
    have HI : Hid (∀ W b c, RowAt 5 ProtoC W 0 W.heap.size xs0 b → Calls Try.prog 15 #[.slice b xs0.length c, .int .i64 n] W fun e w' => (∃ cs', e = .returned (.tuple #[.agg cs'.toArray, .bool (trailB xs0 n)]) ∧ TrailOwn w' (In W.heap.size w'.heap.size) (trailV xs0 n) cs') ∧ Below W.heap.size W w') := fun W b c h => tstart_impl xs0 b c 0 W.heap.size n hN W (Nat.le_refl _) hw0 h
    have HVW : Hid ((trailV xs0 n).wt ≤ 2097152) := (by have := trail_wt xs0 n hw0; show _ ≤ _; omega)
    have HVN : Hid (1 + Trailtn (trailV xs0 n) ≤ 1099511627776) := (by have := trail_tn xs0 n hw0; show _ ≤ _; omega)
    have HXN : Hid (1 + mnR Protomn xs0 ≤ 1099511627776) := mkbound_FnExactTrailStart _ hw0
    generalize trailB xs0 n = VB at HS HI
    generalize trailV xs0 n = V at HS HI HVW HVN
    have HLEN : Hid (xs0.length ≤ maxLen) := hn0
    clear hr1 B0 B1 hb1 hS0
    have q0w : Below w1.heap.size w1 w1 := Below.refl _ _
    go_wp2_with fail
    refine (HTO.out _ q0w).mono ?_
    rintro e w2 ⟨⟨Ya, Yc, rfl, Y⟩, hbw2⟩
    have qw2 : Below w1.heap.size w1 w2 := q0w.trans (hbw2.mono q0w.size)
    have zw2 := hbw2.size
    go_wp2_with fail
    refine (HS.out _ _ _ (at0 ProtoOwn_lies (Nat.le_refl _) Y)).mono ?_
    rintro e w3 ⟨⟨P0s, rfl, P0⟩, hbw3⟩
    have qw3 : Below w1.heap.size w1 w3 := qw2.trans (hbw3.mono qw2.size)
    have zw3 := hbw3.size
    clear Y
    have P0o := P0
    obtain ⟨_, _, _, f_a_code, f_c_code, f_a_marks, f_c_marks, f_a_now_heap_tables, f_c_now_heap_tables, f_a_now_heap_cells, f_c_now_heap_cells, f_a_now_funs, f_c_now_funs, f_a_now_frames, f_c_now_frames, f_a_now_out, f_c_now_out, rfl, f_l_code, f_r_code, f_l_marks, f_r_marks, f_r_now⟩ := P0o
    clear f_l_code f_r_code f_l_marks f_r_marks f_r_now
    go_wp2_with fail
    obtain ⟨W4, hW4⟩ : ∃ W, W = w3.alloc (Obj.cells #[.slice f_a_code V.code.length f_c_code, .int .i64 V.every, .slice f_a_marks V.marks.length f_c_marks, .slice f_a_now_heap_tables V.now.heap.tables.length f_c_now_heap_tables, .slice f_a_now_heap_cells V.now.heap.cells.length f_c_now_heap_cells, .slice f_a_now_funs V.now.funs.length f_c_now_funs, .slice f_a_now_frames V.now.frames.length f_c_now_frames, .slice f_a_now_out V.now.out.length f_c_now_out, .int .i64 V.now.steps, .int .i64 V.now.kind, .int .i64 V.now.value.k, .int .i64 V.now.value.n, .string V.now.value.s] 51) := ⟨_, rfl⟩
    rw [← hW4]
    have hbW4 : Below w3.heap.size w3 W4 := by rw [hW4]; exact bel_alloc _ _
    have rV : W4.heap[w3.heap.size]? = some (Obj.cells #[.slice f_a_code V.code.length f_c_code, .int .i64 V.every, .slice f_a_marks V.marks.length f_c_marks, .slice f_a_now_heap_tables V.now.heap.tables.length f_c_now_heap_tables, .slice f_a_now_heap_cells V.now.heap.cells.length f_c_now_heap_cells, .slice f_a_now_funs V.now.funs.length f_c_now_funs, .slice f_a_now_frames V.now.frames.length f_c_now_frames, .slice f_a_now_out V.now.out.length f_c_now_out, .int .i64 V.now.steps, .int .i64 V.now.kind, .int .i64 V.now.value.k, .int .i64 V.now.value.n, .string V.now.value.s] 51) := by rw [hW4]; exact heap_alloc_new _ _
    have zW4 : W4.heap.size = w3.heap.size + 1 := by rw [hW4]; simp
    clear hW4
    have qW4 : Below w1.heap.size w1 W4 := qw3.trans (hbW4.mono qw3.size)
    replace P0 := TrailOwn_keeps.below (fun b hb => In.lt hb (by omega)) hbW4 P0
    have f_u0 := cell_of_row _ _ 0 _ _ _ rV
    have f_u1 := cell_of_row _ _ 1 _ _ _ rV
    have f_u2 := cell_of_row _ _ 2 _ _ _ rV
    have f_u3 := cell_of_row _ _ 3 _ _ _ rV
    have f_u4 := cell_of_row _ _ 4 _ _ _ rV
    have f_u5 := cell_of_row _ _ 5 _ _ _ rV
    have f_u6 := cell_of_row _ _ 6 _ _ _ rV
    have f_u7 := cell_of_row _ _ 7 _ _ _ rV
    have f_u8 := cell_of_row _ _ 8 _ _ _ rV
    have f_u9 := cell_of_row _ _ 9 _ _ _ rV
    have f_u10 := cell_of_row _ _ 10 _ _ _ rV
    have f_u11 := cell_of_row _ _ 11 _ _ _ rV
    have f_u12 := cell_of_row _ _ 12 _ _ _ rV
    simp only [List.getElem?_toArray, List.getElem?_cons_zero, List.getElem?_cons_succ] at f_u0 f_u1 f_u2 f_u3 f_u4 f_u5 f_u6 f_u7 f_u8 f_u9 f_u10 f_u11 f_u12
    clear rV
    go_wp2_with fail
    refine (HTO.out _ qW4).mono ?_
    rintro e w5 ⟨⟨X0a, X0c, rfl, X0⟩, hbw5⟩
    have qw5 : Below w1.heap.size w1 w5 := qW4.trans (hbw5.mono qW4.size)
    have zw5 := hbw5.size
    replace f_u0 := (hbw5.cell (p := ⟨w3.heap.size, 0, none⟩) (by show w3.heap.size < _; omega)).trans f_u0
    replace f_u1 := (hbw5.cell (p := ⟨w3.heap.size, 1, none⟩) (by show w3.heap.size < _; omega)).trans f_u1
    replace f_u2 := (hbw5.cell (p := ⟨w3.heap.size, 2, none⟩) (by show w3.heap.size < _; omega)).trans f_u2
    replace f_u3 := (hbw5.cell (p := ⟨w3.heap.size, 3, none⟩) (by show w3.heap.size < _; omega)).trans f_u3
    replace f_u4 := (hbw5.cell (p := ⟨w3.heap.size, 4, none⟩) (by show w3.heap.size < _; omega)).trans f_u4
    replace f_u5 := (hbw5.cell (p := ⟨w3.heap.size, 5, none⟩) (by show w3.heap.size < _; omega)).trans f_u5
    replace f_u6 := (hbw5.cell (p := ⟨w3.heap.size, 6, none⟩) (by show w3.heap.size < _; omega)).trans f_u6
    replace f_u7 := (hbw5.cell (p := ⟨w3.heap.size, 7, none⟩) (by show w3.heap.size < _; omega)).trans f_u7
    replace f_u8 := (hbw5.cell (p := ⟨w3.heap.size, 8, none⟩) (by show w3.heap.size < _; omega)).trans f_u8
    replace f_u9 := (hbw5.cell (p := ⟨w3.heap.size, 9, none⟩) (by show w3.heap.size < _; omega)).trans f_u9
    replace f_u10 := (hbw5.cell (p := ⟨w3.heap.size, 10, none⟩) (by show w3.heap.size < _; omega)).trans f_u10
    replace f_u11 := (hbw5.cell (p := ⟨w3.heap.size, 11, none⟩) (by show w3.heap.size < _; omega)).trans f_u11
    replace f_u12 := (hbw5.cell (p := ⟨w3.heap.size, 12, none⟩) (by show w3.heap.size < _; omega)).trans f_u12
    replace P0 := TrailOwn_keeps.below (fun b hb => In.lt hb (by omega)) hbw5 P0
    go_wp2_with fail
    refine (HI.out _ _ _ (at0 ProtoOwn_lies (by omega) X0)).mono ?_
    rintro e w7 ⟨⟨G0s, rfl, G0⟩, hbw7⟩
    have qw7 : Below w1.heap.size w1 w7 := qw5.trans (hbw7.mono qw5.size)
    have zw7 := hbw7.size
    replace f_u0 := (hbw7.cell (p := ⟨w3.heap.size, 0, none⟩) (by show w3.heap.size < _; omega)).trans f_u0
    replace f_u1 := (hbw7.cell (p := ⟨w3.heap.size, 1, none⟩) (by show w3.heap.size < _; omega)).trans f_u1
    replace f_u2 := (hbw7.cell (p := ⟨w3.heap.size, 2, none⟩) (by show w3.heap.size < _; omega)).trans f_u2
    replace f_u3 := (hbw7.cell (p := ⟨w3.heap.size, 3, none⟩) (by show w3.heap.size < _; omega)).trans f_u3
    replace f_u4 := (hbw7.cell (p := ⟨w3.heap.size, 4, none⟩) (by show w3.heap.size < _; omega)).trans f_u4
    replace f_u5 := (hbw7.cell (p := ⟨w3.heap.size, 5, none⟩) (by show w3.heap.size < _; omega)).trans f_u5
    replace f_u6 := (hbw7.cell (p := ⟨w3.heap.size, 6, none⟩) (by show w3.heap.size < _; omega)).trans f_u6
    replace f_u7 := (hbw7.cell (p := ⟨w3.heap.size, 7, none⟩) (by show w3.heap.size < _; omega)).trans f_u7
    replace f_u8 := (hbw7.cell (p := ⟨w3.heap.size, 8, none⟩) (by show w3.heap.size < _; omega)).trans f_u8
    replace f_u9 := (hbw7.cell (p := ⟨w3.heap.size, 9, none⟩) (by show w3.heap.size < _; omega)).trans f_u9
    replace f_u10 := (hbw7.cell (p := ⟨w3.heap.size, 10, none⟩) (by show w3.heap.size < _; omega)).trans f_u10
    replace f_u11 := (hbw7.cell (p := ⟨w3.heap.size, 11, none⟩) (by show w3.heap.size < _; omega)).trans f_u11
    replace f_u12 := (hbw7.cell (p := ⟨w3.heap.size, 12, none⟩) (by show w3.heap.size < _; omega)).trans f_u12
    replace P0 := TrailOwn_keeps.below (fun b hb => In.lt hb (by omega)) hbw7 P0
    replace X0 := X0.below ProtoOwn_keeps (fun b hb => In.lt hb (by omega)) hbw7
    have G0o := G0
    obtain ⟨_, _, _, h_a_code, h_c_code, h_a_marks, h_c_marks, h_a_now_heap_tables, h_c_now_heap_tables, h_a_now_heap_cells, h_c_now_heap_cells, h_a_now_funs, h_c_now_funs, h_a_now_frames, h_c_now_frames, h_a_now_out, h_c_now_out, rfl, h_l_code, h_r_code, h_l_marks, h_r_marks, h_r_now⟩ := G0o
    clear h_l_code h_r_code h_l_marks h_r_marks h_r_now
    have al_f_u0 : ∀ O : Obj, (w7.alloc O).cell? ⟨w3.heap.size, 0, none⟩ = some (.slice f_a_code V.code.length f_c_code) := fun O => ((bel_alloc w7 O).cell (p := ⟨w3.heap.size, 0, none⟩) (by show w3.heap.size < _; omega)).trans f_u0
    have al_f_u1 : ∀ O : Obj, (w7.alloc O).cell? ⟨w3.heap.size, 1, none⟩ = some (.int .i64 V.every) := fun O => ((bel_alloc w7 O).cell (p := ⟨w3.heap.size, 1, none⟩) (by show w3.heap.size < _; omega)).trans f_u1
    have al_f_u2 : ∀ O : Obj, (w7.alloc O).cell? ⟨w3.heap.size, 2, none⟩ = some (.slice f_a_marks V.marks.length f_c_marks) := fun O => ((bel_alloc w7 O).cell (p := ⟨w3.heap.size, 2, none⟩) (by show w3.heap.size < _; omega)).trans f_u2
    have al_f_u3 : ∀ O : Obj, (w7.alloc O).cell? ⟨w3.heap.size, 3, none⟩ = some (.slice f_a_now_heap_tables V.now.heap.tables.length f_c_now_heap_tables) := fun O => ((bel_alloc w7 O).cell (p := ⟨w3.heap.size, 3, none⟩) (by show w3.heap.size < _; omega)).trans f_u3
    have al_f_u4 : ∀ O : Obj, (w7.alloc O).cell? ⟨w3.heap.size, 4, none⟩ = some (.slice f_a_now_heap_cells V.now.heap.cells.length f_c_now_heap_cells) := fun O => ((bel_alloc w7 O).cell (p := ⟨w3.heap.size, 4, none⟩) (by show w3.heap.size < _; omega)).trans f_u4
    have al_f_u5 : ∀ O : Obj, (w7.alloc O).cell? ⟨w3.heap.size, 5, none⟩ = some (.slice f_a_now_funs V.now.funs.length f_c_now_funs) := fun O => ((bel_alloc w7 O).cell (p := ⟨w3.heap.size, 5, none⟩) (by show w3.heap.size < _; omega)).trans f_u5
    have al_f_u6 : ∀ O : Obj, (w7.alloc O).cell? ⟨w3.heap.size, 6, none⟩ = some (.slice f_a_now_frames V.now.frames.length f_c_now_frames) := fun O => ((bel_alloc w7 O).cell (p := ⟨w3.heap.size, 6, none⟩) (by show w3.heap.size < _; omega)).trans f_u6
    have al_f_u7 : ∀ O : Obj, (w7.alloc O).cell? ⟨w3.heap.size, 7, none⟩ = some (.slice f_a_now_out V.now.out.length f_c_now_out) := fun O => ((bel_alloc w7 O).cell (p := ⟨w3.heap.size, 7, none⟩) (by show w3.heap.size < _; omega)).trans f_u7
    have al_f_u8 : ∀ O : Obj, (w7.alloc O).cell? ⟨w3.heap.size, 8, none⟩ = some (.int .i64 V.now.steps) := fun O => ((bel_alloc w7 O).cell (p := ⟨w3.heap.size, 8, none⟩) (by show w3.heap.size < _; omega)).trans f_u8
    have al_f_u9 : ∀ O : Obj, (w7.alloc O).cell? ⟨w3.heap.size, 9, none⟩ = some (.int .i64 V.now.kind) := fun O => ((bel_alloc w7 O).cell (p := ⟨w3.heap.size, 9, none⟩) (by show w3.heap.size < _; omega)).trans f_u9
    have al_f_u10 : ∀ O : Obj, (w7.alloc O).cell? ⟨w3.heap.size, 10, none⟩ = some (.int .i64 V.now.value.k) := fun O => ((bel_alloc w7 O).cell (p := ⟨w3.heap.size, 10, none⟩) (by show w3.heap.size < _; omega)).trans f_u10
    have al_f_u11 : ∀ O : Obj, (w7.alloc O).cell? ⟨w3.heap.size, 11, none⟩ = some (.int .i64 V.now.value.n) := fun O => ((bel_alloc w7 O).cell (p := ⟨w3.heap.size, 11, none⟩) (by show w3.heap.size < _; omega)).trans f_u11
    have al_f_u12 : ∀ O : Obj, (w7.alloc O).cell? ⟨w3.heap.size, 12, none⟩ = some (.string V.now.value.s) := fun O => ((bel_alloc w7 O).cell (p := ⟨w3.heap.size, 12, none⟩) (by show w3.heap.size < _; omega)).trans f_u12
    go_wp2_with fail
    clear al_f_u0 al_f_u1 al_f_u2 al_f_u3 al_f_u4 al_f_u5 al_f_u6 al_f_u7 al_f_u8 al_f_u9 al_f_u10 al_f_u11 al_f_u12
    obtain ⟨W8, hW8⟩ : ∃ W, W = w7.alloc (Obj.cells #[.slice h_a_code V.code.length h_c_code, .int .i64 V.every, .slice h_a_marks V.marks.length h_c_marks, .slice h_a_now_heap_tables V.now.heap.tables.length h_c_now_heap_tables, .slice h_a_now_heap_cells V.now.heap.cells.length h_c_now_heap_cells, .slice h_a_now_funs V.now.funs.length h_c_now_funs, .slice h_a_now_frames V.now.frames.length h_c_now_frames, .slice h_a_now_out V.now.out.length h_c_now_out, .int .i64 V.now.steps, .int .i64 V.now.kind, .int .i64 V.now.value.k, .int .i64 V.now.value.n, .string V.now.value.s] 51) := ⟨_, rfl⟩
    rw [← hW8]
    have hbW8 : Below w7.heap.size w7 W8 := by rw [hW8]; exact bel_alloc _ _
    have rV : W8.heap[w7.heap.size]? = some (Obj.cells #[.slice h_a_code V.code.length h_c_code, .int .i64 V.every, .slice h_a_marks V.marks.length h_c_marks, .slice h_a_now_heap_tables V.now.heap.tables.length h_c_now_heap_tables, .slice h_a_now_heap_cells V.now.heap.cells.length h_c_now_heap_cells, .slice h_a_now_funs V.now.funs.length h_c_now_funs, .slice h_a_now_frames V.now.frames.length h_c_now_frames, .slice h_a_now_out V.now.out.length h_c_now_out, .int .i64 V.now.steps, .int .i64 V.now.kind, .int .i64 V.now.value.k, .int .i64 V.now.value.n, .string V.now.value.s] 51) := by rw [hW8]; exact heap_alloc_new _ _
    have zW8 : W8.heap.size = w7.heap.size + 1 := by rw [hW8]; simp
    clear hW8
    have qW8 : Below w1.heap.size w1 W8 := qw7.trans (hbW8.mono qw7.size)
    replace f_u0 := (hbW8.cell (p := ⟨w3.heap.size, 0, none⟩) (by show w3.heap.size < _; omega)).trans f_u0
    replace f_u1 := (hbW8.cell (p := ⟨w3.heap.size, 1, none⟩) (by show w3.heap.size < _; omega)).trans f_u1
    replace f_u2 := (hbW8.cell (p := ⟨w3.heap.size, 2, none⟩) (by show w3.heap.size < _; omega)).trans f_u2
    replace f_u3 := (hbW8.cell (p := ⟨w3.heap.size, 3, none⟩) (by show w3.heap.size < _; omega)).trans f_u3
    replace f_u4 := (hbW8.cell (p := ⟨w3.heap.size, 4, none⟩) (by show w3.heap.size < _; omega)).trans f_u4
    replace f_u5 := (hbW8.cell (p := ⟨w3.heap.size, 5, none⟩) (by show w3.heap.size < _; omega)).trans f_u5
    replace f_u6 := (hbW8.cell (p := ⟨w3.heap.size, 6, none⟩) (by show w3.heap.size < _; omega)).trans f_u6
    replace f_u7 := (hbW8.cell (p := ⟨w3.heap.size, 7, none⟩) (by show w3.heap.size < _; omega)).trans f_u7
    replace f_u8 := (hbW8.cell (p := ⟨w3.heap.size, 8, none⟩) (by show w3.heap.size < _; omega)).trans f_u8
    replace f_u9 := (hbW8.cell (p := ⟨w3.heap.size, 9, none⟩) (by show w3.heap.size < _; omega)).trans f_u9
    replace f_u10 := (hbW8.cell (p := ⟨w3.heap.size, 10, none⟩) (by show w3.heap.size < _; omega)).trans f_u10
    replace f_u11 := (hbW8.cell (p := ⟨w3.heap.size, 11, none⟩) (by show w3.heap.size < _; omega)).trans f_u11
    replace f_u12 := (hbW8.cell (p := ⟨w3.heap.size, 12, none⟩) (by show w3.heap.size < _; omega)).trans f_u12
    replace P0 := TrailOwn_keeps.below (fun b hb => In.lt hb (by omega)) hbW8 P0
    replace X0 := X0.below ProtoOwn_keeps (fun b hb => In.lt hb (by omega)) hbW8
    replace G0 := TrailOwn_keeps.below (fun b hb => In.lt hb (by omega)) hbW8 G0
    have h_u0 := cell_of_row _ _ 0 _ _ _ rV
    have h_u1 := cell_of_row _ _ 1 _ _ _ rV
    have h_u2 := cell_of_row _ _ 2 _ _ _ rV
    have h_u3 := cell_of_row _ _ 3 _ _ _ rV
    have h_u4 := cell_of_row _ _ 4 _ _ _ rV
    have h_u5 := cell_of_row _ _ 5 _ _ _ rV
    have h_u6 := cell_of_row _ _ 6 _ _ _ rV
    have h_u7 := cell_of_row _ _ 7 _ _ _ rV
    have h_u8 := cell_of_row _ _ 8 _ _ _ rV
    have h_u9 := cell_of_row _ _ 9 _ _ _ rV
    have h_u10 := cell_of_row _ _ 10 _ _ _ rV
    have h_u11 := cell_of_row _ _ 11 _ _ _ rV
    have h_u12 := cell_of_row _ _ 12 _ _ _ rV
    simp only [List.getElem?_toArray, List.getElem?_cons_zero, List.getElem?_cons_succ] at h_u0 h_u1 h_u2 h_u3 h_u4 h_u5 h_u6 h_u7 h_u8 h_u9 h_u10 h_u11 h_u12
    clear rV
    go_wp2_with fail
    refine (eqTrail_same V _ _ 0 W8.heap.size 0 W8.heap.size W8 (Nat.le_refl _) (Nat.le_refl _) HVW.out (st0 TrailOwn_lies (by omega) G0) (st0 TrailOwn_lies (by omega) P0)).mono ?_
    rintro e w9 ⟨rfl, hbw9⟩
    have qw9 : Below w1.heap.size w1 w9 := qW8.trans (hbw9.mono qW8.size)
    have zw9 := hbw9.size
    replace f_u0 := (hbw9.cell (p := ⟨w3.heap.size, 0, none⟩) (by show w3.heap.size < _; omega)).trans f_u0
    replace f_u1 := (hbw9.cell (p := ⟨w3.heap.size, 1, none⟩) (by show w3.heap.size < _; omega)).trans f_u1
    replace f_u2 := (hbw9.cell (p := ⟨w3.heap.size, 2, none⟩) (by show w3.heap.size < _; omega)).trans f_u2
    replace f_u3 := (hbw9.cell (p := ⟨w3.heap.size, 3, none⟩) (by show w3.heap.size < _; omega)).trans f_u3
    replace f_u4 := (hbw9.cell (p := ⟨w3.heap.size, 4, none⟩) (by show w3.heap.size < _; omega)).trans f_u4
    replace f_u5 := (hbw9.cell (p := ⟨w3.heap.size, 5, none⟩) (by show w3.heap.size < _; omega)).trans f_u5
    replace f_u6 := (hbw9.cell (p := ⟨w3.heap.size, 6, none⟩) (by show w3.heap.size < _; omega)).trans f_u6
    replace f_u7 := (hbw9.cell (p := ⟨w3.heap.size, 7, none⟩) (by show w3.heap.size < _; omega)).trans f_u7
    replace f_u8 := (hbw9.cell (p := ⟨w3.heap.size, 8, none⟩) (by show w3.heap.size < _; omega)).trans f_u8
    replace f_u9 := (hbw9.cell (p := ⟨w3.heap.size, 9, none⟩) (by show w3.heap.size < _; omega)).trans f_u9
    replace f_u10 := (hbw9.cell (p := ⟨w3.heap.size, 10, none⟩) (by show w3.heap.size < _; omega)).trans f_u10
    replace f_u11 := (hbw9.cell (p := ⟨w3.heap.size, 11, none⟩) (by show w3.heap.size < _; omega)).trans f_u11
    replace f_u12 := (hbw9.cell (p := ⟨w3.heap.size, 12, none⟩) (by show w3.heap.size < _; omega)).trans f_u12
    replace h_u0 := (hbw9.cell (p := ⟨w7.heap.size, 0, none⟩) (by show w7.heap.size < _; omega)).trans h_u0
    replace h_u1 := (hbw9.cell (p := ⟨w7.heap.size, 1, none⟩) (by show w7.heap.size < _; omega)).trans h_u1
    replace h_u2 := (hbw9.cell (p := ⟨w7.heap.size, 2, none⟩) (by show w7.heap.size < _; omega)).trans h_u2
    replace h_u3 := (hbw9.cell (p := ⟨w7.heap.size, 3, none⟩) (by show w7.heap.size < _; omega)).trans h_u3
    replace h_u4 := (hbw9.cell (p := ⟨w7.heap.size, 4, none⟩) (by show w7.heap.size < _; omega)).trans h_u4
    replace h_u5 := (hbw9.cell (p := ⟨w7.heap.size, 5, none⟩) (by show w7.heap.size < _; omega)).trans h_u5
    replace h_u6 := (hbw9.cell (p := ⟨w7.heap.size, 6, none⟩) (by show w7.heap.size < _; omega)).trans h_u6
    replace h_u7 := (hbw9.cell (p := ⟨w7.heap.size, 7, none⟩) (by show w7.heap.size < _; omega)).trans h_u7
    replace h_u8 := (hbw9.cell (p := ⟨w7.heap.size, 8, none⟩) (by show w7.heap.size < _; omega)).trans h_u8
    replace h_u9 := (hbw9.cell (p := ⟨w7.heap.size, 9, none⟩) (by show w7.heap.size < _; omega)).trans h_u9
    replace h_u10 := (hbw9.cell (p := ⟨w7.heap.size, 10, none⟩) (by show w7.heap.size < _; omega)).trans h_u10
    replace h_u11 := (hbw9.cell (p := ⟨w7.heap.size, 11, none⟩) (by show w7.heap.size < _; omega)).trans h_u11
    replace h_u12 := (hbw9.cell (p := ⟨w7.heap.size, 12, none⟩) (by show w7.heap.size < _; omega)).trans h_u12
    replace P0 := TrailOwn_keeps.below (fun b hb => In.lt hb (by omega)) hbw9 P0
    replace X0 := X0.below ProtoOwn_keeps (fun b hb => In.lt hb (by omega)) hbw9
    replace G0 := TrailOwn_keeps.below (fun b hb => In.lt hb (by omega)) hbw9 G0
    go_wp2_with fail
    refine (HTO.out _ qw9).mono ?_
    rintro e w10 ⟨⟨Ya, Yc, rfl, Y⟩, hbw10⟩
    have qw10 : Below w1.heap.size w1 w10 := qw9.trans (hbw10.mono qw9.size)
    have zw10 := hbw10.size
    replace f_u0 := (hbw10.cell (p := ⟨w3.heap.size, 0, none⟩) (by show w3.heap.size < _; omega)).trans f_u0
    replace f_u1 := (hbw10.cell (p := ⟨w3.heap.size, 1, none⟩) (by show w3.heap.size < _; omega)).trans f_u1
    replace f_u2 := (hbw10.cell (p := ⟨w3.heap.size, 2, none⟩) (by show w3.heap.size < _; omega)).trans f_u2
    replace f_u3 := (hbw10.cell (p := ⟨w3.heap.size, 3, none⟩) (by show w3.heap.size < _; omega)).trans f_u3
    replace f_u4 := (hbw10.cell (p := ⟨w3.heap.size, 4, none⟩) (by show w3.heap.size < _; omega)).trans f_u4
    replace f_u5 := (hbw10.cell (p := ⟨w3.heap.size, 5, none⟩) (by show w3.heap.size < _; omega)).trans f_u5
    replace f_u6 := (hbw10.cell (p := ⟨w3.heap.size, 6, none⟩) (by show w3.heap.size < _; omega)).trans f_u6
    replace f_u7 := (hbw10.cell (p := ⟨w3.heap.size, 7, none⟩) (by show w3.heap.size < _; omega)).trans f_u7
    replace f_u8 := (hbw10.cell (p := ⟨w3.heap.size, 8, none⟩) (by show w3.heap.size < _; omega)).trans f_u8
    replace f_u9 := (hbw10.cell (p := ⟨w3.heap.size, 9, none⟩) (by show w3.heap.size < _; omega)).trans f_u9
    replace f_u10 := (hbw10.cell (p := ⟨w3.heap.size, 10, none⟩) (by show w3.heap.size < _; omega)).trans f_u10
    replace f_u11 := (hbw10.cell (p := ⟨w3.heap.size, 11, none⟩) (by show w3.heap.size < _; omega)).trans f_u11
    replace f_u12 := (hbw10.cell (p := ⟨w3.heap.size, 12, none⟩) (by show w3.heap.size < _; omega)).trans f_u12
    replace h_u0 := (hbw10.cell (p := ⟨w7.heap.size, 0, none⟩) (by show w7.heap.size < _; omega)).trans h_u0
    replace h_u1 := (hbw10.cell (p := ⟨w7.heap.size, 1, none⟩) (by show w7.heap.size < _; omega)).trans h_u1
    replace h_u2 := (hbw10.cell (p := ⟨w7.heap.size, 2, none⟩) (by show w7.heap.size < _; omega)).trans h_u2
    replace h_u3 := (hbw10.cell (p := ⟨w7.heap.size, 3, none⟩) (by show w7.heap.size < _; omega)).trans h_u3
    replace h_u4 := (hbw10.cell (p := ⟨w7.heap.size, 4, none⟩) (by show w7.heap.size < _; omega)).trans h_u4
    replace h_u5 := (hbw10.cell (p := ⟨w7.heap.size, 5, none⟩) (by show w7.heap.size < _; omega)).trans h_u5
    replace h_u6 := (hbw10.cell (p := ⟨w7.heap.size, 6, none⟩) (by show w7.heap.size < _; omega)).trans h_u6
    replace h_u7 := (hbw10.cell (p := ⟨w7.heap.size, 7, none⟩) (by show w7.heap.size < _; omega)).trans h_u7
    replace h_u8 := (hbw10.cell (p := ⟨w7.heap.size, 8, none⟩) (by show w7.heap.size < _; omega)).trans h_u8
    replace h_u9 := (hbw10.cell (p := ⟨w7.heap.size, 9, none⟩) (by show w7.heap.size < _; omega)).trans h_u9
    replace h_u10 := (hbw10.cell (p := ⟨w7.heap.size, 10, none⟩) (by show w7.heap.size < _; omega)).trans h_u10
    replace h_u11 := (hbw10.cell (p := ⟨w7.heap.size, 11, none⟩) (by show w7.heap.size < _; omega)).trans h_u11
    replace h_u12 := (hbw10.cell (p := ⟨w7.heap.size, 12, none⟩) (by show w7.heap.size < _; omega)).trans h_u12
    replace P0 := TrailOwn_keeps.below (fun b hb => In.lt hb (by omega)) hbw10 P0
    replace X0 := X0.below ProtoOwn_keeps (fun b hb => In.lt hb (by omega)) hbw10
    replace G0 := TrailOwn_keeps.below (fun b hb => In.lt hb (by omega)) hbw10 G0
    go_wp2_with fail
    refine (eqProtoS_same xs0 _ _ _ _ 0 w10.heap.size 0 w10.heap.size w10 (Nat.le_refl _) (Nat.le_refl _) (by omega) (at0 ProtoOwn_lies (by omega) X0) (at0 ProtoOwn_lies (by omega) Y)).mono ?_
    rintro e w12 ⟨rfl, hbw12⟩
    have qw12 : Below w1.heap.size w1 w12 := qw10.trans (hbw12.mono qw10.size)
    have zw12 := hbw12.size
    clear Y
    replace f_u0 := (hbw12.cell (p := ⟨w3.heap.size, 0, none⟩) (by show w3.heap.size < _; omega)).trans f_u0
    replace f_u1 := (hbw12.cell (p := ⟨w3.heap.size, 1, none⟩) (by show w3.heap.size < _; omega)).trans f_u1
    replace f_u2 := (hbw12.cell (p := ⟨w3.heap.size, 2, none⟩) (by show w3.heap.size < _; omega)).trans f_u2
    replace f_u3 := (hbw12.cell (p := ⟨w3.heap.size, 3, none⟩) (by show w3.heap.size < _; omega)).trans f_u3
    replace f_u4 := (hbw12.cell (p := ⟨w3.heap.size, 4, none⟩) (by show w3.heap.size < _; omega)).trans f_u4
    replace f_u5 := (hbw12.cell (p := ⟨w3.heap.size, 5, none⟩) (by show w3.heap.size < _; omega)).trans f_u5
    replace f_u6 := (hbw12.cell (p := ⟨w3.heap.size, 6, none⟩) (by show w3.heap.size < _; omega)).trans f_u6
    replace f_u7 := (hbw12.cell (p := ⟨w3.heap.size, 7, none⟩) (by show w3.heap.size < _; omega)).trans f_u7
    replace f_u8 := (hbw12.cell (p := ⟨w3.heap.size, 8, none⟩) (by show w3.heap.size < _; omega)).trans f_u8
    replace f_u9 := (hbw12.cell (p := ⟨w3.heap.size, 9, none⟩) (by show w3.heap.size < _; omega)).trans f_u9
    replace f_u10 := (hbw12.cell (p := ⟨w3.heap.size, 10, none⟩) (by show w3.heap.size < _; omega)).trans f_u10
    replace f_u11 := (hbw12.cell (p := ⟨w3.heap.size, 11, none⟩) (by show w3.heap.size < _; omega)).trans f_u11
    replace f_u12 := (hbw12.cell (p := ⟨w3.heap.size, 12, none⟩) (by show w3.heap.size < _; omega)).trans f_u12
    replace h_u0 := (hbw12.cell (p := ⟨w7.heap.size, 0, none⟩) (by show w7.heap.size < _; omega)).trans h_u0
    replace h_u1 := (hbw12.cell (p := ⟨w7.heap.size, 1, none⟩) (by show w7.heap.size < _; omega)).trans h_u1
    replace h_u2 := (hbw12.cell (p := ⟨w7.heap.size, 2, none⟩) (by show w7.heap.size < _; omega)).trans h_u2
    replace h_u3 := (hbw12.cell (p := ⟨w7.heap.size, 3, none⟩) (by show w7.heap.size < _; omega)).trans h_u3
    replace h_u4 := (hbw12.cell (p := ⟨w7.heap.size, 4, none⟩) (by show w7.heap.size < _; omega)).trans h_u4
    replace h_u5 := (hbw12.cell (p := ⟨w7.heap.size, 5, none⟩) (by show w7.heap.size < _; omega)).trans h_u5
    replace h_u6 := (hbw12.cell (p := ⟨w7.heap.size, 6, none⟩) (by show w7.heap.size < _; omega)).trans h_u6
    replace h_u7 := (hbw12.cell (p := ⟨w7.heap.size, 7, none⟩) (by show w7.heap.size < _; omega)).trans h_u7
    replace h_u8 := (hbw12.cell (p := ⟨w7.heap.size, 8, none⟩) (by show w7.heap.size < _; omega)).trans h_u8
    replace h_u9 := (hbw12.cell (p := ⟨w7.heap.size, 9, none⟩) (by show w7.heap.size < _; omega)).trans h_u9
    replace h_u10 := (hbw12.cell (p := ⟨w7.heap.size, 10, none⟩) (by show w7.heap.size < _; omega)).trans h_u10
    replace h_u11 := (hbw12.cell (p := ⟨w7.heap.size, 11, none⟩) (by show w7.heap.size < _; omega)).trans h_u11
    replace h_u12 := (hbw12.cell (p := ⟨w7.heap.size, 12, none⟩) (by show w7.heap.size < _; omega)).trans h_u12
    replace P0 := TrailOwn_keeps.below (fun b hb => In.lt hb (by omega)) hbw12 P0
    replace X0 := X0.below ProtoOwn_keeps (fun b hb => In.lt hb (by omega)) hbw12
    replace G0 := TrailOwn_keeps.below (fun b hb => In.lt hb (by omega)) hbw12 G0
    go_wp2_with fail
    refine (mkProtoS_any xs0 _ _ 1 1 (In W4.heap.size w5.heap.size) w12 (fun b hb => In.lt hb (by omega)) X0 rfl (by decide) HXN.out HLEN.out).mono ?_
    rintro e w13 ⟨rfl, _, oX⟩
    have zw13 := oX.size
    have bX : Below w1.heap.size w12 w13 := oX.below (by omega) (fun b hb h => by have := h.1; omega)
    have qw13 : Below w1.heap.size w1 w13 := qw12.trans bX
    clear X0
    replace P0 := TrailOwn_keeps _ _ _ _ _ _ (fun _ h => h) (fun b hb => oX.block b (In.lt hb (by omega)) (fun hc => by have h1 := hb.1; have h2 := hb.2; have h3 := hc.1; have h4 := hc.2; omega)) P0
    replace f_u0 := (World.cell?_of_block (a := ⟨w3.heap.size, 0, none⟩) (oX.block w3.heap.size (by omega) (fun h => by have h1 := h.1; have h2 := h.2; omega))).trans f_u0
    replace f_u1 := (World.cell?_of_block (a := ⟨w3.heap.size, 1, none⟩) (oX.block w3.heap.size (by omega) (fun h => by have h1 := h.1; have h2 := h.2; omega))).trans f_u1
    replace f_u2 := (World.cell?_of_block (a := ⟨w3.heap.size, 2, none⟩) (oX.block w3.heap.size (by omega) (fun h => by have h1 := h.1; have h2 := h.2; omega))).trans f_u2
    replace f_u3 := (World.cell?_of_block (a := ⟨w3.heap.size, 3, none⟩) (oX.block w3.heap.size (by omega) (fun h => by have h1 := h.1; have h2 := h.2; omega))).trans f_u3
    replace f_u4 := (World.cell?_of_block (a := ⟨w3.heap.size, 4, none⟩) (oX.block w3.heap.size (by omega) (fun h => by have h1 := h.1; have h2 := h.2; omega))).trans f_u4
    replace f_u5 := (World.cell?_of_block (a := ⟨w3.heap.size, 5, none⟩) (oX.block w3.heap.size (by omega) (fun h => by have h1 := h.1; have h2 := h.2; omega))).trans f_u5
    replace f_u6 := (World.cell?_of_block (a := ⟨w3.heap.size, 6, none⟩) (oX.block w3.heap.size (by omega) (fun h => by have h1 := h.1; have h2 := h.2; omega))).trans f_u6
    replace f_u7 := (World.cell?_of_block (a := ⟨w3.heap.size, 7, none⟩) (oX.block w3.heap.size (by omega) (fun h => by have h1 := h.1; have h2 := h.2; omega))).trans f_u7
    replace f_u8 := (World.cell?_of_block (a := ⟨w3.heap.size, 8, none⟩) (oX.block w3.heap.size (by omega) (fun h => by have h1 := h.1; have h2 := h.2; omega))).trans f_u8
    replace f_u9 := (World.cell?_of_block (a := ⟨w3.heap.size, 9, none⟩) (oX.block w3.heap.size (by omega) (fun h => by have h1 := h.1; have h2 := h.2; omega))).trans f_u9
    replace f_u10 := (World.cell?_of_block (a := ⟨w3.heap.size, 10, none⟩) (oX.block w3.heap.size (by omega) (fun h => by have h1 := h.1; have h2 := h.2; omega))).trans f_u10
    replace f_u11 := (World.cell?_of_block (a := ⟨w3.heap.size, 11, none⟩) (oX.block w3.heap.size (by omega) (fun h => by have h1 := h.1; have h2 := h.2; omega))).trans f_u11
    replace f_u12 := (World.cell?_of_block (a := ⟨w3.heap.size, 12, none⟩) (oX.block w3.heap.size (by omega) (fun h => by have h1 := h.1; have h2 := h.2; omega))).trans f_u12
    replace G0 := TrailOwn_keeps _ _ _ _ _ _ (fun _ h => h) (fun b hb => oX.block b (In.lt hb (by omega)) (fun hc => by have h1 := hb.1; have h2 := hb.2; have h3 := hc.1; have h4 := hc.2; omega)) G0
    replace h_u0 := (World.cell?_of_block (a := ⟨w7.heap.size, 0, none⟩) (oX.block w7.heap.size (by omega) (fun h => by have h1 := h.1; have h2 := h.2; omega))).trans h_u0
    replace h_u1 := (World.cell?_of_block (a := ⟨w7.heap.size, 1, none⟩) (oX.block w7.heap.size (by omega) (fun h => by have h1 := h.1; have h2 := h.2; omega))).trans h_u1
    replace h_u2 := (World.cell?_of_block (a := ⟨w7.heap.size, 2, none⟩) (oX.block w7.heap.size (by omega) (fun h => by have h1 := h.1; have h2 := h.2; omega))).trans h_u2
    replace h_u3 := (World.cell?_of_block (a := ⟨w7.heap.size, 3, none⟩) (oX.block w7.heap.size (by omega) (fun h => by have h1 := h.1; have h2 := h.2; omega))).trans h_u3
    replace h_u4 := (World.cell?_of_block (a := ⟨w7.heap.size, 4, none⟩) (oX.block w7.heap.size (by omega) (fun h => by have h1 := h.1; have h2 := h.2; omega))).trans h_u4
    replace h_u5 := (World.cell?_of_block (a := ⟨w7.heap.size, 5, none⟩) (oX.block w7.heap.size (by omega) (fun h => by have h1 := h.1; have h2 := h.2; omega))).trans h_u5
    replace h_u6 := (World.cell?_of_block (a := ⟨w7.heap.size, 6, none⟩) (oX.block w7.heap.size (by omega) (fun h => by have h1 := h.1; have h2 := h.2; omega))).trans h_u6
    replace h_u7 := (World.cell?_of_block (a := ⟨w7.heap.size, 7, none⟩) (oX.block w7.heap.size (by omega) (fun h => by have h1 := h.1; have h2 := h.2; omega))).trans h_u7
    replace h_u8 := (World.cell?_of_block (a := ⟨w7.heap.size, 8, none⟩) (oX.block w7.heap.size (by omega) (fun h => by have h1 := h.1; have h2 := h.2; omega))).trans h_u8
    replace h_u9 := (World.cell?_of_block (a := ⟨w7.heap.size, 9, none⟩) (oX.block w7.heap.size (by omega) (fun h => by have h1 := h.1; have h2 := h.2; omega))).trans h_u9
    replace h_u10 := (World.cell?_of_block (a := ⟨w7.heap.size, 10, none⟩) (oX.block w7.heap.size (by omega) (fun h => by have h1 := h.1; have h2 := h.2; omega))).trans h_u10
    replace h_u11 := (World.cell?_of_block (a := ⟨w7.heap.size, 11, none⟩) (oX.block w7.heap.size (by omega) (fun h => by have h1 := h.1; have h2 := h.2; omega))).trans h_u11
    replace h_u12 := (World.cell?_of_block (a := ⟨w7.heap.size, 12, none⟩) (oX.block w7.heap.size (by omega) (fun h => by have h1 := h.1; have h2 := h.2; omega))).trans h_u12
    have hk0 : ¬ (((1 + mnR Protomn xs0 : Nat) : Int) < 0) := by omega
    generalize mnR Protomn xs0 = NX at *
    go_wp2_with fail
    refine (eqTrail_same V _ _ 0 w13.heap.size 0 w13.heap.size w13 (Nat.le_refl _) (Nat.le_refl _) HVW.out (st0 TrailOwn_lies (by omega) G0) (st0 TrailOwn_lies (by omega) P0)).mono ?_
    rintro e w14 ⟨rfl, hbw14⟩
    have qw14 : Below w1.heap.size w1 w14 := qw13.trans (hbw14.mono qw13.size)
    have zw14 := hbw14.size
    replace f_u0 := (hbw14.cell (p := ⟨w3.heap.size, 0, none⟩) (by show w3.heap.size < _; omega)).trans f_u0
    replace f_u1 := (hbw14.cell (p := ⟨w3.heap.size, 1, none⟩) (by show w3.heap.size < _; omega)).trans f_u1
    replace f_u2 := (hbw14.cell (p := ⟨w3.heap.size, 2, none⟩) (by show w3.heap.size < _; omega)).trans f_u2
    replace f_u3 := (hbw14.cell (p := ⟨w3.heap.size, 3, none⟩) (by show w3.heap.size < _; omega)).trans f_u3
    replace f_u4 := (hbw14.cell (p := ⟨w3.heap.size, 4, none⟩) (by show w3.heap.size < _; omega)).trans f_u4
    replace f_u5 := (hbw14.cell (p := ⟨w3.heap.size, 5, none⟩) (by show w3.heap.size < _; omega)).trans f_u5
    replace f_u6 := (hbw14.cell (p := ⟨w3.heap.size, 6, none⟩) (by show w3.heap.size < _; omega)).trans f_u6
    replace f_u7 := (hbw14.cell (p := ⟨w3.heap.size, 7, none⟩) (by show w3.heap.size < _; omega)).trans f_u7
    replace f_u8 := (hbw14.cell (p := ⟨w3.heap.size, 8, none⟩) (by show w3.heap.size < _; omega)).trans f_u8
    replace f_u9 := (hbw14.cell (p := ⟨w3.heap.size, 9, none⟩) (by show w3.heap.size < _; omega)).trans f_u9
    replace f_u10 := (hbw14.cell (p := ⟨w3.heap.size, 10, none⟩) (by show w3.heap.size < _; omega)).trans f_u10
    replace f_u11 := (hbw14.cell (p := ⟨w3.heap.size, 11, none⟩) (by show w3.heap.size < _; omega)).trans f_u11
    replace f_u12 := (hbw14.cell (p := ⟨w3.heap.size, 12, none⟩) (by show w3.heap.size < _; omega)).trans f_u12
    replace h_u0 := (hbw14.cell (p := ⟨w7.heap.size, 0, none⟩) (by show w7.heap.size < _; omega)).trans h_u0
    replace h_u1 := (hbw14.cell (p := ⟨w7.heap.size, 1, none⟩) (by show w7.heap.size < _; omega)).trans h_u1
    replace h_u2 := (hbw14.cell (p := ⟨w7.heap.size, 2, none⟩) (by show w7.heap.size < _; omega)).trans h_u2
    replace h_u3 := (hbw14.cell (p := ⟨w7.heap.size, 3, none⟩) (by show w7.heap.size < _; omega)).trans h_u3
    replace h_u4 := (hbw14.cell (p := ⟨w7.heap.size, 4, none⟩) (by show w7.heap.size < _; omega)).trans h_u4
    replace h_u5 := (hbw14.cell (p := ⟨w7.heap.size, 5, none⟩) (by show w7.heap.size < _; omega)).trans h_u5
    replace h_u6 := (hbw14.cell (p := ⟨w7.heap.size, 6, none⟩) (by show w7.heap.size < _; omega)).trans h_u6
    replace h_u7 := (hbw14.cell (p := ⟨w7.heap.size, 7, none⟩) (by show w7.heap.size < _; omega)).trans h_u7
    replace h_u8 := (hbw14.cell (p := ⟨w7.heap.size, 8, none⟩) (by show w7.heap.size < _; omega)).trans h_u8
    replace h_u9 := (hbw14.cell (p := ⟨w7.heap.size, 9, none⟩) (by show w7.heap.size < _; omega)).trans h_u9
    replace h_u10 := (hbw14.cell (p := ⟨w7.heap.size, 10, none⟩) (by show w7.heap.size < _; omega)).trans h_u10
    replace h_u11 := (hbw14.cell (p := ⟨w7.heap.size, 11, none⟩) (by show w7.heap.size < _; omega)).trans h_u11
    replace h_u12 := (hbw14.cell (p := ⟨w7.heap.size, 12, none⟩) (by show w7.heap.size < _; omega)).trans h_u12
    replace P0 := TrailOwn_keeps.below (fun b hb => In.lt hb (by omega)) hbw14 P0
    replace G0 := TrailOwn_keeps.below (fun b hb => In.lt hb (by omega)) hbw14 G0
    go_wp2_with fail
    refine (mkTrail_any V _ 1 1 (In w5.heap.size w7.heap.size) w14 (fun b hb => In.lt hb (by omega)) G0 rfl (by decide) HVN.out).mono ?_
    rintro e w15 ⟨rfl, M0, oG⟩
    have zw15 := oG.size
    have bG : Below w1.heap.size w14 w15 := oG.below (by omega) (fun b hb h => by have := h.1; omega)
    have qw15 : Below w1.heap.size w1 w15 := qw14.trans bG
    clear G0
    replace P0 := TrailOwn_keeps _ _ _ _ _ _ (fun _ h => h) (fun b hb => oG.block b (In.lt hb (by omega)) (fun hc => by have h1 := hb.1; have h2 := hb.2; have h3 := hc.1; have h4 := hc.2; omega)) P0
    replace f_u0 := (World.cell?_of_block (a := ⟨w3.heap.size, 0, none⟩) (oG.block w3.heap.size (by omega) (fun h => by have h1 := h.1; have h2 := h.2; omega))).trans f_u0
    replace f_u1 := (World.cell?_of_block (a := ⟨w3.heap.size, 1, none⟩) (oG.block w3.heap.size (by omega) (fun h => by have h1 := h.1; have h2 := h.2; omega))).trans f_u1
    replace f_u2 := (World.cell?_of_block (a := ⟨w3.heap.size, 2, none⟩) (oG.block w3.heap.size (by omega) (fun h => by have h1 := h.1; have h2 := h.2; omega))).trans f_u2
    replace f_u3 := (World.cell?_of_block (a := ⟨w3.heap.size, 3, none⟩) (oG.block w3.heap.size (by omega) (fun h => by have h1 := h.1; have h2 := h.2; omega))).trans f_u3
    replace f_u4 := (World.cell?_of_block (a := ⟨w3.heap.size, 4, none⟩) (oG.block w3.heap.size (by omega) (fun h => by have h1 := h.1; have h2 := h.2; omega))).trans f_u4
    replace f_u5 := (World.cell?_of_block (a := ⟨w3.heap.size, 5, none⟩) (oG.block w3.heap.size (by omega) (fun h => by have h1 := h.1; have h2 := h.2; omega))).trans f_u5
    replace f_u6 := (World.cell?_of_block (a := ⟨w3.heap.size, 6, none⟩) (oG.block w3.heap.size (by omega) (fun h => by have h1 := h.1; have h2 := h.2; omega))).trans f_u6
    replace f_u7 := (World.cell?_of_block (a := ⟨w3.heap.size, 7, none⟩) (oG.block w3.heap.size (by omega) (fun h => by have h1 := h.1; have h2 := h.2; omega))).trans f_u7
    replace f_u8 := (World.cell?_of_block (a := ⟨w3.heap.size, 8, none⟩) (oG.block w3.heap.size (by omega) (fun h => by have h1 := h.1; have h2 := h.2; omega))).trans f_u8
    replace f_u9 := (World.cell?_of_block (a := ⟨w3.heap.size, 9, none⟩) (oG.block w3.heap.size (by omega) (fun h => by have h1 := h.1; have h2 := h.2; omega))).trans f_u9
    replace f_u10 := (World.cell?_of_block (a := ⟨w3.heap.size, 10, none⟩) (oG.block w3.heap.size (by omega) (fun h => by have h1 := h.1; have h2 := h.2; omega))).trans f_u10
    replace f_u11 := (World.cell?_of_block (a := ⟨w3.heap.size, 11, none⟩) (oG.block w3.heap.size (by omega) (fun h => by have h1 := h.1; have h2 := h.2; omega))).trans f_u11
    replace f_u12 := (World.cell?_of_block (a := ⟨w3.heap.size, 12, none⟩) (oG.block w3.heap.size (by omega) (fun h => by have h1 := h.1; have h2 := h.2; omega))).trans f_u12
    replace h_u0 := (World.cell?_of_block (a := ⟨w7.heap.size, 0, none⟩) (oG.block w7.heap.size (by omega) (fun h => by have h1 := h.1; have h2 := h.2; omega))).trans h_u0
    replace h_u1 := (World.cell?_of_block (a := ⟨w7.heap.size, 1, none⟩) (oG.block w7.heap.size (by omega) (fun h => by have h1 := h.1; have h2 := h.2; omega))).trans h_u1
    replace h_u2 := (World.cell?_of_block (a := ⟨w7.heap.size, 2, none⟩) (oG.block w7.heap.size (by omega) (fun h => by have h1 := h.1; have h2 := h.2; omega))).trans h_u2
    replace h_u3 := (World.cell?_of_block (a := ⟨w7.heap.size, 3, none⟩) (oG.block w7.heap.size (by omega) (fun h => by have h1 := h.1; have h2 := h.2; omega))).trans h_u3
    replace h_u4 := (World.cell?_of_block (a := ⟨w7.heap.size, 4, none⟩) (oG.block w7.heap.size (by omega) (fun h => by have h1 := h.1; have h2 := h.2; omega))).trans h_u4
    replace h_u5 := (World.cell?_of_block (a := ⟨w7.heap.size, 5, none⟩) (oG.block w7.heap.size (by omega) (fun h => by have h1 := h.1; have h2 := h.2; omega))).trans h_u5
    replace h_u6 := (World.cell?_of_block (a := ⟨w7.heap.size, 6, none⟩) (oG.block w7.heap.size (by omega) (fun h => by have h1 := h.1; have h2 := h.2; omega))).trans h_u6
    replace h_u7 := (World.cell?_of_block (a := ⟨w7.heap.size, 7, none⟩) (oG.block w7.heap.size (by omega) (fun h => by have h1 := h.1; have h2 := h.2; omega))).trans h_u7
    replace h_u8 := (World.cell?_of_block (a := ⟨w7.heap.size, 8, none⟩) (oG.block w7.heap.size (by omega) (fun h => by have h1 := h.1; have h2 := h.2; omega))).trans h_u8
    replace h_u9 := (World.cell?_of_block (a := ⟨w7.heap.size, 9, none⟩) (oG.block w7.heap.size (by omega) (fun h => by have h1 := h.1; have h2 := h.2; omega))).trans h_u9
    replace h_u10 := (World.cell?_of_block (a := ⟨w7.heap.size, 10, none⟩) (oG.block w7.heap.size (by omega) (fun h => by have h1 := h.1; have h2 := h.2; omega))).trans h_u10
    replace h_u11 := (World.cell?_of_block (a := ⟨w7.heap.size, 11, none⟩) (oG.block w7.heap.size (by omega) (fun h => by have h1 := h.1; have h2 := h.2; omega))).trans h_u11
    replace h_u12 := (World.cell?_of_block (a := ⟨w7.heap.size, 12, none⟩) (oG.block w7.heap.size (by omega) (fun h => by have h1 := h.1; have h2 := h.2; omega))).trans h_u12
    go_wp2_with fail
    refine (hdTrail_any V _ 1 1 (In w5.heap.size w7.heap.size) w15 (fun b hb => In.lt hb (by omega)) M0 rfl (by decide) HVN.out).mono ?_
    rintro e w16 ⟨rfl, hbw16⟩
    have qw16 : Below w1.heap.size w1 w16 := qw15.trans (hbw16.mono qw15.size)
    have zw16 := hbw16.size
    replace f_u0 := (hbw16.cell (p := ⟨w3.heap.size, 0, none⟩) (by show w3.heap.size < _; omega)).trans f_u0
    replace f_u1 := (hbw16.cell (p := ⟨w3.heap.size, 1, none⟩) (by show w3.heap.size < _; omega)).trans f_u1
    replace f_u2 := (hbw16.cell (p := ⟨w3.heap.size, 2, none⟩) (by show w3.heap.size < _; omega)).trans f_u2
    replace f_u3 := (hbw16.cell (p := ⟨w3.heap.size, 3, none⟩) (by show w3.heap.size < _; omega)).trans f_u3
    replace f_u4 := (hbw16.cell (p := ⟨w3.heap.size, 4, none⟩) (by show w3.heap.size < _; omega)).trans f_u4
    replace f_u5 := (hbw16.cell (p := ⟨w3.heap.size, 5, none⟩) (by show w3.heap.size < _; omega)).trans f_u5
    replace f_u6 := (hbw16.cell (p := ⟨w3.heap.size, 6, none⟩) (by show w3.heap.size < _; omega)).trans f_u6
    replace f_u7 := (hbw16.cell (p := ⟨w3.heap.size, 7, none⟩) (by show w3.heap.size < _; omega)).trans f_u7
    replace f_u8 := (hbw16.cell (p := ⟨w3.heap.size, 8, none⟩) (by show w3.heap.size < _; omega)).trans f_u8
    replace f_u9 := (hbw16.cell (p := ⟨w3.heap.size, 9, none⟩) (by show w3.heap.size < _; omega)).trans f_u9
    replace f_u10 := (hbw16.cell (p := ⟨w3.heap.size, 10, none⟩) (by show w3.heap.size < _; omega)).trans f_u10
    replace f_u11 := (hbw16.cell (p := ⟨w3.heap.size, 11, none⟩) (by show w3.heap.size < _; omega)).trans f_u11
    replace f_u12 := (hbw16.cell (p := ⟨w3.heap.size, 12, none⟩) (by show w3.heap.size < _; omega)).trans f_u12
    replace h_u0 := (hbw16.cell (p := ⟨w7.heap.size, 0, none⟩) (by show w7.heap.size < _; omega)).trans h_u0
    replace h_u1 := (hbw16.cell (p := ⟨w7.heap.size, 1, none⟩) (by show w7.heap.size < _; omega)).trans h_u1
    replace h_u2 := (hbw16.cell (p := ⟨w7.heap.size, 2, none⟩) (by show w7.heap.size < _; omega)).trans h_u2
    replace h_u3 := (hbw16.cell (p := ⟨w7.heap.size, 3, none⟩) (by show w7.heap.size < _; omega)).trans h_u3
    replace h_u4 := (hbw16.cell (p := ⟨w7.heap.size, 4, none⟩) (by show w7.heap.size < _; omega)).trans h_u4
    replace h_u5 := (hbw16.cell (p := ⟨w7.heap.size, 5, none⟩) (by show w7.heap.size < _; omega)).trans h_u5
    replace h_u6 := (hbw16.cell (p := ⟨w7.heap.size, 6, none⟩) (by show w7.heap.size < _; omega)).trans h_u6
    replace h_u7 := (hbw16.cell (p := ⟨w7.heap.size, 7, none⟩) (by show w7.heap.size < _; omega)).trans h_u7
    replace h_u8 := (hbw16.cell (p := ⟨w7.heap.size, 8, none⟩) (by show w7.heap.size < _; omega)).trans h_u8
    replace h_u9 := (hbw16.cell (p := ⟨w7.heap.size, 9, none⟩) (by show w7.heap.size < _; omega)).trans h_u9
    replace h_u10 := (hbw16.cell (p := ⟨w7.heap.size, 10, none⟩) (by show w7.heap.size < _; omega)).trans h_u10
    replace h_u11 := (hbw16.cell (p := ⟨w7.heap.size, 11, none⟩) (by show w7.heap.size < _; omega)).trans h_u11
    replace h_u12 := (hbw16.cell (p := ⟨w7.heap.size, 12, none⟩) (by show w7.heap.size < _; omega)).trans h_u12
    replace P0 := TrailOwn_keeps.below (fun b hb => In.lt hb (by omega)) hbw16 P0
    replace M0 := TrailOwn_keeps.below (fun b hb => In.lt hb (by omega)) hbw16 M0
    go_wp2_with fail
    refine (HTO.out _ qw16).mono ?_
    rintro e w17 ⟨⟨Ya, Yc, rfl, Y⟩, hbw17⟩
    have qw17 : Below w1.heap.size w1 w17 := qw16.trans (hbw17.mono qw16.size)
    have zw17 := hbw17.size
    replace f_u0 := (hbw17.cell (p := ⟨w3.heap.size, 0, none⟩) (by show w3.heap.size < _; omega)).trans f_u0
    replace f_u1 := (hbw17.cell (p := ⟨w3.heap.size, 1, none⟩) (by show w3.heap.size < _; omega)).trans f_u1
    replace f_u2 := (hbw17.cell (p := ⟨w3.heap.size, 2, none⟩) (by show w3.heap.size < _; omega)).trans f_u2
    replace f_u3 := (hbw17.cell (p := ⟨w3.heap.size, 3, none⟩) (by show w3.heap.size < _; omega)).trans f_u3
    replace f_u4 := (hbw17.cell (p := ⟨w3.heap.size, 4, none⟩) (by show w3.heap.size < _; omega)).trans f_u4
    replace f_u5 := (hbw17.cell (p := ⟨w3.heap.size, 5, none⟩) (by show w3.heap.size < _; omega)).trans f_u5
    replace f_u6 := (hbw17.cell (p := ⟨w3.heap.size, 6, none⟩) (by show w3.heap.size < _; omega)).trans f_u6
    replace f_u7 := (hbw17.cell (p := ⟨w3.heap.size, 7, none⟩) (by show w3.heap.size < _; omega)).trans f_u7
    replace f_u8 := (hbw17.cell (p := ⟨w3.heap.size, 8, none⟩) (by show w3.heap.size < _; omega)).trans f_u8
    replace f_u9 := (hbw17.cell (p := ⟨w3.heap.size, 9, none⟩) (by show w3.heap.size < _; omega)).trans f_u9
    replace f_u10 := (hbw17.cell (p := ⟨w3.heap.size, 10, none⟩) (by show w3.heap.size < _; omega)).trans f_u10
    replace f_u11 := (hbw17.cell (p := ⟨w3.heap.size, 11, none⟩) (by show w3.heap.size < _; omega)).trans f_u11
    replace f_u12 := (hbw17.cell (p := ⟨w3.heap.size, 12, none⟩) (by show w3.heap.size < _; omega)).trans f_u12
    replace h_u0 := (hbw17.cell (p := ⟨w7.heap.size, 0, none⟩) (by show w7.heap.size < _; omega)).trans h_u0
    replace h_u1 := (hbw17.cell (p := ⟨w7.heap.size, 1, none⟩) (by show w7.heap.size < _; omega)).trans h_u1
    replace h_u2 := (hbw17.cell (p := ⟨w7.heap.size, 2, none⟩) (by show w7.heap.size < _; omega)).trans h_u2
    replace h_u3 := (hbw17.cell (p := ⟨w7.heap.size, 3, none⟩) (by show w7.heap.size < _; omega)).trans h_u3
    replace h_u4 := (hbw17.cell (p := ⟨w7.heap.size, 4, none⟩) (by show w7.heap.size < _; omega)).trans h_u4
    replace h_u5 := (hbw17.cell (p := ⟨w7.heap.size, 5, none⟩) (by show w7.heap.size < _; omega)).trans h_u5
    replace h_u6 := (hbw17.cell (p := ⟨w7.heap.size, 6, none⟩) (by show w7.heap.size < _; omega)).trans h_u6
    replace h_u7 := (hbw17.cell (p := ⟨w7.heap.size, 7, none⟩) (by show w7.heap.size < _; omega)).trans h_u7
    replace h_u8 := (hbw17.cell (p := ⟨w7.heap.size, 8, none⟩) (by show w7.heap.size < _; omega)).trans h_u8
    replace h_u9 := (hbw17.cell (p := ⟨w7.heap.size, 9, none⟩) (by show w7.heap.size < _; omega)).trans h_u9
    replace h_u10 := (hbw17.cell (p := ⟨w7.heap.size, 10, none⟩) (by show w7.heap.size < _; omega)).trans h_u10
    replace h_u11 := (hbw17.cell (p := ⟨w7.heap.size, 11, none⟩) (by show w7.heap.size < _; omega)).trans h_u11
    replace h_u12 := (hbw17.cell (p := ⟨w7.heap.size, 12, none⟩) (by show w7.heap.size < _; omega)).trans h_u12
    replace P0 := TrailOwn_keeps.below (fun b hb => In.lt hb (by omega)) hbw17 P0
    replace M0 := TrailOwn_keeps.below (fun b hb => In.lt hb (by omega)) hbw17 M0
    go_wp2_with fail
    refine (HI.out _ _ _ (at0 ProtoOwn_lies (Nat.le_refl _) Y)).mono ?_
    rintro e w18 ⟨⟨K0s, rfl, K0⟩, hbw18⟩
    have qw18 : Below w1.heap.size w1 w18 := qw17.trans (hbw18.mono qw17.size)
    have zw18 := hbw18.size
    clear Y
    replace f_u0 := (hbw18.cell (p := ⟨w3.heap.size, 0, none⟩) (by show w3.heap.size < _; omega)).trans f_u0
    replace f_u1 := (hbw18.cell (p := ⟨w3.heap.size, 1, none⟩) (by show w3.heap.size < _; omega)).trans f_u1
    replace f_u2 := (hbw18.cell (p := ⟨w3.heap.size, 2, none⟩) (by show w3.heap.size < _; omega)).trans f_u2
    replace f_u3 := (hbw18.cell (p := ⟨w3.heap.size, 3, none⟩) (by show w3.heap.size < _; omega)).trans f_u3
    replace f_u4 := (hbw18.cell (p := ⟨w3.heap.size, 4, none⟩) (by show w3.heap.size < _; omega)).trans f_u4
    replace f_u5 := (hbw18.cell (p := ⟨w3.heap.size, 5, none⟩) (by show w3.heap.size < _; omega)).trans f_u5
    replace f_u6 := (hbw18.cell (p := ⟨w3.heap.size, 6, none⟩) (by show w3.heap.size < _; omega)).trans f_u6
    replace f_u7 := (hbw18.cell (p := ⟨w3.heap.size, 7, none⟩) (by show w3.heap.size < _; omega)).trans f_u7
    replace f_u8 := (hbw18.cell (p := ⟨w3.heap.size, 8, none⟩) (by show w3.heap.size < _; omega)).trans f_u8
    replace f_u9 := (hbw18.cell (p := ⟨w3.heap.size, 9, none⟩) (by show w3.heap.size < _; omega)).trans f_u9
    replace f_u10 := (hbw18.cell (p := ⟨w3.heap.size, 10, none⟩) (by show w3.heap.size < _; omega)).trans f_u10
    replace f_u11 := (hbw18.cell (p := ⟨w3.heap.size, 11, none⟩) (by show w3.heap.size < _; omega)).trans f_u11
    replace f_u12 := (hbw18.cell (p := ⟨w3.heap.size, 12, none⟩) (by show w3.heap.size < _; omega)).trans f_u12
    replace h_u0 := (hbw18.cell (p := ⟨w7.heap.size, 0, none⟩) (by show w7.heap.size < _; omega)).trans h_u0
    replace h_u1 := (hbw18.cell (p := ⟨w7.heap.size, 1, none⟩) (by show w7.heap.size < _; omega)).trans h_u1
    replace h_u2 := (hbw18.cell (p := ⟨w7.heap.size, 2, none⟩) (by show w7.heap.size < _; omega)).trans h_u2
    replace h_u3 := (hbw18.cell (p := ⟨w7.heap.size, 3, none⟩) (by show w7.heap.size < _; omega)).trans h_u3
    replace h_u4 := (hbw18.cell (p := ⟨w7.heap.size, 4, none⟩) (by show w7.heap.size < _; omega)).trans h_u4
    replace h_u5 := (hbw18.cell (p := ⟨w7.heap.size, 5, none⟩) (by show w7.heap.size < _; omega)).trans h_u5
    replace h_u6 := (hbw18.cell (p := ⟨w7.heap.size, 6, none⟩) (by show w7.heap.size < _; omega)).trans h_u6
    replace h_u7 := (hbw18.cell (p := ⟨w7.heap.size, 7, none⟩) (by show w7.heap.size < _; omega)).trans h_u7
    replace h_u8 := (hbw18.cell (p := ⟨w7.heap.size, 8, none⟩) (by show w7.heap.size < _; omega)).trans h_u8
    replace h_u9 := (hbw18.cell (p := ⟨w7.heap.size, 9, none⟩) (by show w7.heap.size < _; omega)).trans h_u9
    replace h_u10 := (hbw18.cell (p := ⟨w7.heap.size, 10, none⟩) (by show w7.heap.size < _; omega)).trans h_u10
    replace h_u11 := (hbw18.cell (p := ⟨w7.heap.size, 11, none⟩) (by show w7.heap.size < _; omega)).trans h_u11
    replace h_u12 := (hbw18.cell (p := ⟨w7.heap.size, 12, none⟩) (by show w7.heap.size < _; omega)).trans h_u12
    replace P0 := TrailOwn_keeps.below (fun b hb => In.lt hb (by omega)) hbw18 P0
    replace M0 := TrailOwn_keeps.below (fun b hb => In.lt hb (by omega)) hbw18 M0
    have K0o := K0
    obtain ⟨_, _, _, k_a_code, k_c_code, k_a_marks, k_c_marks, k_a_now_heap_tables, k_c_now_heap_tables, k_a_now_heap_cells, k_c_now_heap_cells, k_a_now_funs, k_c_now_funs, k_a_now_frames, k_c_now_frames, k_a_now_out, k_c_now_out, rfl, k_l_code, k_r_code, k_l_marks, k_r_marks, k_r_now⟩ := K0o
    clear k_l_code k_r_code k_l_marks k_r_marks k_r_now
    have al_f_u0 : ∀ O : Obj, (w18.alloc O).cell? ⟨w3.heap.size, 0, none⟩ = some (.slice f_a_code V.code.length f_c_code) := fun O => ((bel_alloc w18 O).cell (p := ⟨w3.heap.size, 0, none⟩) (by show w3.heap.size < _; omega)).trans f_u0
    have al_f_u1 : ∀ O : Obj, (w18.alloc O).cell? ⟨w3.heap.size, 1, none⟩ = some (.int .i64 V.every) := fun O => ((bel_alloc w18 O).cell (p := ⟨w3.heap.size, 1, none⟩) (by show w3.heap.size < _; omega)).trans f_u1
    have al_f_u2 : ∀ O : Obj, (w18.alloc O).cell? ⟨w3.heap.size, 2, none⟩ = some (.slice f_a_marks V.marks.length f_c_marks) := fun O => ((bel_alloc w18 O).cell (p := ⟨w3.heap.size, 2, none⟩) (by show w3.heap.size < _; omega)).trans f_u2
    have al_f_u3 : ∀ O : Obj, (w18.alloc O).cell? ⟨w3.heap.size, 3, none⟩ = some (.slice f_a_now_heap_tables V.now.heap.tables.length f_c_now_heap_tables) := fun O => ((bel_alloc w18 O).cell (p := ⟨w3.heap.size, 3, none⟩) (by show w3.heap.size < _; omega)).trans f_u3
    have al_f_u4 : ∀ O : Obj, (w18.alloc O).cell? ⟨w3.heap.size, 4, none⟩ = some (.slice f_a_now_heap_cells V.now.heap.cells.length f_c_now_heap_cells) := fun O => ((bel_alloc w18 O).cell (p := ⟨w3.heap.size, 4, none⟩) (by show w3.heap.size < _; omega)).trans f_u4
    have al_f_u5 : ∀ O : Obj, (w18.alloc O).cell? ⟨w3.heap.size, 5, none⟩ = some (.slice f_a_now_funs V.now.funs.length f_c_now_funs) := fun O => ((bel_alloc w18 O).cell (p := ⟨w3.heap.size, 5, none⟩) (by show w3.heap.size < _; omega)).trans f_u5
    have al_f_u6 : ∀ O : Obj, (w18.alloc O).cell? ⟨w3.heap.size, 6, none⟩ = some (.slice f_a_now_frames V.now.frames.length f_c_now_frames) := fun O => ((bel_alloc w18 O).cell (p := ⟨w3.heap.size, 6, none⟩) (by show w3.heap.size < _; omega)).trans f_u6
    have al_f_u7 : ∀ O : Obj, (w18.alloc O).cell? ⟨w3.heap.size, 7, none⟩ = some (.slice f_a_now_out V.now.out.length f_c_now_out) := fun O => ((bel_alloc w18 O).cell (p := ⟨w3.heap.size, 7, none⟩) (by show w3.heap.size < _; omega)).trans f_u7
    have al_f_u8 : ∀ O : Obj, (w18.alloc O).cell? ⟨w3.heap.size, 8, none⟩ = some (.int .i64 V.now.steps) := fun O => ((bel_alloc w18 O).cell (p := ⟨w3.heap.size, 8, none⟩) (by show w3.heap.size < _; omega)).trans f_u8
    have al_f_u9 : ∀ O : Obj, (w18.alloc O).cell? ⟨w3.heap.size, 9, none⟩ = some (.int .i64 V.now.kind) := fun O => ((bel_alloc w18 O).cell (p := ⟨w3.heap.size, 9, none⟩) (by show w3.heap.size < _; omega)).trans f_u9
    have al_f_u10 : ∀ O : Obj, (w18.alloc O).cell? ⟨w3.heap.size, 10, none⟩ = some (.int .i64 V.now.value.k) := fun O => ((bel_alloc w18 O).cell (p := ⟨w3.heap.size, 10, none⟩) (by show w3.heap.size < _; omega)).trans f_u10
    have al_f_u11 : ∀ O : Obj, (w18.alloc O).cell? ⟨w3.heap.size, 11, none⟩ = some (.int .i64 V.now.value.n) := fun O => ((bel_alloc w18 O).cell (p := ⟨w3.heap.size, 11, none⟩) (by show w3.heap.size < _; omega)).trans f_u11
    have al_f_u12 : ∀ O : Obj, (w18.alloc O).cell? ⟨w3.heap.size, 12, none⟩ = some (.string V.now.value.s) := fun O => ((bel_alloc w18 O).cell (p := ⟨w3.heap.size, 12, none⟩) (by show w3.heap.size < _; omega)).trans f_u12
    have al_h_u0 : ∀ O : Obj, (w18.alloc O).cell? ⟨w7.heap.size, 0, none⟩ = some (.slice h_a_code V.code.length h_c_code) := fun O => ((bel_alloc w18 O).cell (p := ⟨w7.heap.size, 0, none⟩) (by show w7.heap.size < _; omega)).trans h_u0
    have al_h_u1 : ∀ O : Obj, (w18.alloc O).cell? ⟨w7.heap.size, 1, none⟩ = some (.int .i64 V.every) := fun O => ((bel_alloc w18 O).cell (p := ⟨w7.heap.size, 1, none⟩) (by show w7.heap.size < _; omega)).trans h_u1
    have al_h_u2 : ∀ O : Obj, (w18.alloc O).cell? ⟨w7.heap.size, 2, none⟩ = some (.slice h_a_marks V.marks.length h_c_marks) := fun O => ((bel_alloc w18 O).cell (p := ⟨w7.heap.size, 2, none⟩) (by show w7.heap.size < _; omega)).trans h_u2
    have al_h_u3 : ∀ O : Obj, (w18.alloc O).cell? ⟨w7.heap.size, 3, none⟩ = some (.slice h_a_now_heap_tables V.now.heap.tables.length h_c_now_heap_tables) := fun O => ((bel_alloc w18 O).cell (p := ⟨w7.heap.size, 3, none⟩) (by show w7.heap.size < _; omega)).trans h_u3
    have al_h_u4 : ∀ O : Obj, (w18.alloc O).cell? ⟨w7.heap.size, 4, none⟩ = some (.slice h_a_now_heap_cells V.now.heap.cells.length h_c_now_heap_cells) := fun O => ((bel_alloc w18 O).cell (p := ⟨w7.heap.size, 4, none⟩) (by show w7.heap.size < _; omega)).trans h_u4
    have al_h_u5 : ∀ O : Obj, (w18.alloc O).cell? ⟨w7.heap.size, 5, none⟩ = some (.slice h_a_now_funs V.now.funs.length h_c_now_funs) := fun O => ((bel_alloc w18 O).cell (p := ⟨w7.heap.size, 5, none⟩) (by show w7.heap.size < _; omega)).trans h_u5
    have al_h_u6 : ∀ O : Obj, (w18.alloc O).cell? ⟨w7.heap.size, 6, none⟩ = some (.slice h_a_now_frames V.now.frames.length h_c_now_frames) := fun O => ((bel_alloc w18 O).cell (p := ⟨w7.heap.size, 6, none⟩) (by show w7.heap.size < _; omega)).trans h_u6
    have al_h_u7 : ∀ O : Obj, (w18.alloc O).cell? ⟨w7.heap.size, 7, none⟩ = some (.slice h_a_now_out V.now.out.length h_c_now_out) := fun O => ((bel_alloc w18 O).cell (p := ⟨w7.heap.size, 7, none⟩) (by show w7.heap.size < _; omega)).trans h_u7
    have al_h_u8 : ∀ O : Obj, (w18.alloc O).cell? ⟨w7.heap.size, 8, none⟩ = some (.int .i64 V.now.steps) := fun O => ((bel_alloc w18 O).cell (p := ⟨w7.heap.size, 8, none⟩) (by show w7.heap.size < _; omega)).trans h_u8
    have al_h_u9 : ∀ O : Obj, (w18.alloc O).cell? ⟨w7.heap.size, 9, none⟩ = some (.int .i64 V.now.kind) := fun O => ((bel_alloc w18 O).cell (p := ⟨w7.heap.size, 9, none⟩) (by show w7.heap.size < _; omega)).trans h_u9
    have al_h_u10 : ∀ O : Obj, (w18.alloc O).cell? ⟨w7.heap.size, 10, none⟩ = some (.int .i64 V.now.value.k) := fun O => ((bel_alloc w18 O).cell (p := ⟨w7.heap.size, 10, none⟩) (by show w7.heap.size < _; omega)).trans h_u10
    have al_h_u11 : ∀ O : Obj, (w18.alloc O).cell? ⟨w7.heap.size, 11, none⟩ = some (.int .i64 V.now.value.n) := fun O => ((bel_alloc w18 O).cell (p := ⟨w7.heap.size, 11, none⟩) (by show w7.heap.size < _; omega)).trans h_u11
    have al_h_u12 : ∀ O : Obj, (w18.alloc O).cell? ⟨w7.heap.size, 12, none⟩ = some (.string V.now.value.s) := fun O => ((bel_alloc w18 O).cell (p := ⟨w7.heap.size, 12, none⟩) (by show w7.heap.size < _; omega)).trans h_u12
    go_wp2_with fail
    clear al_f_u0 al_f_u1 al_f_u2 al_f_u3 al_f_u4 al_f_u5 al_f_u6 al_f_u7 al_f_u8 al_f_u9 al_f_u10 al_f_u11 al_f_u12 al_h_u0 al_h_u1 al_h_u2 al_h_u3 al_h_u4 al_h_u5 al_h_u6 al_h_u7 al_h_u8 al_h_u9 al_h_u10 al_h_u11 al_h_u12
    obtain ⟨W19, hW19⟩ : ∃ W, W = w18.alloc (Obj.cells #[.slice k_a_code V.code.length k_c_code, .int .i64 V.every, .slice k_a_marks V.marks.length k_c_marks, .slice k_a_now_heap_tables V.now.heap.tables.length k_c_now_heap_tables, .slice k_a_now_heap_cells V.now.heap.cells.length k_c_now_heap_cells, .slice k_a_now_funs V.now.funs.length k_c_now_funs, .slice k_a_now_frames V.now.frames.length k_c_now_frames, .slice k_a_now_out V.now.out.length k_c_now_out, .int .i64 V.now.steps, .int .i64 V.now.kind, .int .i64 V.now.value.k, .int .i64 V.now.value.n, .string V.now.value.s] 51) := ⟨_, rfl⟩
    rw [← hW19]
    have hbW19 : Below w18.heap.size w18 W19 := by rw [hW19]; exact bel_alloc _ _
    have rV : W19.heap[w18.heap.size]? = some (Obj.cells #[.slice k_a_code V.code.length k_c_code, .int .i64 V.every, .slice k_a_marks V.marks.length k_c_marks, .slice k_a_now_heap_tables V.now.heap.tables.length k_c_now_heap_tables, .slice k_a_now_heap_cells V.now.heap.cells.length k_c_now_heap_cells, .slice k_a_now_funs V.now.funs.length k_c_now_funs, .slice k_a_now_frames V.now.frames.length k_c_now_frames, .slice k_a_now_out V.now.out.length k_c_now_out, .int .i64 V.now.steps, .int .i64 V.now.kind, .int .i64 V.now.value.k, .int .i64 V.now.value.n, .string V.now.value.s] 51) := by rw [hW19]; exact heap_alloc_new _ _
    have zW19 : W19.heap.size = w18.heap.size + 1 := by rw [hW19]; simp
    clear hW19
    have qW19 : Below w1.heap.size w1 W19 := qw18.trans (hbW19.mono qw18.size)
    replace f_u0 := (hbW19.cell (p := ⟨w3.heap.size, 0, none⟩) (by show w3.heap.size < _; omega)).trans f_u0
    replace f_u1 := (hbW19.cell (p := ⟨w3.heap.size, 1, none⟩) (by show w3.heap.size < _; omega)).trans f_u1
    replace f_u2 := (hbW19.cell (p := ⟨w3.heap.size, 2, none⟩) (by show w3.heap.size < _; omega)).trans f_u2
    replace f_u3 := (hbW19.cell (p := ⟨w3.heap.size, 3, none⟩) (by show w3.heap.size < _; omega)).trans f_u3
    replace f_u4 := (hbW19.cell (p := ⟨w3.heap.size, 4, none⟩) (by show w3.heap.size < _; omega)).trans f_u4
    replace f_u5 := (hbW19.cell (p := ⟨w3.heap.size, 5, none⟩) (by show w3.heap.size < _; omega)).trans f_u5
    replace f_u6 := (hbW19.cell (p := ⟨w3.heap.size, 6, none⟩) (by show w3.heap.size < _; omega)).trans f_u6
    replace f_u7 := (hbW19.cell (p := ⟨w3.heap.size, 7, none⟩) (by show w3.heap.size < _; omega)).trans f_u7
    replace f_u8 := (hbW19.cell (p := ⟨w3.heap.size, 8, none⟩) (by show w3.heap.size < _; omega)).trans f_u8
    replace f_u9 := (hbW19.cell (p := ⟨w3.heap.size, 9, none⟩) (by show w3.heap.size < _; omega)).trans f_u9
    replace f_u10 := (hbW19.cell (p := ⟨w3.heap.size, 10, none⟩) (by show w3.heap.size < _; omega)).trans f_u10
    replace f_u11 := (hbW19.cell (p := ⟨w3.heap.size, 11, none⟩) (by show w3.heap.size < _; omega)).trans f_u11
    replace f_u12 := (hbW19.cell (p := ⟨w3.heap.size, 12, none⟩) (by show w3.heap.size < _; omega)).trans f_u12
    replace h_u0 := (hbW19.cell (p := ⟨w7.heap.size, 0, none⟩) (by show w7.heap.size < _; omega)).trans h_u0
    replace h_u1 := (hbW19.cell (p := ⟨w7.heap.size, 1, none⟩) (by show w7.heap.size < _; omega)).trans h_u1
    replace h_u2 := (hbW19.cell (p := ⟨w7.heap.size, 2, none⟩) (by show w7.heap.size < _; omega)).trans h_u2
    replace h_u3 := (hbW19.cell (p := ⟨w7.heap.size, 3, none⟩) (by show w7.heap.size < _; omega)).trans h_u3
    replace h_u4 := (hbW19.cell (p := ⟨w7.heap.size, 4, none⟩) (by show w7.heap.size < _; omega)).trans h_u4
    replace h_u5 := (hbW19.cell (p := ⟨w7.heap.size, 5, none⟩) (by show w7.heap.size < _; omega)).trans h_u5
    replace h_u6 := (hbW19.cell (p := ⟨w7.heap.size, 6, none⟩) (by show w7.heap.size < _; omega)).trans h_u6
    replace h_u7 := (hbW19.cell (p := ⟨w7.heap.size, 7, none⟩) (by show w7.heap.size < _; omega)).trans h_u7
    replace h_u8 := (hbW19.cell (p := ⟨w7.heap.size, 8, none⟩) (by show w7.heap.size < _; omega)).trans h_u8
    replace h_u9 := (hbW19.cell (p := ⟨w7.heap.size, 9, none⟩) (by show w7.heap.size < _; omega)).trans h_u9
    replace h_u10 := (hbW19.cell (p := ⟨w7.heap.size, 10, none⟩) (by show w7.heap.size < _; omega)).trans h_u10
    replace h_u11 := (hbW19.cell (p := ⟨w7.heap.size, 11, none⟩) (by show w7.heap.size < _; omega)).trans h_u11
    replace h_u12 := (hbW19.cell (p := ⟨w7.heap.size, 12, none⟩) (by show w7.heap.size < _; omega)).trans h_u12
    replace P0 := TrailOwn_keeps.below (fun b hb => In.lt hb (by omega)) hbW19 P0
    replace M0 := TrailOwn_keeps.below (fun b hb => In.lt hb (by omega)) hbW19 M0
    replace K0 := TrailOwn_keeps.below (fun b hb => In.lt hb (by omega)) hbW19 K0
    have k_u0 := cell_of_row _ _ 0 _ _ _ rV
    have k_u1 := cell_of_row _ _ 1 _ _ _ rV
    have k_u2 := cell_of_row _ _ 2 _ _ _ rV
    have k_u3 := cell_of_row _ _ 3 _ _ _ rV
    have k_u4 := cell_of_row _ _ 4 _ _ _ rV
    have k_u5 := cell_of_row _ _ 5 _ _ _ rV
    have k_u6 := cell_of_row _ _ 6 _ _ _ rV
    have k_u7 := cell_of_row _ _ 7 _ _ _ rV
    have k_u8 := cell_of_row _ _ 8 _ _ _ rV
    have k_u9 := cell_of_row _ _ 9 _ _ _ rV
    have k_u10 := cell_of_row _ _ 10 _ _ _ rV
    have k_u11 := cell_of_row _ _ 11 _ _ _ rV
    have k_u12 := cell_of_row _ _ 12 _ _ _ rV
    simp only [List.getElem?_toArray, List.getElem?_cons_zero, List.getElem?_cons_succ] at k_u0 k_u1 k_u2 k_u3 k_u4 k_u5 k_u6 k_u7 k_u8 k_u9 k_u10 k_u11 k_u12
    clear rV
    go_wp2_with fail
    refine (eqTrail_same V _ _ 0 W19.heap.size 0 W19.heap.size W19 (Nat.le_refl _) (Nat.le_refl _) HVW.out (st0 TrailOwn_lies (by omega) K0) (st0 TrailOwn_lies (by omega) P0)).mono ?_
    rintro e w20 ⟨rfl, hbw20⟩
    have qw20 : Below w1.heap.size w1 w20 := qW19.trans (hbw20.mono qW19.size)
    have zw20 := hbw20.size
    replace f_u0 := (hbw20.cell (p := ⟨w3.heap.size, 0, none⟩) (by show w3.heap.size < _; omega)).trans f_u0
    replace f_u1 := (hbw20.cell (p := ⟨w3.heap.size, 1, none⟩) (by show w3.heap.size < _; omega)).trans f_u1
    replace f_u2 := (hbw20.cell (p := ⟨w3.heap.size, 2, none⟩) (by show w3.heap.size < _; omega)).trans f_u2
    replace f_u3 := (hbw20.cell (p := ⟨w3.heap.size, 3, none⟩) (by show w3.heap.size < _; omega)).trans f_u3
    replace f_u4 := (hbw20.cell (p := ⟨w3.heap.size, 4, none⟩) (by show w3.heap.size < _; omega)).trans f_u4
    replace f_u5 := (hbw20.cell (p := ⟨w3.heap.size, 5, none⟩) (by show w3.heap.size < _; omega)).trans f_u5
    replace f_u6 := (hbw20.cell (p := ⟨w3.heap.size, 6, none⟩) (by show w3.heap.size < _; omega)).trans f_u6
    replace f_u7 := (hbw20.cell (p := ⟨w3.heap.size, 7, none⟩) (by show w3.heap.size < _; omega)).trans f_u7
    replace f_u8 := (hbw20.cell (p := ⟨w3.heap.size, 8, none⟩) (by show w3.heap.size < _; omega)).trans f_u8
    replace f_u9 := (hbw20.cell (p := ⟨w3.heap.size, 9, none⟩) (by show w3.heap.size < _; omega)).trans f_u9
    replace f_u10 := (hbw20.cell (p := ⟨w3.heap.size, 10, none⟩) (by show w3.heap.size < _; omega)).trans f_u10
    replace f_u11 := (hbw20.cell (p := ⟨w3.heap.size, 11, none⟩) (by show w3.heap.size < _; omega)).trans f_u11
    replace f_u12 := (hbw20.cell (p := ⟨w3.heap.size, 12, none⟩) (by show w3.heap.size < _; omega)).trans f_u12
    replace h_u0 := (hbw20.cell (p := ⟨w7.heap.size, 0, none⟩) (by show w7.heap.size < _; omega)).trans h_u0
    replace h_u1 := (hbw20.cell (p := ⟨w7.heap.size, 1, none⟩) (by show w7.heap.size < _; omega)).trans h_u1
    replace h_u2 := (hbw20.cell (p := ⟨w7.heap.size, 2, none⟩) (by show w7.heap.size < _; omega)).trans h_u2
    replace h_u3 := (hbw20.cell (p := ⟨w7.heap.size, 3, none⟩) (by show w7.heap.size < _; omega)).trans h_u3
    replace h_u4 := (hbw20.cell (p := ⟨w7.heap.size, 4, none⟩) (by show w7.heap.size < _; omega)).trans h_u4
    replace h_u5 := (hbw20.cell (p := ⟨w7.heap.size, 5, none⟩) (by show w7.heap.size < _; omega)).trans h_u5
    replace h_u6 := (hbw20.cell (p := ⟨w7.heap.size, 6, none⟩) (by show w7.heap.size < _; omega)).trans h_u6
    replace h_u7 := (hbw20.cell (p := ⟨w7.heap.size, 7, none⟩) (by show w7.heap.size < _; omega)).trans h_u7
    replace h_u8 := (hbw20.cell (p := ⟨w7.heap.size, 8, none⟩) (by show w7.heap.size < _; omega)).trans h_u8
    replace h_u9 := (hbw20.cell (p := ⟨w7.heap.size, 9, none⟩) (by show w7.heap.size < _; omega)).trans h_u9
    replace h_u10 := (hbw20.cell (p := ⟨w7.heap.size, 10, none⟩) (by show w7.heap.size < _; omega)).trans h_u10
    replace h_u11 := (hbw20.cell (p := ⟨w7.heap.size, 11, none⟩) (by show w7.heap.size < _; omega)).trans h_u11
    replace h_u12 := (hbw20.cell (p := ⟨w7.heap.size, 12, none⟩) (by show w7.heap.size < _; omega)).trans h_u12
    replace k_u0 := (hbw20.cell (p := ⟨w18.heap.size, 0, none⟩) (by show w18.heap.size < _; omega)).trans k_u0
    replace k_u1 := (hbw20.cell (p := ⟨w18.heap.size, 1, none⟩) (by show w18.heap.size < _; omega)).trans k_u1
    replace k_u2 := (hbw20.cell (p := ⟨w18.heap.size, 2, none⟩) (by show w18.heap.size < _; omega)).trans k_u2
    replace k_u3 := (hbw20.cell (p := ⟨w18.heap.size, 3, none⟩) (by show w18.heap.size < _; omega)).trans k_u3
    replace k_u4 := (hbw20.cell (p := ⟨w18.heap.size, 4, none⟩) (by show w18.heap.size < _; omega)).trans k_u4
    replace k_u5 := (hbw20.cell (p := ⟨w18.heap.size, 5, none⟩) (by show w18.heap.size < _; omega)).trans k_u5
    replace k_u6 := (hbw20.cell (p := ⟨w18.heap.size, 6, none⟩) (by show w18.heap.size < _; omega)).trans k_u6
    replace k_u7 := (hbw20.cell (p := ⟨w18.heap.size, 7, none⟩) (by show w18.heap.size < _; omega)).trans k_u7
    replace k_u8 := (hbw20.cell (p := ⟨w18.heap.size, 8, none⟩) (by show w18.heap.size < _; omega)).trans k_u8
    replace k_u9 := (hbw20.cell (p := ⟨w18.heap.size, 9, none⟩) (by show w18.heap.size < _; omega)).trans k_u9
    replace k_u10 := (hbw20.cell (p := ⟨w18.heap.size, 10, none⟩) (by show w18.heap.size < _; omega)).trans k_u10
    replace k_u11 := (hbw20.cell (p := ⟨w18.heap.size, 11, none⟩) (by show w18.heap.size < _; omega)).trans k_u11
    replace k_u12 := (hbw20.cell (p := ⟨w18.heap.size, 12, none⟩) (by show w18.heap.size < _; omega)).trans k_u12
    replace P0 := TrailOwn_keeps.below (fun b hb => In.lt hb (by omega)) hbw20 P0
    replace M0 := TrailOwn_keeps.below (fun b hb => In.lt hb (by omega)) hbw20 M0
    replace K0 := TrailOwn_keeps.below (fun b hb => In.lt hb (by omega)) hbw20 K0
    go_wp2_with fail
    refine (hdTrail_any V _ 1 1 (In w5.heap.size w7.heap.size) w20 (fun b hb => In.lt hb (by omega)) M0 rfl (by decide) HVN.out).mono ?_
    rintro e w21 ⟨rfl, hbw21⟩
    have qw21 : Below w1.heap.size w1 w21 := qw20.trans (hbw21.mono qw20.size)
    have zw21 := hbw21.size
    replace f_u0 := (hbw21.cell (p := ⟨w3.heap.size, 0, none⟩) (by show w3.heap.size < _; omega)).trans f_u0
    replace f_u1 := (hbw21.cell (p := ⟨w3.heap.size, 1, none⟩) (by show w3.heap.size < _; omega)).trans f_u1
    replace f_u2 := (hbw21.cell (p := ⟨w3.heap.size, 2, none⟩) (by show w3.heap.size < _; omega)).trans f_u2
    replace f_u3 := (hbw21.cell (p := ⟨w3.heap.size, 3, none⟩) (by show w3.heap.size < _; omega)).trans f_u3
    replace f_u4 := (hbw21.cell (p := ⟨w3.heap.size, 4, none⟩) (by show w3.heap.size < _; omega)).trans f_u4
    replace f_u5 := (hbw21.cell (p := ⟨w3.heap.size, 5, none⟩) (by show w3.heap.size < _; omega)).trans f_u5
    replace f_u6 := (hbw21.cell (p := ⟨w3.heap.size, 6, none⟩) (by show w3.heap.size < _; omega)).trans f_u6
    replace f_u7 := (hbw21.cell (p := ⟨w3.heap.size, 7, none⟩) (by show w3.heap.size < _; omega)).trans f_u7
    replace f_u8 := (hbw21.cell (p := ⟨w3.heap.size, 8, none⟩) (by show w3.heap.size < _; omega)).trans f_u8
    replace f_u9 := (hbw21.cell (p := ⟨w3.heap.size, 9, none⟩) (by show w3.heap.size < _; omega)).trans f_u9
    replace f_u10 := (hbw21.cell (p := ⟨w3.heap.size, 10, none⟩) (by show w3.heap.size < _; omega)).trans f_u10
    replace f_u11 := (hbw21.cell (p := ⟨w3.heap.size, 11, none⟩) (by show w3.heap.size < _; omega)).trans f_u11
    replace f_u12 := (hbw21.cell (p := ⟨w3.heap.size, 12, none⟩) (by show w3.heap.size < _; omega)).trans f_u12
    replace h_u0 := (hbw21.cell (p := ⟨w7.heap.size, 0, none⟩) (by show w7.heap.size < _; omega)).trans h_u0
    replace h_u1 := (hbw21.cell (p := ⟨w7.heap.size, 1, none⟩) (by show w7.heap.size < _; omega)).trans h_u1
    replace h_u2 := (hbw21.cell (p := ⟨w7.heap.size, 2, none⟩) (by show w7.heap.size < _; omega)).trans h_u2
    replace h_u3 := (hbw21.cell (p := ⟨w7.heap.size, 3, none⟩) (by show w7.heap.size < _; omega)).trans h_u3
    replace h_u4 := (hbw21.cell (p := ⟨w7.heap.size, 4, none⟩) (by show w7.heap.size < _; omega)).trans h_u4
    replace h_u5 := (hbw21.cell (p := ⟨w7.heap.size, 5, none⟩) (by show w7.heap.size < _; omega)).trans h_u5
    replace h_u6 := (hbw21.cell (p := ⟨w7.heap.size, 6, none⟩) (by show w7.heap.size < _; omega)).trans h_u6
    replace h_u7 := (hbw21.cell (p := ⟨w7.heap.size, 7, none⟩) (by show w7.heap.size < _; omega)).trans h_u7
    replace h_u8 := (hbw21.cell (p := ⟨w7.heap.size, 8, none⟩) (by show w7.heap.size < _; omega)).trans h_u8
    replace h_u9 := (hbw21.cell (p := ⟨w7.heap.size, 9, none⟩) (by show w7.heap.size < _; omega)).trans h_u9
    replace h_u10 := (hbw21.cell (p := ⟨w7.heap.size, 10, none⟩) (by show w7.heap.size < _; omega)).trans h_u10
    replace h_u11 := (hbw21.cell (p := ⟨w7.heap.size, 11, none⟩) (by show w7.heap.size < _; omega)).trans h_u11
    replace h_u12 := (hbw21.cell (p := ⟨w7.heap.size, 12, none⟩) (by show w7.heap.size < _; omega)).trans h_u12
    replace k_u0 := (hbw21.cell (p := ⟨w18.heap.size, 0, none⟩) (by show w18.heap.size < _; omega)).trans k_u0
    replace k_u1 := (hbw21.cell (p := ⟨w18.heap.size, 1, none⟩) (by show w18.heap.size < _; omega)).trans k_u1
    replace k_u2 := (hbw21.cell (p := ⟨w18.heap.size, 2, none⟩) (by show w18.heap.size < _; omega)).trans k_u2
    replace k_u3 := (hbw21.cell (p := ⟨w18.heap.size, 3, none⟩) (by show w18.heap.size < _; omega)).trans k_u3
    replace k_u4 := (hbw21.cell (p := ⟨w18.heap.size, 4, none⟩) (by show w18.heap.size < _; omega)).trans k_u4
    replace k_u5 := (hbw21.cell (p := ⟨w18.heap.size, 5, none⟩) (by show w18.heap.size < _; omega)).trans k_u5
    replace k_u6 := (hbw21.cell (p := ⟨w18.heap.size, 6, none⟩) (by show w18.heap.size < _; omega)).trans k_u6
    replace k_u7 := (hbw21.cell (p := ⟨w18.heap.size, 7, none⟩) (by show w18.heap.size < _; omega)).trans k_u7
    replace k_u8 := (hbw21.cell (p := ⟨w18.heap.size, 8, none⟩) (by show w18.heap.size < _; omega)).trans k_u8
    replace k_u9 := (hbw21.cell (p := ⟨w18.heap.size, 9, none⟩) (by show w18.heap.size < _; omega)).trans k_u9
    replace k_u10 := (hbw21.cell (p := ⟨w18.heap.size, 10, none⟩) (by show w18.heap.size < _; omega)).trans k_u10
    replace k_u11 := (hbw21.cell (p := ⟨w18.heap.size, 11, none⟩) (by show w18.heap.size < _; omega)).trans k_u11
    replace k_u12 := (hbw21.cell (p := ⟨w18.heap.size, 12, none⟩) (by show w18.heap.size < _; omega)).trans k_u12
    replace P0 := TrailOwn_keeps.below (fun b hb => In.lt hb (by omega)) hbw21 P0
    replace M0 := TrailOwn_keeps.below (fun b hb => In.lt hb (by omega)) hbw21 M0
    replace K0 := TrailOwn_keeps.below (fun b hb => In.lt hb (by omega)) hbw21 K0
    go_wp2_with fail
    go_ret
    exact ⟨rfl, HB1.out.trans (qw21.mono HB1.out.size)⟩
end Go.Proofs.Ytgibejgemokljaa
