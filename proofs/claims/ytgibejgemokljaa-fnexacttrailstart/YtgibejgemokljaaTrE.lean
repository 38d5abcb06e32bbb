/- Trails that are told alike are found alike. -/
import Derived.Test.YtgibejgemokljaaTrP
import Derived.Test.YtgibejgemokljaaVmE
import Derived.Test.YtgibejgemokljaaDatE
namespace Go.Proofs.Ytgibejgemokljaa
open Go.RowKit

set_option maxRecDepth 100000 in
set_option maxHeartbeats 1600000 in
theorem eqVmS_same (xs : List VmD) (a b : Option Addr) (ca cb lo hi lo' hi' : Nat) (w : World) (hh : hi ≤ w.heap.size) (hh' : hi' ≤ w.heap.size) (hw : wtR VmD.wt xs ≤ 2097152) (hS : RowAt 10 VmC w lo hi xs a) (hT : RowAt 10 VmC w lo' hi' xs b) :
    Calls Try.prog 63 #[.slice a xs.length ca, .slice b xs.length cb] w fun e w' => e = .returned (.bool true) ∧ Below w.heap.size w w' := by
  have hn := len_wtR VmD.wt xs
  go_enter Try.func63, Try.ntmps63
  go_wp2_with fail
  go_loopw [5] (fun x wr => ∃ i : Nat, x = .int .i64 i ∧ i ≤ xs.length ∧ Below w.heap.size w wr) (fun x _ => xs.length - (intOf x).toNat)
  case atStart => exact ⟨0, rfl, Nat.zero_le _, Below.refl _ _⟩
  case round =>
    obtain ⟨i, rfl, hil, hbl⟩ := hrel
    by_cases hlt : i < xs.length
    · obtain ⟨g, o, cx, rfl, _, hg, hC, _, hc⟩ := hS i hlt
      obtain ⟨g', o', cy, rfl, _, hg', hC', _, hc'⟩ := hT i hlt
      have hC1 := VmC_keeps.below hC hbl hh
      have hC2 := VmC_keeps.below hC' hbl hh'
      have hC3 := hC1
      have hC4 := hC2
      obtain ⟨ok, a_heap_tables, c_heap_tables, a_heap_cells, c_heap_cells, a_funs, c_funs, a_frames, c_frames, a_out, c_out, rfl, l_heap_tables, r_heap_tables, l_heap_cells, r_heap_cells, l_funs, r_funs, l_frames, r_frames, l_out, r_out⟩ := hC1
      obtain ⟨ok2, n_a_heap_tables, n_c_heap_tables, n_a_heap_cells, n_c_heap_cells, n_a_funs, n_c_funs, n_a_frames, n_c_frames, n_a_out, n_c_out, rfl, n_l_heap_tables, n_r_heap_tables, n_l_heap_cells, n_r_heap_cells, n_l_funs, n_r_funs, n_l_frames, n_r_frames, n_l_out, n_r_out⟩ := hC2
      have x0 := (hbl.cell (p := ⟨g, o + 10 * i + 0, none⟩) (by show g < _; omega)).trans (hc 0 (by decide))
      have y0 := (hbl.cell (p := ⟨g', o' + 10 * i + 0, none⟩) (by show g' < _; omega)).trans (hc' 0 (by decide))
      have x1 := (hbl.cell (p := ⟨g, o + 10 * i + 1, none⟩) (by show g < _; omega)).trans (hc 1 (by decide))
      have y1 := (hbl.cell (p := ⟨g', o' + 10 * i + 1, none⟩) (by show g' < _; omega)).trans (hc' 1 (by decide))
      have x2 := (hbl.cell (p := ⟨g, o + 10 * i + 2, none⟩) (by show g < _; omega)).trans (hc 2 (by decide))
      have y2 := (hbl.cell (p := ⟨g', o' + 10 * i + 2, none⟩) (by show g' < _; omega)).trans (hc' 2 (by decide))
      have x3 := (hbl.cell (p := ⟨g, o + 10 * i + 3, none⟩) (by show g < _; omega)).trans (hc 3 (by decide))
      have y3 := (hbl.cell (p := ⟨g', o' + 10 * i + 3, none⟩) (by show g' < _; omega)).trans (hc' 3 (by decide))
      have x4 := (hbl.cell (p := ⟨g, o + 10 * i + 4, none⟩) (by show g < _; omega)).trans (hc 4 (by decide))
      have y4 := (hbl.cell (p := ⟨g', o' + 10 * i + 4, none⟩) (by show g' < _; omega)).trans (hc' 4 (by decide))
      have x5 := (hbl.cell (p := ⟨g, o + 10 * i + 5, none⟩) (by show g < _; omega)).trans (hc 5 (by decide))
      have y5 := (hbl.cell (p := ⟨g', o' + 10 * i + 5, none⟩) (by show g' < _; omega)).trans (hc' 5 (by decide))
      have x6 := (hbl.cell (p := ⟨g, o + 10 * i + 6, none⟩) (by show g < _; omega)).trans (hc 6 (by decide))
      have y6 := (hbl.cell (p := ⟨g', o' + 10 * i + 6, none⟩) (by show g' < _; omega)).trans (hc' 6 (by decide))
      have x7 := (hbl.cell (p := ⟨g, o + 10 * i + 7, none⟩) (by show g < _; omega)).trans (hc 7 (by decide))
      have y7 := (hbl.cell (p := ⟨g', o' + 10 * i + 7, none⟩) (by show g' < _; omega)).trans (hc' 7 (by decide))
      have x8 := (hbl.cell (p := ⟨g, o + 10 * i + 8, none⟩) (by show g < _; omega)).trans (hc 8 (by decide))
      have y8 := (hbl.cell (p := ⟨g', o' + 10 * i + 8, none⟩) (by show g' < _; omega)).trans (hc' 8 (by decide))
      have x9 := (hbl.cell (p := ⟨g, o + 10 * i + 9, none⟩) (by show g < _; omega)).trans (hc 9 (by decide))
      have y9 := (hbl.cell (p := ⟨g', o' + 10 * i + 9, none⟩) (by show g' < _; omega)).trans (hc' 9 (by decide))
      simp only [List.getElem?_cons_zero, List.getElem?_cons_succ, Nat.add_zero] at x0 y0 x1 y1 x2 y2 x3 y3 x4 y4 x5 y5 x6 y6 x7 y7 x8 y8 x9 y9
      have mc : i * 10 = 10 * i := Nat.mul_comm _ _
      have hwm := wtR_mem VmD.wt xs i hlt
      have hszw := hbl.size
      have kx : g < wr.heap.size := by omega
      have ky : g' < wr.heap.size := by omega
      have HC : Hid (∀ W, Below wr.heap.size wr W → Calls Try.prog 11 #[.agg [.slice a_heap_tables xs[i].heap.tables.length c_heap_tables, .slice a_heap_cells xs[i].heap.cells.length c_heap_cells, .slice a_funs xs[i].funs.length c_funs, .slice a_frames xs[i].frames.length c_frames, .slice a_out xs[i].out.length c_out, .int .i64 xs[i].steps, .int .i64 xs[i].kind, .int .i64 xs[i].value.k, .int .i64 xs[i].value.n, .string xs[i].value.s].toArray, .agg [.slice n_a_heap_tables xs[i].heap.tables.length n_c_heap_tables, .slice n_a_heap_cells xs[i].heap.cells.length n_c_heap_cells, .slice n_a_funs xs[i].funs.length n_c_funs, .slice n_a_frames xs[i].frames.length n_c_frames, .slice n_a_out xs[i].out.length n_c_out, .int .i64 xs[i].steps, .int .i64 xs[i].kind, .int .i64 xs[i].value.k, .int .i64 xs[i].value.n, .string xs[i].value.s].toArray] W fun e w' => e = .returned (.bool true) ∧ Below W.heap.size W w') := fun W hW => eqVm_same xs[i] _ _ lo hi lo' hi' W (by have := hW.size; omega) (by have := hW.size; omega) (by omega) (VmC_keeps.below hC3 hW (by omega)) (VmC_keeps.below hC4 hW (by omega))
      clear hc hc' hS hT hC hC' hC3 hC4 hwm ok ok2 l_heap_tables r_heap_tables n_l_heap_tables n_r_heap_tables l_heap_cells r_heap_cells n_l_heap_cells n_r_heap_cells l_funs r_funs n_l_funs n_r_funs l_frames r_frames n_l_frames n_r_frames l_out r_out n_l_out n_r_out
      generalize xs[i] = x at *
      go_wp2_with fail
      go_region_held (fun w' => w'.cell? ⟨g, o + 10 * i, none⟩ = some (.slice a_heap_tables x.heap.tables.length c_heap_tables) ∧ w'.cell? ⟨g, o + 10 * i + 1, none⟩ = some (.slice a_heap_cells x.heap.cells.length c_heap_cells) ∧ w'.cell? ⟨g, o + 10 * i + 2, none⟩ = some (.slice a_funs x.funs.length c_funs) ∧ w'.cell? ⟨g, o + 10 * i + 3, none⟩ = some (.slice a_frames x.frames.length c_frames) ∧ w'.cell? ⟨g, o + 10 * i + 4, none⟩ = some (.slice a_out x.out.length c_out) ∧ w'.cell? ⟨g, o + 10 * i + 5, none⟩ = some (.int .i64 x.steps) ∧ w'.cell? ⟨g, o + 10 * i + 6, none⟩ = some (.int .i64 x.kind) ∧ w'.cell? ⟨g, o + 10 * i + 7, none⟩ = some (.int .i64 x.value.k) ∧ w'.cell? ⟨g, o + 10 * i + 8, none⟩ = some (.int .i64 x.value.n) ∧ w'.cell? ⟨g, o + 10 * i + 9, none⟩ = some (.string x.value.s) ∧ w'.cell? ⟨g', o' + 10 * i, none⟩ = some (.slice n_a_heap_tables x.heap.tables.length n_c_heap_tables) ∧ w'.cell? ⟨g', o' + 10 * i + 1, none⟩ = some (.slice n_a_heap_cells x.heap.cells.length n_c_heap_cells) ∧ w'.cell? ⟨g', o' + 10 * i + 2, none⟩ = some (.slice n_a_funs x.funs.length n_c_funs) ∧ w'.cell? ⟨g', o' + 10 * i + 3, none⟩ = some (.slice n_a_frames x.frames.length n_c_frames) ∧ w'.cell? ⟨g', o' + 10 * i + 4, none⟩ = some (.slice n_a_out x.out.length n_c_out) ∧ w'.cell? ⟨g', o' + 10 * i + 5, none⟩ = some (.int .i64 x.steps) ∧ w'.cell? ⟨g', o' + 10 * i + 6, none⟩ = some (.int .i64 x.kind) ∧ w'.cell? ⟨g', o' + 10 * i + 7, none⟩ = some (.int .i64 x.value.k) ∧ w'.cell? ⟨g', o' + 10 * i + 8, none⟩ = some (.int .i64 x.value.n) ∧ w'.cell? ⟨g', o' + 10 * i + 9, none⟩ = some (.string x.value.s)) (go_keep) (first | (go_at_call 11; refine (HC.out _ (Below.refl _ _).drew).mono ?_; rintro e w1 ⟨rfl, hb1⟩; have qx0 := (hb1.cell (p := ⟨g, o + 10 * i, none⟩) kx).trans x0; have qy0 := (hb1.cell (p := ⟨g', o' + 10 * i, none⟩) ky).trans y0; have qx1 := (hb1.cell (p := ⟨g, o + 10 * i + 1, none⟩) kx).trans x1; have qy1 := (hb1.cell (p := ⟨g', o' + 10 * i + 1, none⟩) ky).trans y1; have qx2 := (hb1.cell (p := ⟨g, o + 10 * i + 2, none⟩) kx).trans x2; have qy2 := (hb1.cell (p := ⟨g', o' + 10 * i + 2, none⟩) ky).trans y2; have qx3 := (hb1.cell (p := ⟨g, o + 10 * i + 3, none⟩) kx).trans x3; have qy3 := (hb1.cell (p := ⟨g', o' + 10 * i + 3, none⟩) ky).trans y3; have qx4 := (hb1.cell (p := ⟨g, o + 10 * i + 4, none⟩) kx).trans x4; have qy4 := (hb1.cell (p := ⟨g', o' + 10 * i + 4, none⟩) ky).trans y4; have qx5 := (hb1.cell (p := ⟨g, o + 10 * i + 5, none⟩) kx).trans x5; have qy5 := (hb1.cell (p := ⟨g', o' + 10 * i + 5, none⟩) ky).trans y5; have qx6 := (hb1.cell (p := ⟨g, o + 10 * i + 6, none⟩) kx).trans x6; have qy6 := (hb1.cell (p := ⟨g', o' + 10 * i + 6, none⟩) ky).trans y6; have qx7 := (hb1.cell (p := ⟨g, o + 10 * i + 7, none⟩) kx).trans x7; have qy7 := (hb1.cell (p := ⟨g', o' + 10 * i + 7, none⟩) ky).trans y7; have qx8 := (hb1.cell (p := ⟨g, o + 10 * i + 8, none⟩) kx).trans x8; have qy8 := (hb1.cell (p := ⟨g', o' + 10 * i + 8, none⟩) ky).trans y8; have qx9 := (hb1.cell (p := ⟨g, o + 10 * i + 9, none⟩) kx).trans x9; have qy9 := (hb1.cell (p := ⟨g', o' + 10 * i + 9, none⟩) ky).trans y9))
      go_wp2_with fail
      go_roundw
      case rel => exact ⟨i + 1, by go_num, by omega, hbl.drew.trans (hb1.mono hbl.size)⟩
      case measure => simp [intOf]; omega
    · obtain rfl : i = xs.length := by omega
      clear hS hT
      go_wp2_with fail
      go_ret
      exact ⟨rfl, hbl⟩
set_option maxRecDepth 100000 in
set_option maxHeartbeats 800000 in
theorem eqTrail_same (x : TrailD) (cs cs' : List Value) (lo hi lo' hi' : Nat) (w : World) (hh : hi ≤ w.heap.size) (hh' : hi' ≤ w.heap.size) (hw : x.wt ≤ 2097152) (hC : TrailC w lo hi x cs) (hC' : TrailC w lo' hi' x cs') :
    Calls Try.prog 16 #[.agg cs.toArray, .agg cs'.toArray] w fun e w' => e = .returned (.bool true) ∧ Below w.heap.size w w' := by
  obtain ⟨ok, a_code, c_code, a_marks, c_marks, a_now_heap_tables, c_now_heap_tables, a_now_heap_cells, c_now_heap_cells, a_now_funs, c_now_funs, a_now_frames, c_now_frames, a_now_out, c_now_out, rfl, l_code, r_code, l_marks, r_marks, l_now_heap_tables, r_now_heap_tables, l_now_heap_cells, r_now_heap_cells, l_now_funs, r_now_funs, l_now_frames, r_now_frames, l_now_out, r_now_out⟩ := hC
  obtain ⟨n_ok, n_a_code, n_c_code, n_a_marks, n_c_marks, n_a_now_heap_tables, n_c_now_heap_tables, n_a_now_heap_cells, n_c_now_heap_cells, n_a_now_funs, n_c_now_funs, n_a_now_frames, n_c_now_frames, n_a_now_out, n_c_now_out, rfl, n_l_code, n_r_code, n_l_marks, n_r_marks, n_l_now_heap_tables, n_r_now_heap_tables, n_l_now_heap_cells, n_r_now_heap_cells, n_l_now_funs, n_r_now_funs, n_l_now_frames, n_r_now_frames, n_l_now_out, n_r_now_out⟩ := hC'
  unfold TrailD.wt at hw
  have h_now : VmC w lo hi x.now [.slice a_now_heap_tables x.now.heap.tables.length c_now_heap_tables, .slice a_now_heap_cells x.now.heap.cells.length c_now_heap_cells, .slice a_now_funs x.now.funs.length c_now_funs, .slice a_now_frames x.now.frames.length c_now_frames, .slice a_now_out x.now.out.length c_now_out, .int .i64 x.now.steps, .int .i64 x.now.kind, .int .i64 x.now.value.k, .int .i64 x.now.value.n, .string x.now.value.s] := ⟨ok.now, a_now_heap_tables, c_now_heap_tables, a_now_heap_cells, c_now_heap_cells, a_now_funs, c_now_funs, a_now_frames, c_now_frames, a_now_out, c_now_out, rfl, l_now_heap_tables, r_now_heap_tables, l_now_heap_cells, r_now_heap_cells, l_now_funs, r_now_funs, l_now_frames, r_now_frames, l_now_out, r_now_out⟩
  have n_h_now : VmC w lo' hi' x.now [.slice n_a_now_heap_tables x.now.heap.tables.length n_c_now_heap_tables, .slice n_a_now_heap_cells x.now.heap.cells.length n_c_now_heap_cells, .slice n_a_now_funs x.now.funs.length n_c_now_funs, .slice n_a_now_frames x.now.frames.length n_c_now_frames, .slice n_a_now_out x.now.out.length n_c_now_out, .int .i64 x.now.steps, .int .i64 x.now.kind, .int .i64 x.now.value.k, .int .i64 x.now.value.n, .string x.now.value.s] := ⟨n_ok.now, n_a_now_heap_tables, n_c_now_heap_tables, n_a_now_heap_cells, n_c_now_heap_cells, n_a_now_funs, n_c_now_funs, n_a_now_frames, n_c_now_frames, n_a_now_out, n_c_now_out, rfl, n_l_now_heap_tables, n_r_now_heap_tables, n_l_now_heap_cells, n_r_now_heap_cells, n_l_now_funs, n_r_now_funs, n_l_now_frames, n_r_now_frames, n_l_now_out, n_r_now_out⟩
  have B0 : ∀ A B : Obj, Below w.heap.size w ((w.alloc A).alloc B) := fun A B => (bel_alloc w A).trans ((bel_alloc _ B).mono (by simp))
  go_enter Try.func16, Try.ntmps16
  go_wp2_with fail
  refine (eqProtoS_same x.code a_code n_a_code c_code n_c_code lo hi lo' hi' _ (by simp; omega) (by simp; omega) (by omega) (r_code.below ProtoC_keeps (B0 _ _) hh) (n_r_code.below ProtoC_keeps (B0 _ _) hh')).mono ?_
  rintro e w1 ⟨rfl, hb1⟩
  have hz1 : w.heap.size + 1 < w1.heap.size := by have := hb1.size; simp at this; omega
  have B1 : Below w.heap.size w w1 := (B0 _ _).trans (hb1.mono (by simp; omega))
  have hz1' : w.heap.size < w1.heap.size := by omega
  obtain ⟨hc1, hf1⟩ := bcell hb1
  go_wp2_with fail
  refine (eqVmS_same x.marks a_marks n_a_marks c_marks n_c_marks lo hi lo' hi' w1 (Nat.le_trans hh B1.size) (Nat.le_trans hh' B1.size) (by omega) (r_marks.below VmC_keeps B1 hh) (n_r_marks.below VmC_keeps B1 hh')).mono ?_
  rintro e w2 ⟨rfl, hb2⟩
  have hz2 : w.heap.size + 1 < w2.heap.size := Nat.lt_of_lt_of_le hz1 hb2.size
  have B2 := B1.trans (hb2.mono B1.size)
  have hz2' : w.heap.size < w2.heap.size := by omega
  obtain ⟨hc2, hf2⟩ := bcell hb2
  go_wp2_with fail
  refine (eqVm_same x.now _ _ lo hi lo' hi' w2 (Nat.le_trans hh B2.size) (Nat.le_trans hh' B2.size) (by omega) (VmC_keeps.below h_now B2 hh) (VmC_keeps.below n_h_now B2 hh')).mono ?_
  rintro e w3 ⟨rfl, hb3⟩
  have hz3 : w.heap.size + 1 < w3.heap.size := Nat.lt_of_lt_of_le hz2 hb3.size
  have B3 := B2.trans (hb3.mono B2.size)
  have hz3' : w.heap.size < w3.heap.size := by omega
  obtain ⟨hc3, hf3⟩ := bcell hb3
  go_wp2_with fail
  go_ret
  exact ⟨rfl, B3⟩
end Go.Proofs.Ytgibejgemokljaa
