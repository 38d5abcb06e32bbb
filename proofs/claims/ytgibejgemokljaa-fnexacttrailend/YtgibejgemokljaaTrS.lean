/- How great a trail is, as the law reckons it. -/
import Derived.Test.YtgibejgemokljaaTrP
import Derived.Test.YtgibejgemokljaaVmS
import Derived.Test.YtgibejgemokljaaDatS
namespace Go.Proofs.Ytgibejgemokljaa
open Go.RowKit

set_option maxRecDepth 100000 in
set_option maxHeartbeats 800000 in
theorem szVmS_any (xs : List VmD) (a : Option Addr) (ca lo hi : Nat) (left : Int) (w : World) (hh : hi ≤ w.heap.size) (hn : xs.length ≤ maxLen) (hS : RowAt 10 VmC w lo hi xs a) (h0 : 0 ≤ left) (h1 : left ≤ 1048576) :
    Calls Try.prog 71 #[.slice a xs.length ca, .int .i64 left] w fun e w' => (∃ r : Int, e = .returned (.int .i64 r) ∧ (r = -1 ∨ (0 ≤ r ∧ r + wtR VmD.wt xs ≤ left))) ∧ Below w.heap.size w w' := by
  have hm : xs.length ≤ 9223372036854775807 := by unfold maxLen at hn; omega
  by_cases hb : left - xs.length < 0
  · go_enter Try.func71, Try.ntmps71
    go_wp2_with fail
    go_ret
    exact ⟨⟨-1, rfl, Or.inl rfl⟩, Below.refl _ _⟩
  · go_enter Try.func71, Try.ntmps71
    go_wp2_with fail
    go_loopw [1, 5] (fun l a wr => ∃ (i : Nat) (r : Int), l = .int .i64 r ∧ a = .int .i64 i ∧ i ≤ xs.length ∧ 0 ≤ r ∧ r + wtR VmD.wt (xs.take i) + (xs.length - i : Nat) ≤ left ∧ Below w.heap.size w wr) (fun _ a _ => xs.length - (intOf a).toNat)
    case atStart => exact ⟨0, left - xs.length, rfl, rfl, Nat.zero_le _, by omega, by simp [wtR], Below.refl _ _⟩
    case round =>
      obtain ⟨i, r, rfl, rfl, hil, hr0, hr1, hbl⟩ := hrel
      by_cases hlt : i < xs.length
      · obtain ⟨g, o, cs, rfl, _, hg, hC, _, hc⟩ := hS i hlt
        have ht := wtR_take VmD.wt xs i hlt
        have hC1 := VmC_keeps.below hC hbl hh
        have hC2 := hC1
        obtain ⟨ok, a_heap_tables, c_heap_tables, a_heap_cells, c_heap_cells, a_funs, c_funs, a_frames, c_frames, a_out, c_out, rfl, l_heap_tables, r_heap_tables, l_heap_cells, r_heap_cells, l_funs, r_funs, l_frames, r_frames, l_out, r_out⟩ := hC1
        have x0 := (hbl.cell (p := ⟨g, o + 10 * i + 0, none⟩) (by show g < _; omega)).trans (hc 0 (by decide))
        have x1 := (hbl.cell (p := ⟨g, o + 10 * i + 1, none⟩) (by show g < _; omega)).trans (hc 1 (by decide))
        have x2 := (hbl.cell (p := ⟨g, o + 10 * i + 2, none⟩) (by show g < _; omega)).trans (hc 2 (by decide))
        have x3 := (hbl.cell (p := ⟨g, o + 10 * i + 3, none⟩) (by show g < _; omega)).trans (hc 3 (by decide))
        have x4 := (hbl.cell (p := ⟨g, o + 10 * i + 4, none⟩) (by show g < _; omega)).trans (hc 4 (by decide))
        have x5 := (hbl.cell (p := ⟨g, o + 10 * i + 5, none⟩) (by show g < _; omega)).trans (hc 5 (by decide))
        have x6 := (hbl.cell (p := ⟨g, o + 10 * i + 6, none⟩) (by show g < _; omega)).trans (hc 6 (by decide))
        have x7 := (hbl.cell (p := ⟨g, o + 10 * i + 7, none⟩) (by show g < _; omega)).trans (hc 7 (by decide))
        have x8 := (hbl.cell (p := ⟨g, o + 10 * i + 8, none⟩) (by show g < _; omega)).trans (hc 8 (by decide))
        have x9 := (hbl.cell (p := ⟨g, o + 10 * i + 9, none⟩) (by show g < _; omega)).trans (hc 9 (by decide))
        simp only [List.getElem?_cons_zero, List.getElem?_cons_succ, Nat.add_zero] at x0 x1 x2 x3 x4 x5 x6 x7 x8 x9
        have mc : i * 10 = 10 * i := Nat.mul_comm _ _
        clear hS hc hC
        generalize xs[i] = x at *
        go_wp2_with fail
        refine (szVm_any x _ lo hi r wr (Nat.le_trans hh hbl.size) hC2 hr0 (by omega)).mono ?_
        rintro e w1 ⟨⟨r', rfl, hr⟩, hb1⟩
        have B1 := hbl.trans (hb1.mono hbl.size)
        by_cases hneg : r' < 0
        · go_wp2_with fail
          go_ret
          exact ⟨⟨-1, rfl, Or.inl rfl⟩, B1⟩
        · go_wp2_with fail
          go_roundw
          case rel => exact ⟨i + 1, r', rfl, by go_num, by omega, by omega, by omega, B1⟩
          case measure => simp [intOf]; omega
      · obtain rfl : i = xs.length := by omega
        clear hS
        go_wp2_with fail
        go_ret
        exact ⟨⟨r, rfl, Or.inr ⟨hr0, by simpa using hr1⟩⟩, hbl⟩
set_option maxRecDepth 100000 in
set_option maxHeartbeats 800000 in
theorem szTrail_any (x : TrailD) (cs : List Value) (lo hi : Nat) (left : Int) (w : World) (hh : hi ≤ w.heap.size) (hC : TrailC w lo hi x cs) (h0 : 0 ≤ left) (h1 : left ≤ 1048576) :
    Calls Try.prog 21 #[.agg cs.toArray, .int .i64 left] w fun e w' => (∃ r : Int, e = .returned (.int .i64 r) ∧ (r = -1 ∨ (0 ≤ r ∧ r + x.wt ≤ left))) ∧ Below w.heap.size w w' := by
  obtain ⟨ok, a_code, c_code, a_marks, c_marks, a_now_heap_tables, c_now_heap_tables, a_now_heap_cells, c_now_heap_cells, a_now_funs, c_now_funs, a_now_frames, c_now_frames, a_now_out, c_now_out, rfl, l_code, r_code, l_marks, r_marks, l_now_heap_tables, r_now_heap_tables, l_now_heap_cells, r_now_heap_cells, l_now_funs, r_now_funs, l_now_frames, r_now_frames, l_now_out, r_now_out⟩ := hC
  have q_code := r_code.below ProtoC_keeps (bel_alloc w (Obj.cells #[.slice a_code x.code.length c_code, .int .i64 x.every, .slice a_marks x.marks.length c_marks, .slice a_now_heap_tables x.now.heap.tables.length c_now_heap_tables, .slice a_now_heap_cells x.now.heap.cells.length c_now_heap_cells, .slice a_now_funs x.now.funs.length c_now_funs, .slice a_now_frames x.now.frames.length c_now_frames, .slice a_now_out x.now.out.length c_now_out, .int .i64 x.now.steps, .int .i64 x.now.kind, .int .i64 x.now.value.k, .int .i64 x.now.value.n, .string x.now.value.s] 62)) hh
  have q_marks := r_marks.below VmC_keeps (bel_alloc w (Obj.cells #[.slice a_code x.code.length c_code, .int .i64 x.every, .slice a_marks x.marks.length c_marks, .slice a_now_heap_tables x.now.heap.tables.length c_now_heap_tables, .slice a_now_heap_cells x.now.heap.cells.length c_now_heap_cells, .slice a_now_funs x.now.funs.length c_now_funs, .slice a_now_frames x.now.frames.length c_now_frames, .slice a_now_out x.now.out.length c_now_out, .int .i64 x.now.steps, .int .i64 x.now.kind, .int .i64 x.now.value.k, .int .i64 x.now.value.n, .string x.now.value.s] 62)) hh
  have h_now : VmC w lo hi x.now [.slice a_now_heap_tables x.now.heap.tables.length c_now_heap_tables, .slice a_now_heap_cells x.now.heap.cells.length c_now_heap_cells, .slice a_now_funs x.now.funs.length c_now_funs, .slice a_now_frames x.now.frames.length c_now_frames, .slice a_now_out x.now.out.length c_now_out, .int .i64 x.now.steps, .int .i64 x.now.kind, .int .i64 x.now.value.k, .int .i64 x.now.value.n, .string x.now.value.s] := ⟨ok.now, a_now_heap_tables, c_now_heap_tables, a_now_heap_cells, c_now_heap_cells, a_now_funs, c_now_funs, a_now_frames, c_now_frames, a_now_out, c_now_out, rfl, l_now_heap_tables, r_now_heap_tables, l_now_heap_cells, r_now_heap_cells, l_now_funs, r_now_funs, l_now_frames, r_now_frames, l_now_out, r_now_out⟩
  have q_now := VmC_keeps.below h_now (bel_alloc w (Obj.cells #[.slice a_code x.code.length c_code, .int .i64 x.every, .slice a_marks x.marks.length c_marks, .slice a_now_heap_tables x.now.heap.tables.length c_now_heap_tables, .slice a_now_heap_cells x.now.heap.cells.length c_now_heap_cells, .slice a_now_funs x.now.funs.length c_now_funs, .slice a_now_frames x.now.frames.length c_now_frames, .slice a_now_out x.now.out.length c_now_out, .int .i64 x.now.steps, .int .i64 x.now.kind, .int .i64 x.now.value.k, .int .i64 x.now.value.n, .string x.now.value.s] 62)) hh
  go_enter Try.func21, Try.ntmps21
  go_wp2_with fail
  refine (szProtoS_any x.code a_code c_code lo hi left _ (by simp; omega) l_code q_code (by omega) (by omega)).mono ?_
  rintro e w1 ⟨⟨s1, rfl, hs1⟩, hb1⟩
  have B1 : Below w.heap.size w w1 := boxed hb1
  have hsz1 : w.heap.size < w1.heap.size := by have := hb1.size; simp at this; omega
  have c2 := st_cell hb1 2
  have c3 := st_cell hb1 3
  have c4 := st_cell hb1 4
  have c5 := st_cell hb1 5
  have c6 := st_cell hb1 6
  have c7 := st_cell hb1 7
  have c8 := st_cell hb1 8
  have c9 := st_cell hb1 9
  have c10 := st_cell hb1 10
  have c11 := st_cell hb1 11
  have c12 := st_cell hb1 12
  simp only [List.getElem?_toArray, List.getElem?_cons_zero, List.getElem?_cons_succ] at c2 c3 c4 c5 c6 c7 c8 c9 c10 c11 c12
  by_cases g0 : s1 < 0
  · go_wp2_with fail
    go_ret
    exact ⟨⟨-1, rfl, .inl rfl⟩, B1⟩
  · skip
    go_wp2_with fail
    refine (szVmS_any x.marks a_marks c_marks lo hi s1 w1 (Nat.le_trans hh B1.size) l_marks (r_marks.below VmC_keeps B1 hh) (by omega) (by omega)).mono ?_
    rintro e w2 ⟨⟨s2, rfl, hs2⟩, hb2⟩
    have B2 := B1.trans (hb2.mono B1.size)
    have hsz2 : w.heap.size < w2.heap.size := Nat.lt_of_lt_of_le hsz1 hb2.size
    have c3 := (hb2.cell (p := ⟨w.heap.size, 3, none⟩) hsz1).trans c3
    have c4 := (hb2.cell (p := ⟨w.heap.size, 4, none⟩) hsz1).trans c4
    have c5 := (hb2.cell (p := ⟨w.heap.size, 5, none⟩) hsz1).trans c5
    have c6 := (hb2.cell (p := ⟨w.heap.size, 6, none⟩) hsz1).trans c6
    have c7 := (hb2.cell (p := ⟨w.heap.size, 7, none⟩) hsz1).trans c7
    have c8 := (hb2.cell (p := ⟨w.heap.size, 8, none⟩) hsz1).trans c8
    have c9 := (hb2.cell (p := ⟨w.heap.size, 9, none⟩) hsz1).trans c9
    have c10 := (hb2.cell (p := ⟨w.heap.size, 10, none⟩) hsz1).trans c10
    have c11 := (hb2.cell (p := ⟨w.heap.size, 11, none⟩) hsz1).trans c11
    have c12 := (hb2.cell (p := ⟨w.heap.size, 12, none⟩) hsz1).trans c12
    by_cases g1 : s2 < 0
    · go_wp2_with fail
      go_ret
      exact ⟨⟨-1, rfl, .inl rfl⟩, B2⟩
    · skip
      go_wp2_with fail
      refine (szVm_any x.now _ lo hi s2 w2 (Nat.le_trans hh B2.size) (VmC_keeps.below h_now B2 hh) (by omega) (by omega)).mono ?_
      rintro e w3 ⟨⟨s3, rfl, hs3⟩, hb3⟩
      have B3 := B2.trans (hb3.mono B2.size)
      have hsz3 : w.heap.size < w3.heap.size := Nat.lt_of_lt_of_le hsz2 hb3.size
      by_cases g2 : s3 < 0
      · go_wp2_with fail
        go_ret
        exact ⟨⟨-1, rfl, .inl rfl⟩, B3⟩
      · skip
        go_wp2_with fail
        go_ret
        exact ⟨⟨_, rfl, .inr ⟨by omega, by unfold TrailD.wt; omega⟩⟩, B3⟩
end Go.Proofs.Ytgibejgemokljaa
