/- The draws of commands, and of texts that are spoilt. -/
import Derived.Test.YtadjhnaiphnpoaaDoorDraW
import Derived.Test.YtadjhnaiphnpoaaDoorDrawP
import Derived.Test.YtadjhnaiphnpoaaDoorCmS
namespace Go.Proofs.YtadjhnaiphnpoaaDoor
open Go.RowKit

theorem drawn_bel {B c : Nat} {w w1 w2 : World} (h : Drawn B c w w1) (hb : Below w1.heap.size w1 w2) : Drawn B c w w2 := by
  have hlt := cur_lt h.cur
  obtain ⟨hup, a, len, cap, i, x, hh, hc, hi⟩ := h.cur
  refine ⟨⟨hup, a, len, cap, i, x, (hb.block c hlt).trans hh, ⟨hc.small, fun j hj => ?_⟩, hi⟩, by_trans h.by' ⟨hb.os, hb.tape, hb.output, hb.size, fun k hk _ => hb.block k hk⟩⟩
  obtain ⟨b, off, y, e, hb1, hx, h0, h1⟩ := hc.cells j hj
  exact ⟨b, off, y, e, hb1, (hb.cell (p := ⟨b, off + j, none⟩) (by show b < _; omega)).trans hx, h0, h1⟩

def nameL : List ByteArray := [⟨#[120]⟩, ⟨#[121]⟩, ⟨#[116]⟩, ⟨#[102]⟩, ⟨#[105]⟩, ⟨#[110]⟩, ⟨#[97]⟩, ⟨#[110, 111, 110, 101]⟩]
theorem nameL_le (t : ByteArray) (h : t ∈ nameL) : t.size ≤ 4 := (show ∀ t ∈ nameL, t.size ≤ 4 by decide) t h
def numW : List ByteArray := [⟨#[98, 114, 101, 97, 107]⟩, ⟨#[115, 116, 101, 112]⟩, ⟨#[98, 97, 99, 107]⟩, ⟨#[108, 111, 99, 97, 108, 115]⟩]
theorem numW_le (t : ByteArray) (h : t ∈ numW) : t.size ≤ 6 := (show ∀ t ∈ numW, t.size ≤ 6 by decide) t h
def lookW : List ByteArray := [⟨#[115, 104, 111, 119]⟩, ⟨#[99, 104, 97, 110, 103, 101, 100]⟩]
theorem lookW_le (t : ByteArray) (h : t ∈ lookW) : t.size ≤ 7 := (show ∀ t ∈ lookW, t.size ≤ 7 by decide) t h
def noW : List ByteArray := [⟨#[]⟩, ⟨#[119, 104, 97, 116]⟩, ⟨#[82, 117, 110]⟩]
theorem noW_le (t : ByteArray) (h : t ∈ noW) : t.size ≤ 4 := (show ∀ t ∈ noW, t.size ≤ 4 by decide) t h
def plainW : List ByteArray := [⟨#[99, 108, 101, 97, 114]⟩, ⟨#[114, 117, 110]⟩, ⟨#[114, 101, 114, 117, 110]⟩, ⟨#[111, 118, 101, 114]⟩, ⟨#[111, 117, 116]⟩, ⟨#[119, 104, 101, 114, 101]⟩, ⟨#[108, 105, 110, 101, 115]⟩, ⟨#[111, 117, 116, 112, 117, 116]⟩, ⟨#[114, 101, 112, 111, 114, 116]⟩, ⟨#[114, 117, 110]⟩, ⟨#[111, 118, 101, 114]⟩]
theorem plainW_le (t : ByteArray) (h : t ∈ plainW) : t.size ≤ 6 := (show ∀ t ∈ plainW, t.size ≤ 6 by decide) t h
def numV : List Int := [1, 2, 5, 30, 0, 999999, 1000000, -1]
theorem numV_le (t : Int) (h : t ∈ numV) : -1 ≤ t ∧ t ≤ 1000000 := (show ∀ t ∈ numV, -1 ≤ t ∧ t ≤ 1000000 by decide) t h
theorem num_lits (wx : World) (e : TypeId) (ss : List Int) : ∀ (j : Nat) (t : Int), ss[j]? = some t → (wx.alloc (.cells (ss.map (Value.int .i64)).toArray e)).cell? ⟨wx.heap.size, j, none⟩ = some (.int .i64 t) := by
  intro j t ht
  rw [cell_of_row _ wx.heap.size j _ e (0, 0) (heap_alloc_new wx _)]
  simp [ht]

set_option maxRecDepth 100000 in
theorem name_any (B c : Nat) (w : World) (hC : Cur w B c) : Calls Tryd.prog 69 #[.pointer (some ⟨c, 0, none⟩)] w fun e w' => ∃ s : ByteArray, e = .returned (.string s) ∧ s.size ≤ 4 ∧ Drawn B c w w' := by
  have hd0 := Drawn.refl hC
  go_enter Tryd.func69, Tryd.ntmps69
  go_wp2_with fail
  have slt := cur_lt hd0.cur
  refine (pick_any B c nameL w.heap.size 8 _ (cur_alloc hd0.cur _) (by omega) (by decide) (by decide) (has_lits w _ nameL)).mono ?_
  rintro e w1 ⟨s, rfl, sm, sd⟩
  have ss := nameL_le s sm
  clear sm
  have hd1 := (hd0.alloc _).trans sd
  go_wp2_with fail
  go_ret
  exact ⟨s, rfl, ss, hd1⟩

/-- The answer's cell, and what was drawn. -/
structure DC (B c : Nat) (w W : World) : Prop where
  drawn : Drawn B c w W
  row : W.heap[w.heap.size]? = some (.cells #[.string ⟨#[]⟩, .int .i64 0, .string ⟨#[]⟩] 35 (0, 0))
theorem DC.cells {B c : Nat} {w W : World} (h : DC B c w W) : W.cell? ⟨w.heap.size, 0, none⟩ = some (.string ⟨#[]⟩) ∧ W.cell? ⟨w.heap.size, 1, none⟩ = some (.int .i64 0) ∧ W.cell? ⟨w.heap.size, 2, none⟩ = some (.string ⟨#[]⟩) ∧ W.frozen? ⟨w.heap.size, 0, none⟩ = false ∧ W.frozen? ⟨w.heap.size, 1, none⟩ = false ∧ W.frozen? ⟨w.heap.size, 2, none⟩ = false := by
  refine ⟨?_, ?_, ?_, frozen_of_row _ _ _ _ _ h.row, frozen_of_row _ _ _ _ _ h.row, frozen_of_row _ _ _ _ _ h.row⟩
  · rw [cell_of_row _ _ 0 _ _ _ h.row]; rfl
  · rw [cell_of_row _ _ 1 _ _ _ h.row]; rfl
  · rw [cell_of_row _ _ 2 _ _ _ h.row]; rfl
theorem dc_new {B c : Nat} {w : World} (hC : Cur w B c) : DC B c w (w.alloc (.cells #[.string ⟨#[]⟩, .int .i64 0, .string ⟨#[]⟩] 35)) := ⟨(Drawn.refl hC).alloc _, heap_alloc_new w _⟩
theorem DC.lt {B c : Nat} {w W : World} (h : DC B c w W) : w.heap.size < W.heap.size := (Array.getElem?_eq_some_iff.1 h.row).1
theorem DC.step {B c : Nat} {w W W' : World} (h : DC B c w W) (hd : Drawn B c W W') (hc : c < w.heap.size) : DC B c w W' :=
  ⟨h.drawn.trans hd, (hd.by'.block _ h.lt (by simp; omega)).trans h.row⟩
theorem DC.alloc {B c : Nat} {w W : World} (h : DC B c w W) (o : Obj) : DC B c w (W.alloc o) := ⟨h.drawn.alloc o, by rw [Below.heap_alloc _ _ _ h.lt]; exact h.row⟩
/-- Stores into a block that is new leave the cursor as it is. -/
theorem drawn_set {B c b j : Nat} {w W : World} {v : Value} (h : Drawn B c w W) (hc : c < w.heap.size) (hb : w.heap.size ≤ b) : Drawn B c w (W.setCell ⟨b, j, none⟩ v) := by
  obtain ⟨hup, a, len, cap, i, x, hh, hcd, hi⟩ := h.cur
  refine ⟨⟨hup, a, len, cap, i, x, (heap_setCell_other _ _ _ _ (by show c ≠ b; omega)).trans hh, ⟨hcd.small, fun k hk => ?_⟩, hi⟩, ⟨h.by'.os, h.by'.tape, h.by'.output, by simpa using h.by'.size, fun k hk hne => (heap_setCell_other _ _ _ _ (by show k ≠ b; omega)).trans (h.by'.block k hk hne)⟩⟩
  obtain ⟨b2, off, y, e, hb1, hx, h0, h1⟩ := hcd.cells k hk
  exact ⟨b2, off, y, e, hb1, (World.cell?_of_block (w := W) (heap_setCell_other _ _ _ _ (by show b2 ≠ b; omega))).trans hx, h0, h1⟩

set_option maxRecDepth 100000 in
set_option maxHeartbeats 3200000 in
theorem cmdDraw_any (B c : Nat) (w : World) (hC : Cur w B c) : Calls Tryd.prog 57 #[.pointer (some ⟨c, 0, none⟩)] w fun e w' => ∃ (s : ByteArray) (n : Int) (x : ByteArray), e = .returned (.agg #[.string s, .int .i64 n, .string x]) ∧ s.size ≤ 10 ∧ -1 ≤ n ∧ n ≤ 1000000 ∧ x.size ≤ 50000 ∧ Drawn B c w w' := by
  have hcl := cur_lt hC
  have hd0 := dc_new hC
  go_enter Tryd.func57, Tryd.ntmps57
  go_wp2_with fail
  generalize w.alloc (.cells #[.string ⟨#[]⟩, .int .i64 0, .string ⟨#[]⟩] 35) = wa at *
  refine (below_any B c 10 _ hd0.drawn.cur (by decide)).mono ?_
  rintro e w1 ⟨n, rfl, hn0, _, hn1, hq1⟩
  have hn := hn1 (by decide)
  clear hn1
  have hd1 := hd0.step hq1 hcl
  clear hd0 hq1
  obtain rfl | h12 | rfl | rfl | h5 : n = 0 ∨ (n = 1 ∨ n = 2) ∨ n = 3 ∨ n = 4 ∨ 5 ≤ n := by omega
  · go_wp2_with fail
    refine (program_any B c _ hd1.drawn.cur).mono ?_
    rintro e w2 ⟨x, rfl, hx, hq2⟩
    have hd2 := hd1.step hq2 hcl
    clear hd1 hq2
    obtain ⟨c0, c1, c2, f0, f1, f2⟩ := hd2.cells
    have hd := hd2.drawn
    clear hd2
    go_wp2_with fail
    exact bodyPost_ret (v := .agg #[.string ⟨#[108, 97, 117, 110, 99, 104]⟩, .int .i64 0, .string x]) (by simp [results, Tryd.results57, go_sem, *]) rfl ⟨⟨#[108, 97, 117, 110, 99, 104]⟩, 0, x, rfl, by first | omega | decide, by first | omega | decide, by first | omega | decide, by first | omega | decide, by repeat (first | (with_reducible exact hd) | (with_reducible refine drawn_set ?_ hcl (Nat.le_refl _)))⟩
  · have n0 : ¬ n = 0 := by omega
    rcases h12 with rfl | rfl
    all_goals
      go_wp2_with fail
      have slt := cur_lt hd1.drawn.cur
      refine (pick_any B c numW w1.heap.size 4 _ (cur_alloc hd1.drawn.cur _) (by omega) (by decide) (by decide) (has_lits w1 _ numW)).mono ?_
      rintro e w2 ⟨s, rfl, sm, sd⟩
      have ss := numW_le s sm
      clear sm
      have hd2 := (hd1.alloc (.cells (numW.map Value.string).toArray 9)).step sd hcl
      clear hd1 sd slt
      go_wp2_with fail
      have slt2 := cur_lt hd2.drawn.cur
      refine (pickInt_any B c numV w2.heap.size 8 _ (cur_alloc hd2.drawn.cur _) (by omega) (by decide) (by decide) (num_lits w2 _ numV)).mono ?_
      rintro e w3 ⟨m, rfl, hm, hq3⟩
      obtain ⟨m0, m1⟩ := numV_le m hm
      have hd3 := (hd2.alloc (.cells (numV.map (Value.int .i64)).toArray 3)).step hq3 hcl
      clear hm hd2 hq3 slt2
      obtain ⟨c0, c1, c2, f0, f1, f2⟩ := hd3.cells
      have hd := hd3.drawn
      clear hd3
      go_wp2_with fail
      exact bodyPost_ret (v := .agg #[.string s, .int .i64 m, .string ⟨#[]⟩]) (by simp [results, Tryd.results57, go_sem, *]) rfl ⟨s, m, ⟨#[]⟩, rfl, by first | omega | decide, by first | omega | decide, by first | omega | decide, by first | omega | decide, by repeat (first | (with_reducible exact hd) | (with_reducible refine drawn_set ?_ hcl (Nat.le_refl _)))⟩
  · go_wp2_with fail
    have slt := cur_lt hd1.drawn.cur
    refine (pick_any B c lookW w1.heap.size 2 _ (cur_alloc hd1.drawn.cur _) (by omega) (by decide) (by decide) (has_lits w1 _ lookW)).mono ?_
    rintro e w2 ⟨s, rfl, sm, sd⟩
    have ss := lookW_le s sm
    clear sm
    have hd2 := (hd1.alloc (.cells (lookW.map Value.string).toArray 9)).step sd hcl
    clear hd1 sd slt
    go_wp2_with fail
    refine (name_any B c _ hd2.drawn.cur).mono ?_
    rintro e w3 ⟨x, rfl, hx, hq3⟩
    have hd3 := hd2.step hq3 hcl
    clear hd2 hq3
    obtain ⟨c0, c1, c2, f0, f1, f2⟩ := hd3.cells
    have hd := hd3.drawn
    clear hd3
    go_wp2_with fail
    exact bodyPost_ret (v := .agg #[.string s, .int .i64 0, .string x]) (by simp [results, Tryd.results57, go_sem, *]) rfl ⟨s, 0, x, rfl, by first | omega | decide, by first | omega | decide, by first | omega | decide, by first | omega | decide, by repeat (first | (with_reducible exact hd) | (with_reducible refine drawn_set ?_ hcl (Nat.le_refl _)))⟩
  · go_wp2_with fail
    have slt := cur_lt hd1.drawn.cur
    refine (pick_any B c noW w1.heap.size 3 _ (cur_alloc hd1.drawn.cur _) (by omega) (by decide) (by decide) (has_lits w1 _ noW)).mono ?_
    rintro e w2 ⟨s, rfl, sm, sd⟩
    have ss := noW_le s sm
    clear sm
    have hd2 := (hd1.alloc (.cells (noW.map Value.string).toArray 9)).step sd hcl
    clear hd1 sd slt
    obtain ⟨c0, c1, c2, f0, f1, f2⟩ := hd2.cells
    have hd := hd2.drawn
    clear hd2
    go_wp2_with fail
    exact bodyPost_ret (v := .agg #[.string s, .int .i64 1, .string ⟨#[]⟩]) (by simp [results, Tryd.results57, go_sem, *]) rfl ⟨s, 1, ⟨#[]⟩, rfl, by first | omega | decide, by first | omega | decide, by first | omega | decide, by first | omega | decide, by repeat (first | (with_reducible exact hd) | (with_reducible refine drawn_set ?_ hcl (Nat.le_refl _)))⟩
  · have n0 : ¬ n = 0 := by omega
    have n1 : ¬ n = 1 := by omega
    have n2 : ¬ n = 2 := by omega
    have n3 : ¬ n = 3 := by omega
    have n4 : ¬ n = 4 := by omega
    go_wp2_with fail
    have slt := cur_lt hd1.drawn.cur
    refine (pick_any B c plainW w1.heap.size 11 _ (cur_alloc hd1.drawn.cur _) (by omega) (by decide) (by decide) (has_lits w1 _ plainW)).mono ?_
    rintro e w2 ⟨s, rfl, sm, sd⟩
    have ss := plainW_le s sm
    clear sm
    have hd2 := (hd1.alloc (.cells (plainW.map Value.string).toArray 9)).step sd hcl
    clear hd1 sd slt
    obtain ⟨c0, c1, c2, f0, f1, f2⟩ := hd2.cells
    have hd := hd2.drawn
    clear hd2
    go_wp2_with fail
    exact bodyPost_ret (v := .agg #[.string s, .int .i64 0, .string ⟨#[]⟩]) (by simp [results, Tryd.results57, go_sem, *]) rfl ⟨s, 0, ⟨#[]⟩, rfl, by first | omega | decide, by first | omega | decide, by first | omega | decide, by first | omega | decide, by repeat (first | (with_reducible exact hd) | (with_reducible refine drawn_set ?_ hcl (Nat.le_refl _)))⟩
end Go.Proofs.YtadjhnaiphnpoaaDoor
