/- The draw of a sign and two values. -/
import Derived.Test.YtoilhbghjiffeaaDrawV
import Derived.Test.YtoilhbghjiffeaaCodeA
import Derived.Deep.RegionWith
namespace Go.Proofs.Ytoilhbghjiffeaa
open Go.RowKit

theorem sa_draw {w W W' : World} {c g : Nat} {k n : Int} {s : ByteArray} (h : Below w.heap.size w W ∧ Cur W w.heap.size c ∧ w.heap.size + 1 < W.heap.size ∧ g < W.heap.size ∧ W.cell? ⟨g, 0, none⟩ = some (.int .i64 k) ∧ W.cell? ⟨g, 1, none⟩ = some (.int .i64 n) ∧ W.cell? ⟨g, 2, none⟩ = some (.string s)) (hd : Drawn w.heap.size c W W') (hg : g ≠ c) : Below w.heap.size w W' ∧ Cur W' w.heap.size c ∧ w.heap.size + 1 < W'.heap.size ∧ g < W'.heap.size ∧ W'.cell? ⟨g, 0, none⟩ = some (.int .i64 k) ∧ W'.cell? ⟨g, 1, none⟩ = some (.int .i64 n) ∧ W'.cell? ⟨g, 2, none⟩ = some (.string s) := by
  obtain ⟨h0, h1, h2, h3, c0, c1, c2⟩ := h
  have hs := hd.by'.size
  exact ⟨h0.trans (hd.below h0.size), hd.cur, by omega, by omega, hd.by'.cell c0 (by simpa using hg), hd.by'.cell c1 (by simpa using hg), hd.by'.cell c2 (by simpa using hg)⟩
theorem sa_below {w W W' : World} {c g : Nat} {k n : Int} {s : ByteArray} (h : Below w.heap.size w W ∧ Cur W w.heap.size c ∧ w.heap.size + 1 < W.heap.size ∧ g < W.heap.size ∧ W.cell? ⟨g, 0, none⟩ = some (.int .i64 k) ∧ W.cell? ⟨g, 1, none⟩ = some (.int .i64 n) ∧ W.cell? ⟨g, 2, none⟩ = some (.string s)) (hb : Below W.heap.size W W') : Below w.heap.size w W' ∧ Cur W' w.heap.size c ∧ w.heap.size + 1 < W'.heap.size ∧ g < W'.heap.size ∧ W'.cell? ⟨g, 0, none⟩ = some (.int .i64 k) ∧ W'.cell? ⟨g, 1, none⟩ = some (.int .i64 n) ∧ W'.cell? ⟨g, 2, none⟩ = some (.string s) := by
  obtain ⟨h0, h1, h2, h3, c0, c1, c2⟩ := h
  have hs := hb.size
  exact ⟨h0.trans (hb.mono h0.size), ((Drawn.refl h1).later hb).cur, by omega, by omega, (hb.cell (p := ⟨g, 0, none⟩) h3).trans c0, (hb.cell (p := ⟨g, 1, none⟩) h3).trans c1, (hb.cell (p := ⟨g, 2, none⟩) h3).trans c2⟩
theorem cur_put {W : World} {B c b j : Nat} {v : Value} (h : Cur W B c) (hb : B ≤ b) (hc : c ≠ b) : Cur (W.setCell ⟨b, j, none⟩ v) B c := by
  refine ⟨h.up, ?_⟩
  obtain ⟨a, len, cap, i, x, hh, hcd, hi⟩ := h.holds
  exact ⟨a, len, cap, i, x, (heap_setCell_other _ _ _ _ (by show c ≠ b; omega)).trans hh, ⟨hcd.small, fun j' hj => by
    obtain ⟨b', off, y, e, hbb, hx, h0, h1⟩ := hcd.cells j' hj
    exact ⟨b', off, y, e, hbb, (World.cell?_of_block (w := W) (heap_setCell_other _ _ _ _ (by show b' ≠ b; omega))).trans hx, h0, h1⟩⟩, hi⟩
theorem sa_cur {w W : World} {c : Nat} {Q : Prop} (h : Below w.heap.size w W ∧ Cur W w.heap.size c ∧ Q) : Cur W w.heap.size c := h.2.1
theorem sa_put {w W : World} {c g b j : Nat} {v : Value} {k n : Int} {s : ByteArray} (h : Below w.heap.size w W ∧ Cur W w.heap.size c ∧ w.heap.size + 1 < W.heap.size ∧ g < W.heap.size ∧ W.cell? ⟨g, 0, none⟩ = some (.int .i64 k) ∧ W.cell? ⟨g, 1, none⟩ = some (.int .i64 n) ∧ W.cell? ⟨g, 2, none⟩ = some (.string s)) (hb : w.heap.size ≤ b) (hc : c ≠ b) (hg : g ≠ b) : Below w.heap.size w (W.setCell ⟨b, j, none⟩ v) ∧ Cur (W.setCell ⟨b, j, none⟩ v) w.heap.size c ∧ w.heap.size + 1 < (W.setCell ⟨b, j, none⟩ v).heap.size ∧ g < (W.setCell ⟨b, j, none⟩ v).heap.size ∧ (W.setCell ⟨b, j, none⟩ v).cell? ⟨g, 0, none⟩ = some (.int .i64 k) ∧ (W.setCell ⟨b, j, none⟩ v).cell? ⟨g, 1, none⟩ = some (.int .i64 n) ∧ (W.setCell ⟨b, j, none⟩ v).cell? ⟨g, 2, none⟩ = some (.string s) := by
  obtain ⟨h0, h1, h2, h3, c0, c1, c2⟩ := h
  have hx : ∀ o, (W.setCell ⟨b, j, none⟩ v).cell? ⟨g, o, none⟩ = W.cell? ⟨g, o, none⟩ := fun o => World.cell?_of_block (w := W) (heap_setCell_other _ _ _ _ (by show g ≠ b; omega))
  exact ⟨h0.setCell hb _, cur_put h1 hb hc, by simpa using h2, by simpa using h3, (hx 0).trans c0, (hx 1).trans c1, (hx 2).trans c2⟩
theorem dcell {B c : Nat} {W W' : World} (hd : Drawn B c W W') : (∀ b o, b < W.heap.size → b ≠ c → W'.cell? ⟨b, o, none⟩ = W.cell? ⟨b, o, none⟩) ∧ (∀ b o, b < W.heap.size → b ≠ c → W'.frozen? ⟨b, o, none⟩ = W.frozen? ⟨b, o, none⟩) :=
  ⟨fun b o h hne => World.cell?_of_block (w := W) (hd.by'.block b h (by simpa using hne)), fun b o h hne => by simp only [World.frozen?]; rw [hd.by'.block b h (by simpa using hne)]⟩

def arS : List ByteArray := [⟨#[43]⟩, ⟨#[45]⟩, ⟨#[42]⟩, ⟨#[47, 47]⟩, ⟨#[37]⟩, ⟨#[47, 47]⟩, ⟨#[37]⟩, ⟨#[120]⟩]
theorem arS_le (t : ByteArray) (h : t ∈ arS) : t.size ≤ 2 := by
  have : ∀ t ∈ arS, t.size ≤ 2 := by decide
  exact this t h

set_option maxRecDepth 100000 in
set_option maxHeartbeats 1600000 in
theorem drawArith_any (a : Option Addr) (len cap : Nat) (w : World) (hcode : IsCode w w.heap.size a len cap) :
    Calls Try.prog 24 #[.slice a len cap] w fun e w' => ∃ op kx nx sx ky ny sy, e = .returned (.tuple #[.string op, .agg #[.int .i64 kx, .int .i64 nx, .string sx], .agg #[.int .i64 ky, .int .i64 ny, .string sy]]) ∧ op.size ≤ 2 ∧ VDraw kx nx sx ∧ VDraw ky ny sy ∧ Below w.heap.size w w' := by
  go_enter Try.func24, Try.ntmps24
  go_wp2_with fail
  obtain ⟨W0, hW0⟩ : ∃ W0, W0 = (w.alloc (Obj.cells #[Value.int IntKind.i64 0, Value.int IntKind.i64 0, Value.string ⟨#[]⟩] 26)).alloc (Obj.cells #[Value.int IntKind.i64 0, Value.int IntKind.i64 0, Value.string ⟨#[]⟩] 26) := ⟨_, rfl⟩
  have hB0 : Below w.heap.size w W0 := by rw [hW0]; exact (((Below.refl _ _).alloc (Nat.le_refl _) _).alloc (by simp) _)
  have hs0 : W0.heap.size = w.heap.size + 1 + 1 := by rw [hW0]; simp
  have hcode0 : IsCode W0 w.heap.size a len cap := ⟨hcode.small, fun j hj => by
    obtain ⟨b, off, x, e, hb, hx, h0, h1⟩ := hcode.cells j hj
    exact ⟨b, off, x, e, hb, by rw [hB0.cell (by exact hb)]; exact hx, h0, h1⟩⟩
  have rA : W0.heap[w.heap.size]? = some (.cells #[.int .i64 0, .int .i64 0, .string ⟨#[]⟩] 26 (0, 0)) := by rw [hW0, Below.heap_alloc _ _ _ (by simp)]; exact heap_alloc_new _ _
  have rB : W0.heap[w.heap.size + 1]? = some (.cells #[.int .i64 0, .int .i64 0, .string ⟨#[]⟩] 26 (0, 0)) := by rw [hW0]; have := heap_alloc_new (w.alloc (Obj.cells #[Value.int IntKind.i64 0, Value.int IntKind.i64 0, Value.string ⟨#[]⟩] 26)) (Obj.cells #[Value.int IntKind.i64 0, Value.int IntKind.i64 0, Value.string ⟨#[]⟩] 26); rwa [size_alloc] at this
  rw [← hW0]
  clear hW0
  refine (new_any w.heap.size a len cap W0 hcode0 hB0.size).mono ?_
  rw [hs0]
  rintro e w1 ⟨rfl, hC1, hb1⟩
  have hs1 := cur_lt hC1
  have hq1 : Below w.heap.size w w1 := hB0.trans (hb1.mono (by omega))
  have rA1 := (hb1.block w.heap.size (by omega)).trans rA
  have rB1 := (hb1.block (w.heap.size + 1) (by omega)).trans rB
  clear rA rB hb1
  go_wp2_with fail
  refine (pick_any w.heap.size (w.heap.size + 1 + 1) arS w1.heap.size 8 _ (cur_alloc hC1 _) (by omega) (by decide) (by decide) (litV_strs w1 _ arS)).mono ?_
  rintro e w2 ⟨op, rfl, hop, hd2⟩
  have hop2 := arS_le op hop
  clear hop
  have hs2 := hd2.by'.size
  simp at hs2
  have hq2 : Below w.heap.size w w2 := (hq1.alloc hq1.size _).trans (hd2.below (by simp; have := hq1.size; omega))
  have rA2 := (hd2.by'.block w.heap.size (by simp; omega) (by simp; try omega)).trans ((Below.heap_alloc _ _ _ (by omega)).trans rA1)
  have rB2 := (hd2.by'.block (w.heap.size + 1) (by simp; omega) (by simp; try omega)).trans ((Below.heap_alloc _ _ _ (by omega)).trans rB1)
  clear rA1 rB1
  go_wp2_with fail
  refine (value_any w.heap.size (w.heap.size + 1 + 1) w2 hd2.cur).mono ?_
  rintro e w3 ⟨k, n, s, rfl, hV, hd3⟩
  have hs3 := hd3.by'.size
  have hq3 : Below w.heap.size w w3 := hq2.trans (hd3.below hq2.size)
  have rA3 := (hd3.by'.block w.heap.size (by omega) (by simp; try omega)).trans rA2
  have rB3 := (hd3.by'.block (w.heap.size + 1) (by omega) (by simp; try omega)).trans rB2
  clear rA2 rB2
  go_wp2_with fail
  have hC4 : Cur (w3.alloc (Obj.cells #[Value.int IntKind.i64 k, Value.int IntKind.i64 n, Value.string s] 26)) w.heap.size (w.heap.size + 1 + 1) := cur_alloc hd3.cur _
  refine (once_any w.heap.size (w.heap.size + 1 + 1) 4 _ hC4 (by decide)).mono ?_
  rintro e w5 ⟨b, rfl, hd5⟩
  have hs5 := hd5.by'.size
  simp at hs5
  have hg : w3.heap.size ≠ w.heap.size + 1 + 1 := by omega
  have hq5 : Below w.heap.size w w5 := (hq3.alloc hq3.size _).trans (hd5.below (by simp; have := hq3.size; omega))
  have rA5 := (hd5.by'.block w.heap.size (by simp; omega) (by simp; try omega)).trans ((Below.heap_alloc _ _ _ (by omega)).trans rA3)
  have rB5 := (hd5.by'.block (w.heap.size + 1) (by simp; omega) (by simp; try omega)).trans ((Below.heap_alloc _ _ _ (by omega)).trans rB3)
  have rG5 := (hd5.by'.block w3.heap.size (by simp) (by simpa using hg)).trans (heap_alloc_new w3 _)
  have hg0 : w3.heap.size < w5.heap.size := by omega
  have hg1 : w.heap.size + 1 + 1 < w3.heap.size := by omega
  clear rA3 rB3 hd2 hd3 hC1 hs1 hs2 hs3 hs5 hq1 hq2
  obtain ⟨fA0, fA1, fA2, cA0, cA1, cA2⟩ := rowZ rA5
  obtain ⟨fB0, fB1, fB2, cB0, cB1, cB2⟩ := rowZ rB5
  have cG0 := cell_of_row _ _ 0 _ _ _ rG5
  have cG1 := cell_of_row _ _ 1 _ _ _ rG5
  have cG2 := cell_of_row _ _ 2 _ _ _ rG5
  simp only [List.getElem?_toArray, List.getElem?_cons_zero, List.getElem?_cons_succ] at cG0 cG1 cG2
  generalize w3.heap.size = g at *
  have S5 : Below w.heap.size w w5 ∧ Cur w5 w.heap.size (w.heap.size + 1 + 1) ∧ w.heap.size + 1 < w5.heap.size ∧ g < w5.heap.size ∧ w5.cell? ⟨g, 0, none⟩ = some (.int .i64 k) ∧ w5.cell? ⟨g, 1, none⟩ = some (.int .i64 n) ∧ w5.cell? ⟨g, 2, none⟩ = some (.string s) := ⟨hq5, hd5.cur, by omega, hg0, cG0, cG1, cG2⟩
  have gA : w.heap.size ≠ g := by omega
  have gB : w.heap.size + 1 ≠ g := by omega
  have gC : g ≠ w.heap.size + 1 + 1 := hg
  have n1 : w.heap.size < w5.heap.size := by omega
  have n2 : w.heap.size + 1 < w5.heap.size := by omega
  have n3 : w.heap.size ≠ w.heap.size + 1 + 1 := by omega
  have n4 : w.heap.size + 1 ≠ w.heap.size + 1 + 1 := by omega
  cases b
  · go_wp2_with fail
    refine (below_any w.heap.size (w.heap.size + 1 + 1) 1000 w5 hd5.cur (by decide)).mono ?_
    rintro e w6 ⟨y, rfl, hy0, _, hy1, hd6⟩
    have hy2 := hy1 (by decide)
    have hlt6 := cur_lt hd6.cur
    have hs6 := hd6.by'.size
    clear hy1 fA0 fA1 fA2 cA0 cA1 cA2 fB0 fB1 fB2 cB0 cB1 cB2 cG0 cG1 cG2
    have S6 := sa_draw S5 hd6 gC
    have rA6 := (hd6.by'.block w.heap.size (by omega) (by simp; try omega)).trans rA5
    have rB6 := (hd6.by'.block (w.heap.size + 1) (by omega) (by simp; try omega)).trans rB5
    have rG6 := (hd6.by'.block g (by omega) (by simp; try omega)).trans rG5
    clear rA5 rB5 rG5
    go_wp2_with fail
    refine (pickInt_any w.heap.size (w.heap.size + 1 + 1) [7, -7, 0, 1, -1, 9223372036854775807, -9223372036854775808, y] w6.heap.size 8 _ (cur_alloc hd6.cur _) (by omega) (by simp) (by simp) (litV_ints w6 _ _)).mono ?_
    rintro e w7 ⟨x1, rfl, hx, hd7⟩
    have hx1 : -9223372036854775808 ≤ x1 ∧ x1 ≤ 9223372036854775807 := by simp at hx; omega
    clear hx
    have hs7 := hd7.by'.size
    simp at hs7
    have S7 := sa_draw (sa_below S6 (bel_alloc w6 _)) hd7 gC
    have rA7 := (hd7.by'.block w.heap.size (by simp; omega) (by simp; try omega)).trans ((Below.heap_alloc _ _ _ (by omega)).trans rA6)
    have rB7 := (hd7.by'.block (w.heap.size + 1) (by simp; omega) (by simp; try omega)).trans ((Below.heap_alloc _ _ _ (by omega)).trans rB6)
    have rG7 := (hd7.by'.block g (by simp; omega) (by simp; try omega)).trans ((Below.heap_alloc _ _ _ (by omega)).trans rG6)
    clear rA6 rB6 rG6
    go_wp2_with fail
    refine (intV_any x1 _).mono ?_
    rintro e w8 ⟨rfl, hb8⟩
    have hs8 := hb8.size
    have S8 := sa_below S7 hb8
    have rA8 := (hb8.block w.heap.size (by omega)).trans rA7
    have rB8 := (hb8.block (w.heap.size + 1) (by omega)).trans rB7
    have rG8 := (hb8.block g (by omega)).trans rG7
    clear rA7 rB7 rG7
    have fG0 := frozen_of_row _ _ 0 _ _ rG8
    have fG1 := frozen_of_row _ _ 1 _ _ rG8
    have fG2 := frozen_of_row _ _ 2 _ _ rG8
    have cG0 := cell_of_row _ _ 0 _ _ _ rG8
    have cG1 := cell_of_row _ _ 1 _ _ _ rG8
    have cG2 := cell_of_row _ _ 2 _ _ _ rG8
    simp only [List.getElem?_toArray, List.getElem?_cons_zero, List.getElem?_cons_succ] at cG0 cG1 cG2
    go_wp2_with fail
    obtain ⟨W9, hW9⟩ : ∃ W9, W9 = ((w8.setCell ⟨g, 0, none⟩ (.int .i64 2)).setCell ⟨g, 1, none⟩ (.int .i64 x1)).setCell ⟨g, 2, none⟩ (.string ⟨#[]⟩) := ⟨_, rfl⟩
    have rA9 : W9.heap[w.heap.size]? = some (.cells #[.int .i64 0, .int .i64 0, .string ⟨#[]⟩] 26 (0, 0)) := (by rw [hW9, heap_setCell_other _ _ _ _ (by show w.heap.size ≠ g; omega), heap_setCell_other _ _ _ _ (by show w.heap.size ≠ g; omega), heap_setCell_other _ _ _ _ (by show w.heap.size ≠ g; omega)]; exact rA8)
    have rB9 : W9.heap[w.heap.size + 1]? = some (.cells #[.int .i64 0, .int .i64 0, .string ⟨#[]⟩] 26 (0, 0)) := (by rw [hW9, heap_setCell_other _ _ _ _ (by show w.heap.size + 1 ≠ g; omega), heap_setCell_other _ _ _ _ (by show w.heap.size + 1 ≠ g; omega), heap_setCell_other _ _ _ _ (by show w.heap.size + 1 ≠ g; omega)]; exact rB8)
    have rG9 : W9.heap[g]? = some (.cells #[.int .i64 2, .int .i64 x1, .string ⟨#[]⟩] 26 (0, 0)) := by rw [hW9, heap_setCell_same _ _ _ _ _ _ (heap_setCell_same _ _ _ _ _ _ (heap_setCell_same _ _ _ _ _ _ rG8))]; rfl
    have hq9 : Below w.heap.size w W9 := by rw [hW9]; exact ((S8.1.setCell (show w.heap.size ≤ g by omega) _).setCell (show w.heap.size ≤ g by omega) _).setCell (show w.heap.size ≤ g by omega) _
    have hC9 : Cur W9 w.heap.size (w.heap.size + 1 + 1) := by rw [hW9]; exact cur_put (cur_put (cur_put S8.2.1 (by omega) (by omega)) (by omega) (by omega)) (by omega) (by omega)
    have hs9 : W9.heap.size = w8.heap.size := by rw [hW9]; simp
    rw [← hW9]
    clear hW9 fG0 fG1 fG2 cG0 cG1 cG2 rA8 rB8 rG8
    have cG0 := cell_of_row _ _ 0 _ _ _ rG9
    have cG1 := cell_of_row _ _ 1 _ _ _ rG9
    have cG2 := cell_of_row _ _ 2 _ _ _ rG9
    simp only [List.getElem?_toArray, List.getElem?_cons_zero, List.getElem?_cons_succ] at cG0 cG1 cG2
    have S9 : Below w.heap.size w W9 ∧ Cur W9 w.heap.size (w.heap.size + 1 + 1) ∧ w.heap.size + 1 < W9.heap.size ∧ g < W9.heap.size ∧ W9.cell? ⟨g, 0, none⟩ = some (.int .i64 2) ∧ W9.cell? ⟨g, 1, none⟩ = some (.int .i64 x1) ∧ W9.cell? ⟨g, 2, none⟩ = some (.string ⟨#[]⟩) := ⟨hq9, hC9, by omega, by omega, cG0, cG1, cG2⟩
    have n1 : w.heap.size < W9.heap.size := by omega
    have n2 : w.heap.size + 1 < W9.heap.size := by omega
    have n5 : w.heap.size + 1 + 1 < W9.heap.size := by omega
    clear hs9
    have HZ : ∀ (o : Obj) (W : World) (X : Nat → Prop), Drawn w.heap.size (w.heap.size + 1 + 1) (W9.alloc o).drew W → W.heap[w.heap.size]? = some (.cells #[.int .i64 0, .int .i64 0, .string ⟨#[]⟩] 26 (0, 0)) ∧ W.heap[w.heap.size + 1]? = some (.cells #[.int .i64 0, .int .i64 0, .string ⟨#[]⟩] 26 (0, 0)) ∧ W9.heap.size < W.heap.size := fun o W X hd => by
      have hs := hd.by'.size
      simp at hs
      exact ⟨(hd.by'.block w.heap.size (by simp; omega) (by simp; try omega)).trans ((Below.heap_alloc W9 o _ n1).trans rA9), (hd.by'.block (w.heap.size + 1) (by simp; omega) (by simp; try omega)).trans ((Below.heap_alloc W9 o _ n2).trans rB9), by omega⟩
    go_wp2_with fail
    go_region_with (first | (go_at_call 47; refine (pickInt_any w.heap.size (w.heap.size + 1 + 1) [2, -2, 0, 3, -3, -1, 9223372036854775807, -9223372036854775808] W9.heap.size 8 _ (cur_drew (cur_alloc hC9 _)) (by omega) (by simp) (by simp) (litV_ints W9 _ _)).mono ?_; rintro e w' ⟨x2, rfl, hx2, hd'⟩; have hz' := HZ _ _ (fun _ => True) hd'; have S6' := sa_draw (sa_below (sa_below S9 (bel_alloc _ _)) (Below.refl _ _).drew) hd' gC) | (go_at_call 31; refine (intV_any x2 _).mono ?_; rintro e w'' ⟨rfl, hb'⟩; have S7' := sa_below S6' hb'; have hs'' := hb'.size; obtain ⟨fA0', fA1', fA2', cA0', cA1', cA2'⟩ := rowZ ((hb'.block w.heap.size (by omega)).trans hz'.1); obtain ⟨fB0', fB1', fB2', cB0', cB1', cB2'⟩ := rowZ ((hb'.block (w.heap.size + 1) (by omega)).trans hz'.2.1)))
    all_goals
      have hx3 : -9223372036854775808 ≤ x2 ∧ x2 ≤ 9223372036854775807 := by simp at hx2; omega
      go_wp2_with fail
      exact bodyPost_ret (v := .tuple #[.string op, .agg #[.int .i64 2, .int .i64 x1, .string ⟨#[]⟩], .agg #[.int .i64 2, .int .i64 x2, .string ⟨#[]⟩]]) (by simp [results, Try.results24, go_sem, *]) rfl ⟨op, _, _, _, _, _, _, rfl, hop2, VDraw.num (by decide) (by decide) hx1.1 hx1.2, VDraw.num (by decide) (by decide) hx3.1 hx3.2, by repeat (first | (with_reducible exact S7'.1) | (with_reducible refine Below.drew ?_) | (with_reducible refine Below.setCell ?_ (by first | exact Nat.le_refl _ | exact Nat.le_succ _) _))⟩
  · have S5d : Below w.heap.size w w5.drew ∧ Cur w5.drew w.heap.size (w.heap.size + 1 + 1) ∧ w.heap.size + 1 < w5.drew.heap.size ∧ g < w5.drew.heap.size ∧ w5.drew.cell? ⟨g, 0, none⟩ = some (.int .i64 k) ∧ w5.drew.cell? ⟨g, 1, none⟩ = some (.int .i64 n) ∧ w5.drew.cell? ⟨g, 2, none⟩ = some (.string s) := sa_below S5 (Below.refl _ _).drew
    go_wp2_with fail
    go_region_with (first | (go_at_call 45; refine (value_any w.heap.size (w.heap.size + 1 + 1) _ (sa_cur S5d)).mono ?_; rintro e w' ⟨k', n', s', rfl, hV', hd'⟩; have hs' := hd'.by'.size; obtain ⟨fA0', fA1', fA2', cA0', cA1', cA2'⟩ := rowZ ((hd'.by'.block w.heap.size n1 (by simp; try omega)).trans rA5); obtain ⟨fB0', fB1', fB2', cB0', cB1', cB2'⟩ := rowZ ((hd'.by'.block (w.heap.size + 1) n2 (by simp; try omega)).trans rB5); have S6 := sa_draw S5d hd' gC))
    all_goals
      go_wp2_with fail
      exact bodyPost_ret (v := .tuple #[.string op, .agg #[.int .i64 k, .int .i64 n, .string s], .agg #[.int .i64 k', .int .i64 n', .string s']]) (by simp [results, Try.results24, go_sem, *]) rfl ⟨op, _, _, _, _, _, _, rfl, hop2, hV, hV', by repeat (first | (with_reducible exact S6.1) | (with_reducible refine Below.drew ?_) | (with_reducible refine Below.setCell ?_ (by first | exact Nat.le_refl _ | exact Nat.le_succ _) _))⟩
end Go.Proofs.Ytoilhbghjiffeaa
