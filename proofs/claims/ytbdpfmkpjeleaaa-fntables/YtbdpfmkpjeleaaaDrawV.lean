/- The draw of a value. -/
import Derived.Test.YtbdpfmkpjeleaaaDrawP
import Derived.Test.YtbdpfmkpjeleaaaValN
namespace Go.Proofs.Ytbdpfmkpjeleaaa
open Go.RowKit

theorem litV_strs (wx : World) (e : TypeId) (ss : List ByteArray) : ∀ (j : Nat) (t : ByteArray), ss[j]? = some t → (wx.alloc (.cells (ss.map Value.string).toArray e)).cell? ⟨wx.heap.size, j, none⟩ = some (.string t) := by
  intro j t ht
  rw [cell_of_row _ wx.heap.size j _ e (0, 0) (heap_alloc_new wx _)]
  simp [ht]
theorem litV_ints (wx : World) (e : TypeId) (ss : List Int) : ∀ (j : Nat) (t : Int), ss[j]? = some t → (wx.alloc (.cells (ss.map (Value.int .i64)).toArray e)).cell? ⟨wx.heap.size, j, none⟩ = some (.int .i64 t) := by
  intro j t ht
  rw [cell_of_row _ wx.heap.size j _ e (0, 0) (heap_alloc_new wx _)]
  simp [ht]

/-- What a drawn value is. -/
structure VDraw (k n : Int) (s : ByteArray) : Prop where
  k0 : -1 ≤ k
  k1 : k ≤ 7
  n0 : -9223372036854775808 ≤ n
  n1 : n ≤ 9223372036854775807
  s0 : k ≠ 3 → s = ⟨#[]⟩
  s1 : s.size ≤ 3
theorem VDraw.num {k n : Int} (h0 : -1 ≤ k) (h1 : k ≤ 7) (h2 : -9223372036854775808 ≤ n) (h3 : n ≤ 9223372036854775807) : VDraw k n ⟨#[]⟩ := ⟨h0, h1, h2, h3, fun _ => rfl, by decide⟩

theorem Drawn.later {B c : Nat} {w w1 w2 : World} (h : Drawn B c w w1) (hb : Below w1.heap.size w1 w2) : Drawn B c w w2 := by
  refine ⟨⟨h.cur.up, ?_⟩, ⟨hb.os.trans h.by'.os, hb.tape.trans h.by'.tape, hb.output.trans h.by'.output, Nat.le_trans h.by'.size hb.size, fun i hi hne => (hb.block i (Nat.lt_of_lt_of_le hi h.by'.size)).trans (h.by'.block i hi hne)⟩⟩
  obtain ⟨a, len, cap, i, x, hh, hc, hi⟩ := h.cur.holds
  exact ⟨a, len, cap, i, x, (hb.block c (cur_lt h.cur)).trans hh, ⟨hc.small, fun j hj => by
    obtain ⟨b, off, y, e, hbb, hx, h0, h1⟩ := hc.cells j hj
    exact ⟨b, off, y, e, hbb, (hb.cell (p := ⟨b, off + j, none⟩) (block_lt_of_cell hx)).trans hx, h0, h1⟩⟩, hi⟩
theorem Drawn.put {B c b j : Nat} {w w1 : World} {v : Value} (h : Drawn B c w w1) (hc : c < w.heap.size) (hb : w.heap.size ≤ b) : Drawn B c w (w1.setCell ⟨b, j, none⟩ v) := by
  have hup := h.cur.up
  refine ⟨⟨hup, ?_⟩, ⟨h.by'.os, h.by'.tape, h.by'.output, by simpa using h.by'.size, fun i hi hne => (heap_setCell_other _ _ _ _ (by show i ≠ b; omega)).trans (h.by'.block i hi hne)⟩⟩
  obtain ⟨a, len, cap, i, x, hh, hcd, hi⟩ := h.cur.holds
  exact ⟨a, len, cap, i, x, (heap_setCell_other _ _ _ _ (by show c ≠ b; omega)).trans hh, ⟨hcd.small, fun j' hj => by
    obtain ⟨b', off, y, e, hbb, hx, h0, h1⟩ := hcd.cells j' hj
    exact ⟨b', off, y, e, hbb, (World.cell?_of_block (w := w1) (heap_setCell_other _ _ _ _ (by show b' ≠ b; omega))).trans hx, h0, h1⟩⟩, hi⟩

theorem rowZ {w : World} {b : Nat} {T : TypeId} (r : w.heap[b]? = some (.cells #[.int .i64 0, .int .i64 0, .string ⟨#[]⟩] T (0, 0))) :
    w.frozen? ⟨b, 0, none⟩ = false ∧ w.frozen? ⟨b, 1, none⟩ = false ∧ w.frozen? ⟨b, 2, none⟩ = false ∧ w.cell? ⟨b, 0, none⟩ = some (.int .i64 0) ∧ w.cell? ⟨b, 1, none⟩ = some (.int .i64 0) ∧ w.cell? ⟨b, 2, none⟩ = some (.string ⟨#[]⟩) :=
  ⟨frozen_of_row _ _ _ _ _ r, frozen_of_row _ _ _ _ _ r, frozen_of_row _ _ _ _ _ r, cell_of_row _ _ _ _ _ _ r, cell_of_row _ _ _ _ _ _ r, cell_of_row _ _ _ _ _ _ r⟩
theorem bool_any (b : Bool) (w : World) : Calls Try.prog 64 #[.bool b] w fun e w' => ∃ n : Int, e = .returned (.agg #[.int .i64 1, .int .i64 n, .string ⟨#[]⟩]) ∧ 0 ≤ n ∧ n ≤ 1 ∧ Below w.heap.size w w' := by
  cases b
  · go_enter Try.func64, Try.ntmps64
    go_wp2
    exact bodyPost_ret (v := .agg #[.int .i64 1, .int .i64 0, .string ⟨#[]⟩]) (by simp [results, Try.results64, go_sem]) rfl ⟨0, rfl, by decide, by decide, by repeat (first | exact Below.refl _ _ | refine Below.setCell ?_ (by simp <;> omega) _ | refine Below.alloc ?_ (by simp <;> omega) _)⟩
  · go_enter Try.func64, Try.ntmps64
    go_wp2
    exact bodyPost_ret (v := .agg #[.int .i64 1, .int .i64 1, .string ⟨#[]⟩]) (by simp [results, Try.results64, go_sem]) rfl ⟨1, rfl, by decide, by decide, by repeat (first | exact Below.refl _ _ | refine Below.setCell ?_ (by simp <;> omega) _ | refine Below.alloc ?_ (by simp <;> omega) _)⟩
theorem intV_any (n : Int) (w : World) : Calls Try.prog 67 #[.int .i64 n] w fun e w' => e = .returned (.agg #[.int .i64 2, .int .i64 n, .string ⟨#[]⟩]) ∧ Below w.heap.size w w' := by
  go_enter Try.func67, Try.ntmps67
  go_wp2
  exact bodyPost_ret (v := .agg #[.int .i64 2, .int .i64 n, .string ⟨#[]⟩]) (by simp [results, Try.results67, go_sem]) rfl ⟨rfl, by repeat (first | exact Below.refl _ _ | refine Below.setCell ?_ (by simp <;> omega) _ | refine Below.alloc ?_ (by simp <;> omega) _)⟩
theorem textV_any (s : ByteArray) (w : World) : Calls Try.prog 57 #[.string s] w fun e w' => e = .returned (.agg #[.int .i64 3, .int .i64 0, .string s]) ∧ Below w.heap.size w w' := by
  go_enter Try.func57, Try.ntmps57
  go_wp2
  exact bodyPost_ret (v := .agg #[.int .i64 3, .int .i64 0, .string s]) (by simp [results, Try.results57, go_sem]) rfl ⟨rfl, by repeat (first | exact Below.refl _ _ | refine Below.setCell ?_ (by simp <;> omega) _ | refine Below.alloc ?_ (by simp <;> omega) _)⟩
def txS : List ByteArray := [⟨#[]⟩, ⟨#[97]⟩, ⟨#[98]⟩, ⟨#[97, 98, 99]⟩, ⟨#[49]⟩]
theorem txS_le (t : ByteArray) (h : t ∈ txS) : t.size ≤ 3 := by
  have : ∀ t ∈ txS, t.size ≤ 3 := by decide
  exact this t h

set_option maxRecDepth 100000 in
set_option maxHeartbeats 1600000 in
theorem value_any (B c : Nat) (w : World) (hC : Cur w B c) :
    Calls Try.prog 46 #[.pointer (some ⟨c, 0, none⟩)] w fun e w' => ∃ k n s, e = .returned (.agg #[.int .i64 k, .int .i64 n, .string s]) ∧ VDraw k n s ∧ Drawn B c w w' := by
  have hlt0 := cur_lt hC
  have hne0 : w.heap.size ≠ c := by omega
  go_enter Try.func46, Try.ntmps46
  go_wp2_with fail
  have hd0 : Drawn B c w (w.alloc (Obj.cells #[Value.int IntKind.i64 0, Value.int IntKind.i64 0, Value.string ⟨#[]⟩] 32)) := (Drawn.refl hC).alloc _
  refine (below_any B c 10 _ hd0.cur (by decide)).mono ?_
  rintro e w1 ⟨x, rfl, hx0, _, hx1, hd⟩
  have hx10 := hx1 (by decide)
  have hs1 := hd.by'.size
  simp at hs1
  have r1 : w1.heap[w.heap.size]? = some (.cells #[.int .i64 0, .int .i64 0, .string ⟨#[]⟩] 32 (0, 0)) := (hd.by'.block w.heap.size (by simp) (by simpa using hne0)).trans (heap_alloc_new _ _)
  have R1 : Hid (w1.heap[w.heap.size]? = some (.cells #[.int .i64 0, .int .i64 0, .string ⟨#[]⟩] 32 (0, 0))) := r1
  obtain ⟨f0, f1, f2, c0, c1, c2⟩ := rowZ r1
  have hd1 := hd0.trans hd
  clear hx1 hd r1
  have hx : x = 0 ∨ x = 1 ∨ x = 2 ∨ x = 3 ∨ x = 4 ∨ x = 5 ∨ x = 6 ∨ x = 7 ∨ x = 8 ∨ x = 9 := by omega
  clear hx0 hx10
  rcases hx with rfl | rfl | rfl | rfl | rfl | rfl | rfl | rfl | rfl | rfl
  · go_wp2_with fail
    exact bodyPost_ret (v := .agg #[.int .i64 0, .int .i64 0, .string ⟨#[]⟩]) (by simp [results, Try.results46, go_sem, *]) rfl ⟨_, _, _, rfl, VDraw.num (by decide) (by decide) (by decide) (by decide), by repeat (first | exact hd1 | refine Drawn.put ?_ hlt0 (by omega))⟩
  · go_wp2_with fail
    refine (once_any B c 2 _ hd1.cur (by decide)).mono ?_
    rintro e w2 ⟨b, rfl, hd2⟩
    clear f0 f1 f2 c0 c1 c2
    have r2 := (hd2.by'.block w.heap.size (by omega) (by simpa using hne0)).trans R1.out
    obtain ⟨f0, f1, f2, c0, c1, c2⟩ := rowZ r2
    have R2 : Hid (w2.heap[w.heap.size]? = some (.cells #[.int .i64 0, .int .i64 0, .string ⟨#[]⟩] 32 (0, 0))) := r2
    clear r2
    have hs2 := hd2.by'.size
    go_wp2_with fail
    refine (bool_any b _).mono ?_
    rintro e w3 ⟨n, rfl, hn0, hn1, hb3⟩
    clear f0 f1 f2 c0 c1 c2
    have r3 := (hb3.block w.heap.size (by omega)).trans R2.out
    obtain ⟨f0, f1, f2, c0, c1, c2⟩ := rowZ r3
    have R3 : Hid (w3.heap[w.heap.size]? = some (.cells #[.int .i64 0, .int .i64 0, .string ⟨#[]⟩] 32 (0, 0))) := r3
    clear r3
    have hs3 := hb3.size
    have hd3 := (hd1.trans hd2).later hb3
    go_wp2_with fail
    exact bodyPost_ret (v := .agg #[.int .i64 1, .int .i64 n, .string ⟨#[]⟩]) (by simp [results, Try.results46, go_sem, *]) rfl ⟨_, _, _, rfl, VDraw.num (by decide) (by decide) (by omega) (by omega), by repeat (first | exact hd3 | refine Drawn.put ?_ hlt0 (by omega))⟩
  · go_wp2_with fail
    refine (below_any B c 100 _ hd1.cur (by decide)).mono ?_
    rintro e w2 ⟨y, rfl, hy0, _, hy1, hd2⟩
    have hy2 := hy1 (by decide)
    clear f0 f1 f2 c0 c1 c2 hy1
    have r2 := (hd2.by'.block w.heap.size (by omega) (by simpa using hne0)).trans R1.out
    obtain ⟨f0, f1, f2, c0, c1, c2⟩ := rowZ r2
    have R2 : Hid (w2.heap[w.heap.size]? = some (.cells #[.int .i64 0, .int .i64 0, .string ⟨#[]⟩] 32 (0, 0))) := r2
    clear r2
    have hs2 := hd2.by'.size
    have hd12 := hd1.trans hd2
    have hlt2 := cur_lt hd2.cur
    go_wp2_with fail
    refine (pickInt_any B c [0, 1, 2, 3, -1, -7, 9223372036854775807, -9223372036854775808, y] w2.heap.size 9 _ (cur_alloc hd2.cur _) (by omega) (by simp) (by simp) (litV_ints w2 _ _)).mono ?_
    rintro e w3 ⟨n, rfl, hn, hd3⟩
    have hn1 : -9223372036854775808 ≤ n ∧ n ≤ 9223372036854775807 := by simp at hn; omega
    clear f0 f1 f2 c0 c1 c2 hn
    have hs3 := hd3.by'.size
    simp at hs3
    have r3 := ((hd3.by'.block w.heap.size (by simp; omega) (by simpa using hne0)).trans (Below.heap_alloc _ _ _ (by omega))).trans R2.out
    obtain ⟨f0, f1, f2, c0, c1, c2⟩ := rowZ r3
    have R3 : Hid (w3.heap[w.heap.size]? = some (.cells #[.int .i64 0, .int .i64 0, .string ⟨#[]⟩] 32 (0, 0))) := r3
    clear r3
    have hd13 := (hd12.alloc _).trans hd3
    go_wp2_with fail
    refine (intV_any n _).mono ?_
    rintro e w4 ⟨rfl, hb4⟩
    clear f0 f1 f2 c0 c1 c2
    have r4 := (hb4.block w.heap.size (by omega)).trans R3.out
    obtain ⟨f0, f1, f2, c0, c1, c2⟩ := rowZ r4
    have R4 : Hid (w4.heap[w.heap.size]? = some (.cells #[.int .i64 0, .int .i64 0, .string ⟨#[]⟩] 32 (0, 0))) := r4
    clear r4
    have hs4 := hb4.size
    have hd4 := hd13.later hb4
    go_wp2_with fail
    exact bodyPost_ret (v := .agg #[.int .i64 2, .int .i64 n, .string ⟨#[]⟩]) (by simp [results, Try.results46, go_sem, *]) rfl ⟨_, _, _, rfl, VDraw.num (by decide) (by decide) hn1.1 hn1.2, by repeat (first | exact hd4 | refine Drawn.put ?_ hlt0 (by omega))⟩
  · go_wp2_with fail
    refine (below_any B c 100 _ hd1.cur (by decide)).mono ?_
    rintro e w2 ⟨y, rfl, hy0, _, hy1, hd2⟩
    have hy2 := hy1 (by decide)
    clear f0 f1 f2 c0 c1 c2 hy1
    have r2 := (hd2.by'.block w.heap.size (by omega) (by simpa using hne0)).trans R1.out
    obtain ⟨f0, f1, f2, c0, c1, c2⟩ := rowZ r2
    have R2 : Hid (w2.heap[w.heap.size]? = some (.cells #[.int .i64 0, .int .i64 0, .string ⟨#[]⟩] 32 (0, 0))) := r2
    clear r2
    have hs2 := hd2.by'.size
    have hd12 := hd1.trans hd2
    have hlt2 := cur_lt hd2.cur
    go_wp2_with fail
    refine (pickInt_any B c [0, 1, 2, 3, -1, -7, 9223372036854775807, -9223372036854775808, y] w2.heap.size 9 _ (cur_alloc hd2.cur _) (by omega) (by simp) (by simp) (litV_ints w2 _ _)).mono ?_
    rintro e w3 ⟨n, rfl, hn, hd3⟩
    have hn1 : -9223372036854775808 ≤ n ∧ n ≤ 9223372036854775807 := by simp at hn; omega
    clear f0 f1 f2 c0 c1 c2 hn
    have hs3 := hd3.by'.size
    simp at hs3
    have r3 := ((hd3.by'.block w.heap.size (by simp; omega) (by simpa using hne0)).trans (Below.heap_alloc _ _ _ (by omega))).trans R2.out
    obtain ⟨f0, f1, f2, c0, c1, c2⟩ := rowZ r3
    have R3 : Hid (w3.heap[w.heap.size]? = some (.cells #[.int .i64 0, .int .i64 0, .string ⟨#[]⟩] 32 (0, 0))) := r3
    clear r3
    have hd13 := (hd12.alloc _).trans hd3
    go_wp2_with fail
    refine (intV_any n _).mono ?_
    rintro e w4 ⟨rfl, hb4⟩
    clear f0 f1 f2 c0 c1 c2
    have r4 := (hb4.block w.heap.size (by omega)).trans R3.out
    obtain ⟨f0, f1, f2, c0, c1, c2⟩ := rowZ r4
    have R4 : Hid (w4.heap[w.heap.size]? = some (.cells #[.int .i64 0, .int .i64 0, .string ⟨#[]⟩] 32 (0, 0))) := r4
    clear r4
    have hs4 := hb4.size
    have hd4 := hd13.later hb4
    go_wp2_with fail
    exact bodyPost_ret (v := .agg #[.int .i64 2, .int .i64 n, .string ⟨#[]⟩]) (by simp [results, Try.results46, go_sem, *]) rfl ⟨_, _, _, rfl, VDraw.num (by decide) (by decide) hn1.1 hn1.2, by repeat (first | exact hd4 | refine Drawn.put ?_ hlt0 (by omega))⟩
  · go_wp2_with fail
    refine (below_any B c 100 _ hd1.cur (by decide)).mono ?_
    rintro e w2 ⟨y, rfl, hy0, _, hy1, hd2⟩
    have hy2 := hy1 (by decide)
    clear f0 f1 f2 c0 c1 c2 hy1
    have r2 := (hd2.by'.block w.heap.size (by omega) (by simpa using hne0)).trans R1.out
    obtain ⟨f0, f1, f2, c0, c1, c2⟩ := rowZ r2
    have R2 : Hid (w2.heap[w.heap.size]? = some (.cells #[.int .i64 0, .int .i64 0, .string ⟨#[]⟩] 32 (0, 0))) := r2
    clear r2
    have hs2 := hd2.by'.size
    have hd12 := hd1.trans hd2
    have hlt2 := cur_lt hd2.cur
    go_wp2_with fail
    refine (pickInt_any B c [0, 1, 2, 3, -1, -7, 9223372036854775807, -9223372036854775808, y] w2.heap.size 9 _ (cur_alloc hd2.cur _) (by omega) (by simp) (by simp) (litV_ints w2 _ _)).mono ?_
    rintro e w3 ⟨n, rfl, hn, hd3⟩
    have hn1 : -9223372036854775808 ≤ n ∧ n ≤ 9223372036854775807 := by simp at hn; omega
    clear f0 f1 f2 c0 c1 c2 hn
    have hs3 := hd3.by'.size
    simp at hs3
    have r3 := ((hd3.by'.block w.heap.size (by simp; omega) (by simpa using hne0)).trans (Below.heap_alloc _ _ _ (by omega))).trans R2.out
    obtain ⟨f0, f1, f2, c0, c1, c2⟩ := rowZ r3
    have R3 : Hid (w3.heap[w.heap.size]? = some (.cells #[.int .i64 0, .int .i64 0, .string ⟨#[]⟩] 32 (0, 0))) := r3
    clear r3
    have hd13 := (hd12.alloc _).trans hd3
    go_wp2_with fail
    refine (intV_any n _).mono ?_
    rintro e w4 ⟨rfl, hb4⟩
    clear f0 f1 f2 c0 c1 c2
    have r4 := (hb4.block w.heap.size (by omega)).trans R3.out
    obtain ⟨f0, f1, f2, c0, c1, c2⟩ := rowZ r4
    have R4 : Hid (w4.heap[w.heap.size]? = some (.cells #[.int .i64 0, .int .i64 0, .string ⟨#[]⟩] 32 (0, 0))) := r4
    clear r4
    have hs4 := hb4.size
    have hd4 := hd13.later hb4
    go_wp2_with fail
    exact bodyPost_ret (v := .agg #[.int .i64 2, .int .i64 n, .string ⟨#[]⟩]) (by simp [results, Try.results46, go_sem, *]) rfl ⟨_, _, _, rfl, VDraw.num (by decide) (by decide) hn1.1 hn1.2, by repeat (first | exact hd4 | refine Drawn.put ?_ hlt0 (by omega))⟩
  · go_wp2_with fail
    have hlt1 := cur_lt hd1.cur
    refine (pick_any B c txS w1.heap.size 5 _ (cur_alloc hd1.cur _) (by omega) (by decide) (by decide) (litV_strs w1 _ txS)).mono ?_
    rintro e w2 ⟨tx, rfl, htx, hd2⟩
    have ht3 := txS_le tx htx
    clear f0 f1 f2 c0 c1 c2 htx
    have hs2 := hd2.by'.size
    simp at hs2
    have r2 := ((hd2.by'.block w.heap.size (by simp; omega) (by simpa using hne0)).trans (Below.heap_alloc _ _ _ (by omega))).trans R1.out
    obtain ⟨f0, f1, f2, c0, c1, c2⟩ := rowZ r2
    have R2 : Hid (w2.heap[w.heap.size]? = some (.cells #[.int .i64 0, .int .i64 0, .string ⟨#[]⟩] 32 (0, 0))) := r2
    clear r2
    have hd12 := (hd1.alloc _).trans hd2
    go_wp2_with fail
    refine (textV_any tx _).mono ?_
    rintro e w3 ⟨rfl, hb3⟩
    clear f0 f1 f2 c0 c1 c2
    have r3 := (hb3.block w.heap.size (by omega)).trans R2.out
    obtain ⟨f0, f1, f2, c0, c1, c2⟩ := rowZ r3
    have R3 : Hid (w3.heap[w.heap.size]? = some (.cells #[.int .i64 0, .int .i64 0, .string ⟨#[]⟩] 32 (0, 0))) := r3
    clear r3
    have hs3 := hb3.size
    have hd3 := hd12.later hb3
    go_wp2_with fail
    exact bodyPost_ret (v := .agg #[.int .i64 3, .int .i64 0, .string tx]) (by simp [results, Try.results46, go_sem, *]) rfl ⟨_, _, _, rfl, ⟨by decide, by decide, by decide, by decide, fun h => absurd rfl h, ht3⟩, by repeat (first | exact hd3 | refine Drawn.put ?_ hlt0 (by omega))⟩
  · go_wp2_with fail
    have hlt1 := cur_lt hd1.cur
    refine (pick_any B c txS w1.heap.size 5 _ (cur_alloc hd1.cur _) (by omega) (by decide) (by decide) (litV_strs w1 _ txS)).mono ?_
    rintro e w2 ⟨tx, rfl, htx, hd2⟩
    have ht3 := txS_le tx htx
    clear f0 f1 f2 c0 c1 c2 htx
    have hs2 := hd2.by'.size
    simp at hs2
    have r2 := ((hd2.by'.block w.heap.size (by simp; omega) (by simpa using hne0)).trans (Below.heap_alloc _ _ _ (by omega))).trans R1.out
    obtain ⟨f0, f1, f2, c0, c1, c2⟩ := rowZ r2
    have R2 : Hid (w2.heap[w.heap.size]? = some (.cells #[.int .i64 0, .int .i64 0, .string ⟨#[]⟩] 32 (0, 0))) := r2
    clear r2
    have hd12 := (hd1.alloc _).trans hd2
    go_wp2_with fail
    refine (textV_any tx _).mono ?_
    rintro e w3 ⟨rfl, hb3⟩
    clear f0 f1 f2 c0 c1 c2
    have r3 := (hb3.block w.heap.size (by omega)).trans R2.out
    obtain ⟨f0, f1, f2, c0, c1, c2⟩ := rowZ r3
    have R3 : Hid (w3.heap[w.heap.size]? = some (.cells #[.int .i64 0, .int .i64 0, .string ⟨#[]⟩] 32 (0, 0))) := r3
    clear r3
    have hs3 := hb3.size
    have hd3 := hd12.later hb3
    go_wp2_with fail
    exact bodyPost_ret (v := .agg #[.int .i64 3, .int .i64 0, .string tx]) (by simp [results, Try.results46, go_sem, *]) rfl ⟨_, _, _, rfl, ⟨by decide, by decide, by decide, by decide, fun h => absurd rfl h, ht3⟩, by repeat (first | exact hd3 | refine Drawn.put ?_ hlt0 (by omega))⟩
  · go_wp2_with fail
    have hlt1 := cur_lt hd1.cur
    refine (pickInt_any B c [0, 0, 1, 1, 2, -1] w1.heap.size 6 _ (cur_alloc hd1.cur _) (by omega) (by simp) (by simp) (litV_ints w1 _ _)).mono ?_
    rintro e w2 ⟨n, rfl, hn, hd2⟩
    have hn1 : -9223372036854775808 ≤ n ∧ n ≤ 9223372036854775807 := by simp at hn; omega
    clear f0 f1 f2 c0 c1 c2 hn
    have hs2 := hd2.by'.size
    simp at hs2
    have r2 := ((hd2.by'.block w.heap.size (by simp; omega) (by simpa using hne0)).trans (Below.heap_alloc _ _ _ (by omega))).trans R1.out
    obtain ⟨f0, f1, f2, c0, c1, c2⟩ := rowZ r2
    have R2 : Hid (w2.heap[w.heap.size]? = some (.cells #[.int .i64 0, .int .i64 0, .string ⟨#[]⟩] 32 (0, 0))) := r2
    clear r2
    have hd12 := (hd1.alloc _).trans hd2
    go_wp2_with fail
    exact bodyPost_ret (v := .agg #[.int .i64 4, .int .i64 n, .string ⟨#[]⟩]) (by simp [results, Try.results46, go_sem, *]) rfl ⟨_, _, _, rfl, VDraw.num (by decide) (by decide) hn1.1 hn1.2, by repeat (first | exact hd12 | refine Drawn.put ?_ hlt0 (by omega))⟩
  · go_wp2_with fail
    refine (below_any B c 2 _ hd1.cur (by decide)).mono ?_
    rintro e w2 ⟨n, rfl, hn0, hn1, _, hd2⟩
    clear f0 f1 f2 c0 c1 c2
    have r2 := (hd2.by'.block w.heap.size (by omega) (by simpa using hne0)).trans R1.out
    obtain ⟨f0, f1, f2, c0, c1, c2⟩ := rowZ r2
    have R2 : Hid (w2.heap[w.heap.size]? = some (.cells #[.int .i64 0, .int .i64 0, .string ⟨#[]⟩] 32 (0, 0))) := r2
    clear r2
    have hs2 := hd2.by'.size
    have hd12 := hd1.trans hd2
    go_wp2_with fail
    exact bodyPost_ret (v := .agg #[.int .i64 5, .int .i64 n, .string ⟨#[]⟩]) (by simp [results, Try.results46, go_sem, *]) rfl ⟨_, _, _, rfl, VDraw.num (by decide) (by decide) (by omega) (by omega), by repeat (first | exact hd12 | refine Drawn.put ?_ hlt0 (by omega))⟩
  · go_wp2_with fail
    have hlt1 := cur_lt hd1.cur
    refine (pickInt_any B c [6, 7, -1] w1.heap.size 3 _ (cur_alloc hd1.cur _) (by omega) (by simp) (by simp) (litV_ints w1 _ _)).mono ?_
    rintro e w2 ⟨k, rfl, hk, hd2⟩
    have hk1 : -1 ≤ k ∧ k ≤ 7 := by simp at hk; omega
    clear f0 f1 f2 c0 c1 c2 hk
    have hs2 := hd2.by'.size
    simp at hs2
    have r2 := ((hd2.by'.block w.heap.size (by simp; omega) (by simpa using hne0)).trans (Below.heap_alloc _ _ _ (by omega))).trans R1.out
    obtain ⟨f0, f1, f2, c0, c1, c2⟩ := rowZ r2
    have R2 : Hid (w2.heap[w.heap.size]? = some (.cells #[.int .i64 0, .int .i64 0, .string ⟨#[]⟩] 32 (0, 0))) := r2
    clear r2
    have hd12 := (hd1.alloc _).trans hd2
    go_wp2_with fail
    refine (below_any B c 3 _ hd12.cur (by decide)).mono ?_
    rintro e w3 ⟨n, rfl, hn0, hn1, _, hd3⟩
    clear f0 f1 f2 c0 c1 c2
    have r3 := (hd3.by'.block w.heap.size (by omega) (by simpa using hne0)).trans R2.out
    obtain ⟨f0, f1, f2, c0, c1, c2⟩ := rowZ r3
    have R3 : Hid (w3.heap[w.heap.size]? = some (.cells #[.int .i64 0, .int .i64 0, .string ⟨#[]⟩] 32 (0, 0))) := r3
    clear r3
    have hs3 := hd3.by'.size
    have hd13 := hd12.trans hd3
    go_wp2_with fail
    exact bodyPost_ret (v := .agg #[.int .i64 k, .int .i64 n, .string ⟨#[]⟩]) (by simp [results, Try.results46, go_sem, *]) rfl ⟨_, _, _, rfl, VDraw.num hk1.1 hk1.2 (by omega) (by omega), by repeat (first | exact hd13 | refine Drawn.put ?_ hlt0 (by omega))⟩
end Go.Proofs.Ytbdpfmkpjeleaaa
