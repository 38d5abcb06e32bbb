/- Machines in a row are found marked. -/
import Derived.Test.YtgibejgemokljaaTrM
import Derived.Test.YtgibejgemokljaaOwI
namespace Go.Proofs.Ytgibejgemokljaa
open Go.RowKit

set_option maxRecDepth 100000 in
set_option maxHeartbeats 4000000 in
theorem hdVmS_any (xs : List VmD) (a : Option Addr) (cap K : Nat) (z : Int) (S : Nat → Prop) (w : World) (hS : ∀ b, S b → b < w.heap.size) (hR0 : RowD 10 VmOwn w S (mkR Vmmd Vmmn K xs) a) (hz : z = K) (hK : 0 < K) (hn : K + mnR Vmmn xs ≤ 1099511627776) (hl : xs.length ≤ maxLen) :
    Calls Try.prog 70 #[.slice a xs.length cap, .int .i64 z] w fun e w' => e = .returned (.int .i64 ((K + mnR Vmmn xs : Nat) : Int)) ∧ Below w.heap.size w w' := by
  subst hz
  unfold maxLen at hl
  have hR := hR0.imp fun _ _ _ _ h => VmOwn.fl h
  have hx : ∀ i (h : i < xs.length), ∃ g, a = some ⟨g, 0, none⟩ ∧ g < w.heap.size ∧ ∃ V l, (∀ b, V b → b < w.heap.size) ∧ VmFl w V (Vmmd (K + mnR Vmmn (xs.take i)) xs[i]) l ∧ ∀ j, j < 10 → w.cell? ⟨g, 10 * i + j, none⟩ = l[j]? := fun i h => by
    have hi : i < (mkR Vmmd Vmmn K xs).length := by rw [mkR_len]; exact h
    rcases hR with h' | ⟨g, cs, T, rfl, h2, h3, h4, U, h5, h6⟩
    · have := congrArg List.length h'; rw [mkR_len, List.length_nil] at this; omega
    · obtain ⟨l, hO, _, hc⟩ := h6 i hi
      rw [mkR_get Vmmd Vmmn xs K i hi h] at hO
      exact ⟨g, rfl, hS g h2, U i, l, fun b hb => hS b (h5.within i b hb).1, hO, fun j hj => (cell_of_row _ _ _ _ _ _ h3).trans (hc j hj)⟩
  clear hR hR0 hS
  go_enter Try.func70, Try.ntmps70
  go_wp2_with fail
  go_loopw [1, 5] (fun kk aa wr => ∃ i : Nat, kk = .int .i64 ((K + mnR Vmmn (xs.take i) : Nat) : Int) ∧ aa = .int .i64 i ∧ i ≤ xs.length ∧ Below w.heap.size w wr) (fun _ aa _ => xs.length - (intOf aa).toNat)
  case atStart => exact ⟨0, by simp [mnR], rfl, Nat.zero_le _, Below.refl _ _⟩
  case round =>
    rename World => wo
    obtain ⟨i, rfl, rfl, hi, hby⟩ := hrel
    by_cases hlt : i < xs.length
    · obtain ⟨g, rfl, hg, S1, l, hS1, hO0, hcell⟩ := hx i hlt
      have hO := VmFl_keeps.below hS1 hby hO0
      have HSS : Hid (∀ b, S1 b → b < w.heap.size) := hS1
      have ho := mnR_take Vmmn xs i hlt
      have hol := mnR_take_le Vmmn xs (i + 1)
      have hsz := hby.size
      have hgo : g < wo.heap.size := Nat.lt_of_lt_of_le hg hsz
      have HX : Hid (∀ i (h : i < xs.length), ∃ g', some (⟨g, 0, none⟩ : Addr) = some ⟨g', 0, none⟩ ∧ g' < w.heap.size ∧ ∃ V l, (∀ b, V b → b < w.heap.size) ∧ VmFl w V (Vmmd (K + mnR Vmmn (xs.take i)) xs[i]) l ∧ ∀ j, j < 10 → w.cell? ⟨g', 10 * i + j, none⟩ = l[j]?) := hx
      clear hx hS1 hO0
      obtain ⟨x, hxx⟩ : ∃ x, x = xs[i] := ⟨_, rfl⟩
      rw [← hxx] at hO ho
      obtain ⟨N, hN⟩ : ∃ N, N = K + mnR Vmmn (xs.take i) := ⟨_, rfl⟩
      have HNO : Hid (K + mnR Vmmn (xs.take (i + 1)) = N + Vmmn x) := by show _ = _; omega
      have hN0 : 0 < N := by omega
      have hN1 : N + Vmmn x ≤ 1099511627776 := by omega
      rw [← hN] at hO ⊢
      clear hN ho hol hxx
      have hN2 := hN1
      unfold Vmmn at hN2
      obtain ⟨ok, V, pv, a_heap_tables, c_heap_tables, a_heap_cells, c_heap_cells, a_funs, c_funs, a_frames, c_frames, a_out, c_out, rfl, l_heap_tables, r_heap_tables, l_heap_cells, r_heap_cells, l_funs, r_funs, l_frames, r_frames, l_out, r_out⟩ := hO
      have h_heap_tables : (Vmmd N x).heap.tables.length = x.heap.tables.length := mkR_len _ _ _ _
      rw [h_heap_tables] at hcell l_heap_tables
      have h_heap_cells : (Vmmd N x).heap.cells.length = x.heap.cells.length := mkF_len _ _ _ _
      rw [h_heap_cells] at hcell l_heap_cells
      have h_funs : (Vmmd N x).funs.length = x.funs.length := mkR_len _ _ _ _
      rw [h_funs] at hcell l_funs
      have h_frames : (Vmmd N x).frames.length = x.frames.length := mkR_len _ _ _ _
      rw [h_frames] at hcell l_frames
      have h_out : (Vmmd N x).out.length = x.out.length := mkF_len _ _ _ _
      rw [h_out] at hcell l_out
      have c0 := (hby.cell (p := ⟨g, 10 * i + 0, none⟩) hg).trans (hcell 0 (by decide))
      have c1 := (hby.cell (p := ⟨g, 10 * i + 1, none⟩) hg).trans (hcell 1 (by decide))
      have c2 := (hby.cell (p := ⟨g, 10 * i + 2, none⟩) hg).trans (hcell 2 (by decide))
      have c3 := (hby.cell (p := ⟨g, 10 * i + 3, none⟩) hg).trans (hcell 3 (by decide))
      have c4 := (hby.cell (p := ⟨g, 10 * i + 4, none⟩) hg).trans (hcell 4 (by decide))
      have c5 := (hby.cell (p := ⟨g, 10 * i + 5, none⟩) hg).trans (hcell 5 (by decide))
      have c6 := (hby.cell (p := ⟨g, 10 * i + 6, none⟩) hg).trans (hcell 6 (by decide))
      have c7 := (hby.cell (p := ⟨g, 10 * i + 7, none⟩) hg).trans (hcell 7 (by decide))
      have c8 := (hby.cell (p := ⟨g, 10 * i + 8, none⟩) hg).trans (hcell 8 (by decide))
      have c9 := (hby.cell (p := ⟨g, 10 * i + 9, none⟩) hg).trans (hcell 9 (by decide))
      simp only [List.getElem?_cons_zero, List.getElem?_cons_succ] at c0 c1 c2 c3 c4 c5 c6 c7 c8 c9
      clear hcell
      rw [Nat.add_zero] at c0
      have mW : i * 10 = 10 * i := Nat.mul_comm _ _
      replace c5 : wo.cell? ⟨g, 10 * i + 5, none⟩ = some (.int .i64 ((N : Int) + ((mnR PairSmn x.heap.tables : Nat) : Int) + 3 * (x.heap.cells.length : Int) + ((mnR Closuremn x.funs : Nat) : Int) + ((mnR Framemn x.frames : Nat) : Int) + (x.out.length : Int))) := c5.trans (congrArg (fun z => some (Value.int .i64 z)) (by simp only [Vmmd]; push_cast; omega))
      replace c6 : wo.cell? ⟨g, 10 * i + 6, none⟩ = some (.int .i64 ((N : Int) + ((mnR PairSmn x.heap.tables : Nat) : Int) + 3 * (x.heap.cells.length : Int) + ((mnR Closuremn x.funs : Nat) : Int) + ((mnR Framemn x.frames : Nat) : Int) + (x.out.length : Int) + 1)) := c6.trans (congrArg (fun z => some (Value.int .i64 z)) (by simp only [Vmmd]; push_cast; omega))
      replace c7 : wo.cell? ⟨g, 10 * i + 7, none⟩ = some (.int .i64 ((N : Int) + ((mnR PairSmn x.heap.tables : Nat) : Int) + 3 * (x.heap.cells.length : Int) + ((mnR Closuremn x.funs : Nat) : Int) + ((mnR Framemn x.frames : Nat) : Int) + (x.out.length : Int) + 1 + 1)) := c7.trans (congrArg (fun z => some (Value.int .i64 z)) (by simp only [Vmmd]; push_cast; omega))
      replace c8 : wo.cell? ⟨g, 10 * i + 8, none⟩ = some (.int .i64 ((N : Int) + ((mnR PairSmn x.heap.tables : Nat) : Int) + 3 * (x.heap.cells.length : Int) + ((mnR Closuremn x.funs : Nat) : Int) + ((mnR Framemn x.frames : Nat) : Int) + (x.out.length : Int) + 1 + 1 + 1)) := c8.trans (congrArg (fun z => some (Value.int .i64 z)) (by simp only [Vmmd]; push_cast; omega))
      obtain ⟨tx, htx⟩ : ∃ t, t = (⟨(markB (N + mnR PairSmn x.heap.tables + 3 * x.heap.cells.length + mnR Closuremn x.funs + mnR Framemn x.frames + 1 * x.out.length + 1 + 1 + 1 + 1)).toArray⟩ : ByteArray) := ⟨_, rfl⟩
      replace c9 : wo.cell? ⟨g, 10 * i + 9, none⟩ = some (.string tx) := by rw [htx]; exact c9
      have HTX : Hid (tx = (⟨(markB (N + mnR PairSmn x.heap.tables + 3 * x.heap.cells.length + mnR Closuremn x.funs + mnR Framemn x.frames + 1 * x.out.length + 1 + 1 + 1 + 1)).toArray⟩ : ByteArray)) := htx
      clear htx
      have r_heap_tables : RowD 1 PairSOwn wo (V 0) (mkR PairSmd PairSmn (N) x.heap.tables) a_heap_tables := r_heap_tables
      have r_heap_cells : RowD 3 ValOwn wo (V 1) (mkF Valuemk 3 (N + mnR PairSmn x.heap.tables) x.heap.cells.length) a_heap_cells := r_heap_cells
      have r_funs : RowD 2 ClosureOwn wo (V 2) (mkR Closuremd Closuremn (N + mnR PairSmn x.heap.tables + 3 * x.heap.cells.length) x.funs) a_funs := r_funs
      have r_frames : RowD 6 FrameOwn wo (V 3) (mkR Framemd Framemn (N + mnR PairSmn x.heap.tables + 3 * x.heap.cells.length + mnR Closuremn x.funs) x.frames) a_frames := r_frames
      have r_out : RowD 1 StrOwn wo (V 4) (mkF Stringmk 1 (N + mnR PairSmn x.heap.tables + 3 * x.heap.cells.length + mnR Closuremn x.funs + mnR Framemn x.frames) x.out.length) a_out := r_out
      go_wp2_with fail
      refine (hdPairSS_any x.heap.tables a_heap_tables c_heap_tables (N) _ _ _ (fun b hb => by have := HSS.out b (pv.within 0 b hb); omega) r_heap_tables (by push_cast; omega) (by omega) (by omega) l_heap_tables).mono ?_
      rintro e w1 ⟨rfl, hb1⟩
      have B1 := hby.trans (hb1.mono hby.size)
      have s1 := hb1.size
      have r_heap_cells := r_heap_cells.below ValOwn_keeps (fun b hb => by have := HSS.out b (pv.within 1 b hb); omega) hb1
      have r_funs := r_funs.below ClosureOwn_keeps (fun b hb => by have := HSS.out b (pv.within 2 b hb); omega) hb1
      have r_frames := r_frames.below FrameOwn_keeps (fun b hb => by have := HSS.out b (pv.within 3 b hb); omega) hb1
      have r_out := r_out.below StrOwn_keeps (fun b hb => by have := HSS.out b (pv.within 4 b hb); omega) hb1
      have c0 := (hb1.cell (p := ⟨g, 10 * i, none⟩) (by show g < _; omega)).trans c0
      have c1 := (hb1.cell (p := ⟨g, 10 * i + 1, none⟩) (by show g < _; omega)).trans c1
      have c2 := (hb1.cell (p := ⟨g, 10 * i + 2, none⟩) (by show g < _; omega)).trans c2
      have c3 := (hb1.cell (p := ⟨g, 10 * i + 3, none⟩) (by show g < _; omega)).trans c3
      have c4 := (hb1.cell (p := ⟨g, 10 * i + 4, none⟩) (by show g < _; omega)).trans c4
      have c5 := (hb1.cell (p := ⟨g, 10 * i + 5, none⟩) (by show g < _; omega)).trans c5
      have c6 := (hb1.cell (p := ⟨g, 10 * i + 6, none⟩) (by show g < _; omega)).trans c6
      have c7 := (hb1.cell (p := ⟨g, 10 * i + 7, none⟩) (by show g < _; omega)).trans c7
      have c8 := (hb1.cell (p := ⟨g, 10 * i + 8, none⟩) (by show g < _; omega)).trans c8
      have c9 := (hb1.cell (p := ⟨g, 10 * i + 9, none⟩) (by show g < _; omega)).trans c9
      go_wp2_with fail
      refine (hdValueS_any x.heap.cells.length a_heap_cells c_heap_cells (N + mnR PairSmn x.heap.tables) _ _ _ r_heap_cells (by push_cast; omega) (by omega) (by omega)).mono ?_
      rintro e w2 ⟨rfl, hb2⟩
      have B2 := B1.trans (hb2.mono B1.size)
      have s2 := hb2.size
      have r_funs := r_funs.below ClosureOwn_keeps (fun b hb => by have := HSS.out b (pv.within 2 b hb); omega) hb2
      have r_frames := r_frames.below FrameOwn_keeps (fun b hb => by have := HSS.out b (pv.within 3 b hb); omega) hb2
      have r_out := r_out.below StrOwn_keeps (fun b hb => by have := HSS.out b (pv.within 4 b hb); omega) hb2
      have c0 := (hb2.cell (p := ⟨g, 10 * i, none⟩) (by show g < _; omega)).trans c0
      have c1 := (hb2.cell (p := ⟨g, 10 * i + 1, none⟩) (by show g < _; omega)).trans c1
      have c2 := (hb2.cell (p := ⟨g, 10 * i + 2, none⟩) (by show g < _; omega)).trans c2
      have c3 := (hb2.cell (p := ⟨g, 10 * i + 3, none⟩) (by show g < _; omega)).trans c3
      have c4 := (hb2.cell (p := ⟨g, 10 * i + 4, none⟩) (by show g < _; omega)).trans c4
      have c5 := (hb2.cell (p := ⟨g, 10 * i + 5, none⟩) (by show g < _; omega)).trans c5
      have c6 := (hb2.cell (p := ⟨g, 10 * i + 6, none⟩) (by show g < _; omega)).trans c6
      have c7 := (hb2.cell (p := ⟨g, 10 * i + 7, none⟩) (by show g < _; omega)).trans c7
      have c8 := (hb2.cell (p := ⟨g, 10 * i + 8, none⟩) (by show g < _; omega)).trans c8
      have c9 := (hb2.cell (p := ⟨g, 10 * i + 9, none⟩) (by show g < _; omega)).trans c9
      go_wp2_with fail
      refine (hdClosureS_any x.funs a_funs c_funs (N + mnR PairSmn x.heap.tables + 3 * x.heap.cells.length) _ _ _ (fun b hb => by have := HSS.out b (pv.within 2 b hb); omega) r_funs (by push_cast; omega) (by omega) (by omega) l_funs).mono ?_
      rintro e w3 ⟨rfl, hb3⟩
      have B3 := B2.trans (hb3.mono B2.size)
      have s3 := hb3.size
      have r_frames := r_frames.below FrameOwn_keeps (fun b hb => by have := HSS.out b (pv.within 3 b hb); omega) hb3
      have r_out := r_out.below StrOwn_keeps (fun b hb => by have := HSS.out b (pv.within 4 b hb); omega) hb3
      have c0 := (hb3.cell (p := ⟨g, 10 * i, none⟩) (by show g < _; omega)).trans c0
      have c1 := (hb3.cell (p := ⟨g, 10 * i + 1, none⟩) (by show g < _; omega)).trans c1
      have c2 := (hb3.cell (p := ⟨g, 10 * i + 2, none⟩) (by show g < _; omega)).trans c2
      have c3 := (hb3.cell (p := ⟨g, 10 * i + 3, none⟩) (by show g < _; omega)).trans c3
      have c4 := (hb3.cell (p := ⟨g, 10 * i + 4, none⟩) (by show g < _; omega)).trans c4
      have c5 := (hb3.cell (p := ⟨g, 10 * i + 5, none⟩) (by show g < _; omega)).trans c5
      have c6 := (hb3.cell (p := ⟨g, 10 * i + 6, none⟩) (by show g < _; omega)).trans c6
      have c7 := (hb3.cell (p := ⟨g, 10 * i + 7, none⟩) (by show g < _; omega)).trans c7
      have c8 := (hb3.cell (p := ⟨g, 10 * i + 8, none⟩) (by show g < _; omega)).trans c8
      have c9 := (hb3.cell (p := ⟨g, 10 * i + 9, none⟩) (by show g < _; omega)).trans c9
      go_wp2_with fail
      refine (hdFrameS_any x.frames a_frames c_frames (N + mnR PairSmn x.heap.tables + 3 * x.heap.cells.length + mnR Closuremn x.funs) _ _ _ (fun b hb => by have := HSS.out b (pv.within 3 b hb); omega) r_frames (by push_cast; omega) (by omega) (by omega) l_frames).mono ?_
      rintro e w4 ⟨rfl, hb4⟩
      have B4 := B3.trans (hb4.mono B3.size)
      have s4 := hb4.size
      have r_out := r_out.below StrOwn_keeps (fun b hb => by have := HSS.out b (pv.within 4 b hb); omega) hb4
      have c0 := (hb4.cell (p := ⟨g, 10 * i, none⟩) (by show g < _; omega)).trans c0
      have c1 := (hb4.cell (p := ⟨g, 10 * i + 1, none⟩) (by show g < _; omega)).trans c1
      have c2 := (hb4.cell (p := ⟨g, 10 * i + 2, none⟩) (by show g < _; omega)).trans c2
      have c3 := (hb4.cell (p := ⟨g, 10 * i + 3, none⟩) (by show g < _; omega)).trans c3
      have c4 := (hb4.cell (p := ⟨g, 10 * i + 4, none⟩) (by show g < _; omega)).trans c4
      have c5 := (hb4.cell (p := ⟨g, 10 * i + 5, none⟩) (by show g < _; omega)).trans c5
      have c6 := (hb4.cell (p := ⟨g, 10 * i + 6, none⟩) (by show g < _; omega)).trans c6
      have c7 := (hb4.cell (p := ⟨g, 10 * i + 7, none⟩) (by show g < _; omega)).trans c7
      have c8 := (hb4.cell (p := ⟨g, 10 * i + 8, none⟩) (by show g < _; omega)).trans c8
      have c9 := (hb4.cell (p := ⟨g, 10 * i + 9, none⟩) (by show g < _; omega)).trans c9
      go_wp2_with fail
      refine (hdStringS_any x.out.length a_out c_out (N + mnR PairSmn x.heap.tables + 3 * x.heap.cells.length + mnR Closuremn x.funs + mnR Framemn x.frames) _ _ _ r_out (by push_cast; omega) (by omega) (by omega)).mono ?_
      rintro e w5 ⟨rfl, hb5⟩
      have B5 := B4.trans (hb5.mono B4.size)
      have s5 := hb5.size
      have c0 := (hb5.cell (p := ⟨g, 10 * i, none⟩) (by show g < _; omega)).trans c0
      have c1 := (hb5.cell (p := ⟨g, 10 * i + 1, none⟩) (by show g < _; omega)).trans c1
      have c2 := (hb5.cell (p := ⟨g, 10 * i + 2, none⟩) (by show g < _; omega)).trans c2
      have c3 := (hb5.cell (p := ⟨g, 10 * i + 3, none⟩) (by show g < _; omega)).trans c3
      have c4 := (hb5.cell (p := ⟨g, 10 * i + 4, none⟩) (by show g < _; omega)).trans c4
      have c5 := (hb5.cell (p := ⟨g, 10 * i + 5, none⟩) (by show g < _; omega)).trans c5
      have c6 := (hb5.cell (p := ⟨g, 10 * i + 6, none⟩) (by show g < _; omega)).trans c6
      have c7 := (hb5.cell (p := ⟨g, 10 * i + 7, none⟩) (by show g < _; omega)).trans c7
      have c8 := (hb5.cell (p := ⟨g, 10 * i + 8, none⟩) (by show g < _; omega)).trans c8
      have c9 := (hb5.cell (p := ⟨g, 10 * i + 9, none⟩) (by show g < _; omega)).trans c9
      go_wp2_with fail
      have kx : g < w5.heap.size := by omega
      go_region_held (fun w' => w'.cell? ⟨g, 10 * i + 9, none⟩ = some (.string tx)) (go_keep) (first | (go_at_call 108; refine (mark_at _ (N + mnR PairSmn x.heap.tables + 3 * x.heap.cells.length + mnR Closuremn x.funs + mnR Framemn x.frames + 1 * x.out.length + 1 + 1 + 1 + 1) _ (by push_cast; omega) (by omega) (by omega)).mono ?_; rintro e wt ⟨rfl, hbt⟩; rw [← HTX.out]; have qt := (hbt.cell (p := ⟨g, 10 * i + 9, none⟩) kx).trans c9))
      have Bt : Below w.heap.size w wt := B5.drew.trans (hbt.mono B5.size)
      go_wp2_with fail
      go_roundw
      case rel => exact ⟨i + 1, by rw [HNO.out]; exact congrArg (Value.int .i64) (by unfold Vmmn; push_cast; omega), by go_num, by omega, Bt⟩
      case measure => simp [intOf]; omega
    · obtain rfl : i = xs.length := by omega
      clear hx
      rw [List.take_length]
      go_wp2_with fail
      go_ret
      exact ⟨rfl, hby⟩
end Go.Proofs.Ytgibejgemokljaa
