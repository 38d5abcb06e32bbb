/- How a machine has ended: the program. -/
import Derived.Test.YtfcmnmojejoeeaaOutS
import Derived.Test.YtfcmnmojejoeeaaCloA
namespace Go.Proofs.Ytfcmnmojejoeeaa
open Go.RowKit

set_option maxRecDepth 100000 in
set_option maxHeartbeats 1600000 in
theorem texts_impl (xs : List ByteArray) (a : Option Addr) (ca lo hi : Nat) (w : World) (hh : hi ≤ w.heap.size) (hw : wtR ByteArray.size xs ≤ 1048576) (hS : RowAt 1 StrC w lo hi xs a) :
    Calls Try.prog 60 #[.slice a xs.length ca] w fun e w' => (∃ b cb, e = .returned (.slice b xs.length cb) ∧ RowD 1 StrOwn w' (In w.heap.size w'.heap.size) xs b) ∧ Below w.heap.size w w' := by
  have hn := len_wtR ByteArray.size xs
  obtain ⟨i0, hi0, hz0, hz1, hz2⟩ := info_parts infO_String
  have HSO : Hid (∀ i (h : i < xs.length), (xs[i]).size ≤ maxLen) := fun i h => by
    obtain ⟨_, _, _, _, _, _, ⟨h1, _⟩, _⟩ := hS i h
    exact h1
  go_enter Try.func60, Try.ntmps60
  go_wp2_with fail
  go_loopw [3, 8] (fun x y wr => ∃ (i : Nat) (b : Option Addr) (c : Nat), x = .slice b i c ∧ y = .int .i64 i ∧ i ≤ xs.length ∧ wr.ownsRow w.heap.size 9 1 (.slice b i c) i ((xs.take i).flatMap fun s => [Value.string s]) ∧ Below w.heap.size w wr) (fun _ y _ => xs.length - (intOf y).toNat)
  case atStart => exact ⟨0, none, 0, rfl, rfl, Nat.zero_le _, ⟨rfl, .inl ⟨rfl, rfl⟩⟩, Below.refl _ _⟩
  case round =>
    obtain ⟨i, b, c, rfl, rfl, hil, own, hbl⟩ := hrel
    by_cases hlt : i < xs.length
    · obtain ⟨g, o, cx, rfl, _, hg, ⟨ok, rfl⟩, _, hc⟩ := hS i hlt
      have hwm := wtR_mem ByteArray.size xs i hlt
      have x0 := (hbl.cell (p := ⟨g, o + 1 * i + 0, none⟩) (by show g < _; omega)).trans (hc 0 (by decide))
      simp only [List.getElem?_cons_zero, Nat.add_zero, Nat.one_mul] at x0
      have HT : Hid ((xs.take (i + 1)).flatMap (fun s => [Value.string s]) = (xs.take i).flatMap (fun s => [Value.string s]) ++ [.string xs[i]]) := by
        show _ = _
        rw [List.take_succ_eq_append_getElem hlt, List.flatMap_append]; simp
      have HOWN : Hid (wr.ownsRow w.heap.size 9 1 (.slice b i c) i ((xs.take i).flatMap fun s => [Value.string s])) := own
      have HBL : Hid (Below w.heap.size w wr) := hbl
      have hsz := hbl.size
      obtain ⟨s, hs⟩ : ∃ s, s = xs[i] := ⟨_, rfl⟩
      rw [← hs] at x0 hwm HT ok
      clear hs hS hc own hbl
      go_wp2_with fail
      refine (clone_any s _ (by omega)).mono ?_
      rintro e w1 ⟨rfl, hb1⟩
      have own1 := own_below HOWN.out hb1
      have HB1 : Hid (Below w.heap.size w w1) := HBL.out.trans (hb1.mono hsz)
      have hsz1 := hb1.size
      clear hb1
      go_wp2_with (at_builtin; go_must (refine wpList_append_any _ rfl _ _ 30 rfl w.heap.size 9 i0 _ 1 16 Try.underlying30 hi0 hz0 hz1 hz2 rfl (by decide) _ _ _ rfl (World.ownsRow.alloc own1 _) (some ⟨w1.heap.size, 0, none⟩) 1 1 [.string s] rfl rfl (fun j u hu => ⟨_, rfl, World.news_of_block (heap_alloc_new _ _) j u hu⟩) (by simp [Value.oneCell']) (by unfold maxLen; omega) (by omega) (by rw [size_alloc]; omega) _ rfl ?_; intro b4 c4 w4 own4 gr4 at4))
      go_roundw
      case rel => exact ⟨i + 1, b4, c4, rfl, by go_num, by omega, by rw [HT.out]; exact own4, (HB1.out.alloc HB1.out.size _).grown gr4 (by simp; omega) (fun k hk => by
        rcases own1.2 with ⟨e, _⟩ | ⟨g1, _, _, e, hB, _⟩
        · simp only [Value.slice.injEq] at e; rw [e.1] at hk; cases hk
        · simp only [Value.slice.injEq] at e; rw [e.1] at hk; cases hk; exact hB)⟩
      case measure => simp [intOf]; omega
    · obtain rfl : i = xs.length := by omega
      rw [List.take_length] at own
      clear hS
      go_wp2_with fail
      go_ret
      exact ⟨⟨b, c, rfl, rowD_of_own (fun s => [Value.string s]) (fun _ => rfl) (fun i h => ⟨HSO.out i h, rfl⟩) rfl own⟩, hbl⟩
set_option maxRecDepth 100000 in
set_option maxHeartbeats 1600000 in
theorem outcome_impl (x : VmD) (cs : List Value) (lo hi : Nat) (w : World) (hh : hi ≤ w.heap.size) (hw : x.wt ≤ 1048576) (hC : VmC w lo hi x cs) :
    Calls Try.prog 19 #[.agg cs.toArray] w fun e w' => (∃ cs', e = .returned (.agg cs'.toArray) ∧ OutcomeOwn w' (In w.heap.size w'.heap.size) (outV x) cs') ∧ Below w.heap.size w w' := by
  obtain ⟨ok, a_heap_tables, c_heap_tables, a_heap_cells, c_heap_cells, a_funs, c_funs, a_frames, c_frames, a_out, c_out, rfl, l_heap_tables, r_heap_tables, l_heap_cells, r_heap_cells, l_funs, r_funs, l_frames, r_frames, l_out, r_out⟩ := hC
  have hout := len_wtR ByteArray.size x.out
  have hlo : x.out.length ≤ 1048576 := by unfold VmD.wt at hw; omega
  have hvs : x.value.s.size ≤ 1048576 := by unfold VmD.wt at hw; omega
  have hwo : wtR ByteArray.size x.out ≤ 1048576 := by unfold VmD.wt at hw; omega
  obtain ⟨rA, rB, hs0, B0⟩ := rows2 w (Obj.cells #[.slice a_heap_tables x.heap.tables.length c_heap_tables, .slice a_heap_cells x.heap.cells.length c_heap_cells, .slice a_funs x.funs.length c_funs, .slice a_frames x.frames.length c_frames, .slice a_out x.out.length c_out, .int .i64 x.steps, .int .i64 x.kind, .int .i64 x.value.k, .int .i64 x.value.n, .string x.value.s] 34) (Obj.cells #[.int .i64 0, .int .i64 0, .int .i64 0, .string ⟨#[]⟩, .slice none 0 0] 54)
  go_enter Try.func19, Try.ntmps19
  go_wp2_with fail
  refine (texts_impl x.out a_out c_out lo hi _ (by rw [hs0]; omega) hwo (r_out.below StrC_keeps B0 hh)).mono ?_
  rintro e w1 ⟨⟨b1, c1, rfl, U0⟩, hb1⟩
  have U1 : RowD 1 StrOwn w1 (In (w.heap.size + 2) w1.heap.size) x.out b1 := U0.later StrOwn_keeps (fun b hb => ⟨by have := hb.1; rw [hs0] at this; exact this, hb.2⟩) (fun _ _ => rfl)
  have hz := hb1.size
  rw [hs0] at hz
  have B1 := B0.trans (hb1.mono (by rw [hs0]; omega))
  have qA := (hb1.block w.heap.size (by rw [hs0]; omega)).trans rA
  have qB := (hb1.block (w.heap.size + 1) (by rw [hs0]; omega)).trans rB
  have hz1 : w.heap.size + 1 + 1 ≤ w1.heap.size := by omega
  have hz2 : w.heap.size + 1 < w1.heap.size := by omega
  have hz3 : w.heap.size < w1.heap.size := by omega
  have k0 := cell_of_row _ _ 0 _ _ _ qA
  have k1 := cell_of_row _ _ 1 _ _ _ qA
  have k2 := cell_of_row _ _ 2 _ _ _ qA
  have k3 := cell_of_row _ _ 3 _ _ _ qA
  have k4 := cell_of_row _ _ 4 _ _ _ qA
  have k5 := cell_of_row _ _ 5 _ _ _ qA
  have k6 := cell_of_row _ _ 6 _ _ _ qA
  have k7 := cell_of_row _ _ 7 _ _ _ qA
  have k8 := cell_of_row _ _ 8 _ _ _ qA
  have k9 := cell_of_row _ _ 9 _ _ _ qA
  have m0 := cell_of_row _ _ 0 _ _ _ qB
  have m1 := cell_of_row _ _ 1 _ _ _ qB
  have m2 := cell_of_row _ _ 2 _ _ _ qB
  have m3 := cell_of_row _ _ 3 _ _ _ qB
  have m4 := cell_of_row _ _ 4 _ _ _ qB
  have n0 := frozen_of_row _ _ 0 _ _ qB
  have n1 := frozen_of_row _ _ 1 _ _ qB
  have n2 := frozen_of_row _ _ 2 _ _ qB
  have n3 := frozen_of_row _ _ 3 _ _ qB
  have n4 := frozen_of_row _ _ 4 _ _ qB
  simp only [List.getElem?_toArray, List.getElem?_cons_zero, List.getElem?_cons_succ] at k0 k1 k2 k3 k4 k5 k6 k7 k8 k9 m0 m1 m2 m3 m4
  clear rA rB qA qB hb1 B0 U0
  by_cases hk1 : x.kind = 1
  · have HE : Hid (outV x = ⟨0, x.value, x.out⟩) := by show _ = _; unfold outV; rw [if_pos hk1]
    rw [hk1] at k6
    go_wp2_with fail
    refine (copied_any x.value.k x.value.n x.value.s _ hvs).mono ?_
    rintro e w2 ⟨rfl, hb2⟩
    have hz4 := hb2.size
    have B2 : Below w.heap.size w w2 := B1.trans (((bel_alloc w1 _).trans (hb2.mono (by simp))).mono (by omega))
    have U2 : RowD 1 StrOwn w2 (In (w.heap.size + 2) w1.heap.size) x.out b1 := U1.below StrOwn_keeps (w := w1) (fun b hb => hb.2) ((bel_alloc _ _).trans (hb2.mono (by simp)))
    obtain ⟨hc2, hf2⟩ := bcell hb2
    have hy1 : w.heap.size + 1 + 1 ≤ w2.heap.size := by simp at hz4; omega
    have hy2 : w.heap.size + 1 < w2.heap.size := by omega
    have hy3 : w.heap.size < w2.heap.size := by omega
    have hy4 : w1.heap.size < w2.heap.size := by simp at hz4; omega
    clear hb2
    go_wp2_with fail
    exact bodyPost_ret (v := .agg #[.int .i64 0, .int .i64 x.value.k, .int .i64 x.value.n, .string x.value.s, .slice b1 x.out.length c1]) (by simp [results, Try.results19, go_sem, *]) rfl ⟨⟨[.int .i64 0, .int .i64 x.value.k, .int .i64 x.value.n, .string x.value.s, .slice b1 x.out.length c1], rfl, out_own HE.out ⟨by decide, by decide⟩ ok.value l_out (RowD.later StrOwn_keeps (S := In (w.heap.size + 2) w1.heap.size) (fun b hb => ⟨by have := hb.1; omega, Nat.lt_of_lt_of_le hb.2 (by first | (simp; done) | (simp; omega))⟩) (fun _ _ => rfl) (by repeat (first | (with_reducible exact U2) | (with_reducible refine RowD.set StrOwn_keeps _ _ (fun b hb => by first | (refine In.ne hb ?_; first | (simp; done) | (simp; omega)) | (refine In.ne2 hb ?_; first | (simp; done) | (simp; omega))) ?_) | (with_reducible refine RowD.alloc StrOwn_keeps (fun b hb => In.lt hb (by first | (simp; done) | (simp; omega))) _ ?_))))⟩, by repeat (first | (with_reducible exact B2) | (with_reducible refine Below.setCell ?_ (by simp <;> omega) _) | (with_reducible refine Below.alloc ?_ (by first | omega | (simp <;> omega)) _))⟩
  · by_cases hk2 : x.kind = 2
    · have HE : Hid (outV x = ⟨1, x.value, x.out⟩) := by show _ = _; unfold outV; rw [if_neg hk1, if_pos hk2]
      rw [hk2] at k6
      go_wp2_with fail
      refine (copied_any x.value.k x.value.n x.value.s _ hvs).mono ?_
      rintro e w2 ⟨rfl, hb2⟩
      have hz4 := hb2.size
      have B2 : Below w.heap.size w w2 := B1.trans (((bel_alloc w1 _).trans (hb2.mono (by simp))).mono (by omega))
      have U2 : RowD 1 StrOwn w2 (In (w.heap.size + 2) w1.heap.size) x.out b1 := U1.below StrOwn_keeps (w := w1) (fun b hb => hb.2) ((bel_alloc _ _).trans (hb2.mono (by simp)))
      obtain ⟨hc2, hf2⟩ := bcell hb2
      have hy1 : w.heap.size + 1 + 1 ≤ w2.heap.size := by simp at hz4; omega
      have hy2 : w.heap.size + 1 < w2.heap.size := by omega
      have hy3 : w.heap.size < w2.heap.size := by omega
      have hy4 : w1.heap.size < w2.heap.size := by simp at hz4; omega
      clear hb2
      go_wp2_with fail
      exact bodyPost_ret (v := .agg #[.int .i64 1, .int .i64 x.value.k, .int .i64 x.value.n, .string x.value.s, .slice b1 x.out.length c1]) (by simp [results, Try.results19, go_sem, *]) rfl ⟨⟨[.int .i64 1, .int .i64 x.value.k, .int .i64 x.value.n, .string x.value.s, .slice b1 x.out.length c1], rfl, out_own HE.out ⟨by decide, by decide⟩ ok.value l_out (RowD.later StrOwn_keeps (S := In (w.heap.size + 2) w1.heap.size) (fun b hb => ⟨by have := hb.1; omega, Nat.lt_of_lt_of_le hb.2 (by first | (simp; done) | (simp; omega))⟩) (fun _ _ => rfl) (by repeat (first | (with_reducible exact U2) | (with_reducible refine RowD.set StrOwn_keeps _ _ (fun b hb => by first | (refine In.ne hb ?_; first | (simp; done) | (simp; omega)) | (refine In.ne2 hb ?_; first | (simp; done) | (simp; omega))) ?_) | (with_reducible refine RowD.alloc StrOwn_keeps (fun b hb => In.lt hb (by first | (simp; done) | (simp; omega))) _ ?_))))⟩, by repeat (first | (with_reducible exact B2) | (with_reducible refine Below.setCell ?_ (by simp <;> omega) _) | (with_reducible refine Below.alloc ?_ (by first | omega | (simp <;> omega)) _))⟩
    · have HE : Hid (outV x = ⟨2, ⟨0, 0, ⟨#[]⟩⟩, x.out⟩) := by show _ = _; unfold outV; rw [if_neg hk1, if_neg hk2]
      go_wp2_with fail
      exact bodyPost_ret (v := .agg #[.int .i64 2, .int .i64 0, .int .i64 0, .string ⟨#[]⟩, .slice b1 x.out.length c1]) (by simp [results, Try.results19, go_sem, *]) rfl ⟨⟨[.int .i64 2, .int .i64 0, .int .i64 0, .string ⟨#[]⟩, .slice b1 x.out.length c1], rfl, out_own HE.out ⟨by decide, by decide⟩ nil_ok l_out (RowD.later StrOwn_keeps (S := In (w.heap.size + 2) w1.heap.size) (fun b hb => ⟨by have := hb.1; omega, Nat.lt_of_lt_of_le hb.2 (by first | (simp; done) | (simp; omega))⟩) (fun _ _ => rfl) (by repeat (first | (with_reducible exact U1) | (with_reducible refine RowD.set StrOwn_keeps _ _ (fun b hb => by first | (refine In.ne hb ?_; first | (simp; done) | (simp; omega)) | (refine In.ne2 hb ?_; first | (simp; done) | (simp; omega))) ?_) | (with_reducible refine RowD.alloc StrOwn_keeps (fun b hb => In.lt hb (by first | (simp; done) | (simp; omega))) _ ?_))))⟩, by repeat (first | (with_reducible exact B1) | (with_reducible refine Below.setCell ?_ (by simp <;> omega) _) | (with_reducible refine Below.alloc ?_ (by first | omega | (simp <;> omega)) _))⟩
end Go.Proofs.Ytfcmnmojejoeeaa
