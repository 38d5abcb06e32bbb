/- A machine ahead of its first step: the specification. -/
import Derived.Test.YtgibejgemokljaaVstA
import Derived.Test.YtgibejgemokljaaCodT
import Derived.Test.YtgibejgemokljaaAppA
import Derived.Test.YtgibejgemokljaaOwV
namespace Go.Proofs.Ytgibejgemokljaa
open Go.RowKit

set_option maxRecDepth 100000 in
set_option maxHeartbeats 1600000 in
theorem slots_spec (n : Nat) (w : World) (hn : n ≤ 1000000) :
    Calls Try.prog 73 #[.int .i64 n] w fun e w' => (∃ b cb, e = .returned (.slice b n cb) ∧ RowD 1 IntOwn w' (In w.heap.size w'.heap.size) (List.replicate n (-1)) b) ∧ Below w.heap.size w w' := by
  obtain ⟨i0, hi0, hz0, hz1, hz2⟩ := info_parts infO_Int
  have own0 := own_lit0 w w.heap.size 3 1 (Nat.le_refl _)
  have B0 := bel_alloc w (Obj.cells #[] 3)
  go_enter Try.func73, Try.ntmps73
  go_wp2_with fail
  go_loopw [3, 4] (fun x y wr => ∃ (i : Nat) (b : Option Addr) (c : Nat), x = .slice b i c ∧ y = .int .i64 i ∧ i ≤ n ∧ wr.ownsRow w.heap.size 3 1 (.slice b i c) i ((List.replicate i (-1 : Int)).flatMap fun s => [Value.int .i64 s]) ∧ Below w.heap.size w wr) (fun _ y _ => n - (intOf y).toNat)
  case atStart => exact ⟨0, _, 0, rfl, rfl, Nat.zero_le _, own0, B0⟩
  case round =>
    obtain ⟨i, b, c, rfl, rfl, hil, own, hbl⟩ := hrel
    by_cases hlt : i < n
    · have HT : Hid ((List.replicate (i + 1) (-1 : Int)).flatMap (fun s => [Value.int .i64 s]) = (List.replicate i (-1 : Int)).flatMap (fun s => [Value.int .i64 s]) ++ [.int .i64 (-1)]) := by
        show _ = _
        rw [List.replicate_succ', List.flatMap_append]; simp
      have HOWN : Hid (wr.ownsRow w.heap.size 3 1 (.slice b i c) i ((List.replicate i (-1 : Int)).flatMap fun s => [Value.int .i64 s])) := own
      have HBL : Hid (Below w.heap.size w wr) := hbl
      have hsz := hbl.size
      clear own hbl
      go_wp2_with (at_builtin; go_must (refine wpList_append_any _ rfl _ _ 76 rfl w.heap.size 3 i0 _ 1 8 Try.underlying76 hi0 hz0 hz1 hz2 rfl (by decide) _ _ _ rfl (World.ownsRow.alloc HOWN.out _) (some ⟨wr.heap.size, 0, none⟩) 1 1 [.int .i64 (-1)] rfl rfl (fun j u hu => ⟨_, rfl, World.news_of_block (heap_alloc_new _ _) j u hu⟩) (by simp [Value.oneCell']) (by unfold maxLen; omega) (by omega) (by rw [size_alloc]; omega) _ rfl ?_; intro b4 c4 w4 own4 gr4 at4))
      go_roundw
      case rel => exact ⟨i + 1, b4, c4, rfl, by go_num, by omega, by rw [HT.out]; exact own4, (HBL.out.alloc HBL.out.size _).grown gr4 (by simp; omega) (fun k hk => by
        rcases HOWN.out.2 with ⟨e, _⟩ | ⟨g1, _, _, e, hB, _⟩
        · simp only [Value.slice.injEq] at e; rw [e.1] at hk; cases hk
        · simp only [Value.slice.injEq] at e; rw [e.1] at hk; cases hk; exact hB)⟩
      case measure => simp [intOf]; omega
    · obtain rfl : i = n := by omega
      have U : RowD 1 IntOwn wr (In w.heap.size wr.heap.size) (List.replicate i (-1)) b := rowD_of_own (fun s => [Value.int .i64 s]) (fun _ => rfl) (fun j h => ⟨by rw [List.getElem_replicate]; exact ⟨by decide, by decide⟩, rfl⟩) (by simp) own
      have HU : Hid (RowD 1 IntOwn wr (In w.heap.size wr.heap.size) (List.replicate i (-1)) b) := U
      clear U own
      go_wp2_with fail
      go_ret
      exact ⟨⟨b, c, rfl, HU.out⟩, hbl⟩
set_option maxRecDepth 100000 in
set_option maxHeartbeats 1600000 in
theorem vmstart_spec (ps : List ProtoD) (a : Option Addr) (ca lo hi : Nat) (w : World) (hh : hi ≤ w.heap.size) (hw : wtR ProtoD.wt ps ≤ 1048576) (hS : RowAt 5 ProtoC w lo hi ps a) :
    Calls Try.prog 25 #[.slice a ps.length ca] w fun e w' => (∃ cs', e = .returned (.agg cs'.toArray) ∧ VmOwn w' (In w.heap.size w'.heap.size) (startV ps) cs') ∧ Below w.heap.size w w' := by
  have B0 := bel_alloc w (Obj.cells #[.slice none 0 0, .slice none 0 0, .slice none 0 0, .slice none 0 0, .slice none 0 0, .int .i64 0, .int .i64 0, .int .i64 0, .int .i64 0, .string ⟨#[]⟩] 43)
  go_enter Try.func25, Try.ntmps25
  go_wp2_with fail
  refine (code_spec ps a ca lo hi _ (by simp; omega) hw (hS.below ProtoC_keeps B0 hh)).mono ?_
  rintro e w1 ⟨rfl, hb1⟩
  have B1 := boxed hb1
  have hz1 : w.heap.size < w1.heap.size := by have := hb1.size; simp at this; omega
  have qR := (hb1.block w.heap.size (by simp)).trans (heap_alloc_new w (Obj.cells #[.slice none 0 0, .slice none 0 0, .slice none 0 0, .slice none 0 0, .slice none 0 0, .int .i64 0, .int .i64 0, .int .i64 0, .int .i64 0, .string ⟨#[]⟩] 43))
  have hS1 := hS.below ProtoC_keeps B1 hh
  have k0 := cell_of_row _ _ 0 _ _ _ qR
  have k1 := cell_of_row _ _ 1 _ _ _ qR
  have k2 := cell_of_row _ _ 2 _ _ _ qR
  have k3 := cell_of_row _ _ 3 _ _ _ qR
  have k4 := cell_of_row _ _ 4 _ _ _ qR
  have k5 := cell_of_row _ _ 5 _ _ _ qR
  have k6 := cell_of_row _ _ 6 _ _ _ qR
  have k7 := cell_of_row _ _ 7 _ _ _ qR
  have k8 := cell_of_row _ _ 8 _ _ _ qR
  have k9 := cell_of_row _ _ 9 _ _ _ qR
  have n0 := frozen_of_row _ _ 0 _ _ qR
  have n1 := frozen_of_row _ _ 1 _ _ qR
  have n2 := frozen_of_row _ _ 2 _ _ qR
  have n3 := frozen_of_row _ _ 3 _ _ qR
  have n4 := frozen_of_row _ _ 4 _ _ qR
  have n5 := frozen_of_row _ _ 5 _ _ qR
  have n6 := frozen_of_row _ _ 6 _ _ qR
  have n7 := frozen_of_row _ _ 7 _ _ qR
  have n8 := frozen_of_row _ _ 8 _ _ qR
  have n9 := frozen_of_row _ _ 9 _ _ qR
  simp only [List.getElem?_toArray, List.getElem?_cons_zero, List.getElem?_cons_succ] at k0 k1 k2 k3 k4 k5 k6 k7 k8 k9
  clear hb1 hS
  cases hok : codeOk ps with
  | false =>
    have HB : Hid (startV ps = badD) := start_no hok
    clear hok
    go_wp2_with fail
    exact bodyPost_ret (v := .agg #[.slice none 0 0, .slice none 0 0, .slice none 0 0, .slice none 0 0, .slice none 0 0, .int .i64 0, .int .i64 3, .int .i64 0, .int .i64 0, .string ⟨#[]⟩]) (by simp [results, Try.results25, go_sem, *]) rfl ⟨⟨[.slice none 0 0, .slice none 0 0, .slice none 0 0, .slice none 0 0, .slice none 0 0, .int .i64 0, .int .i64 3, .int .i64 0, .int .i64 0, .string ⟨#[]⟩], rfl, bad_own HB.out _ _⟩, by repeat (first | (with_reducible exact B1) | (with_reducible refine Below.setCell ?_ (by simp <;> omega) _))⟩
  | true =>
    obtain ⟨h0, hs0, hs1⟩ := ok_first hok
    have HE : Hid (startV ps = startD (slotsOf ps)) := start_yes hok
    obtain ⟨g, o, cp, rfl, _, hg, hP, _, hc⟩ := hS1 0 h0
    generalize ps[0] = p at *
    generalize slotsOf ps = n at *
    obtain ⟨okp, p_a_ups, p_c_ups, p_a_code, p_c_code, p_a_names, p_c_names, rfl, p_l_ups, p_r_ups, p_l_code, p_r_code, p_l_names, p_r_names⟩ := hP
    have y1 := hc 1 (by decide)
    simp only [List.getElem?_cons_zero, List.getElem?_cons_succ, Nat.mul_zero, Nat.add_zero] at y1
    rw [hs0] at y1
    clear hok hc hS1 p_r_code p_r_ups p_r_names
    go_wp2_with fail
    refine (slots_spec n w1 (by omega)).mono ?_
    rintro e w2 ⟨⟨b, cb, rfl, U⟩, hb2⟩
    obtain ⟨hc2, hf2⟩ := bcell hb2
    have hz2 := hb2.size
    have hz3 : w.heap.size < w2.heap.size := by omega
    have B2 := B1.trans (hb2.mono B1.size)
    have U2 : RowD 1 IntOwn w2 (In w1.heap.size w2.heap.size) (List.replicate n (-1)) b := U
    clear hb2 U
    go_wp2_with fail
    exact bodyPost_ret (v := .agg #[.slice none 0 0, .slice none 0 0, .slice none 0 0, .slice (some ⟨w2.heap.size, 0, none⟩) 1 1, .slice none 0 0, .int .i64 0, .int .i64 0, .int .i64 0, .int .i64 0, .string ⟨#[]⟩]) (by simp [results, Try.results25, go_sem, *]) rfl ⟨⟨[.slice none 0 0, .slice none 0 0, .slice none 0 0, .slice (some ⟨w2.heap.size, 0, none⟩) 1 1, .slice none 0 0, .int .i64 0, .int .i64 0, .int .i64 0, .int .i64 0, .string ⟨#[]⟩], rfl, start_own (gf := w2.heap.size) (b := b) (c := cb) (l := w1.heap.size) (h := w2.heap.size) HE.out (fun x hx => ⟨by have := hx.1; omega, In.lt hx (by simp)⟩) ⟨by omega, by simp⟩ (fun x hx => In.ne2 hx (Nat.le_refl _)) (by repeat (first | (with_reducible exact U2) | (with_reducible refine RowD.set IntOwn_keeps _ _ (fun b hb => by first | (refine In.ne hb ?_; first | (simp; done) | (simp; omega)) | (refine In.ne2 hb ?_; first | (simp; done) | (simp; omega))) ?_) | (with_reducible refine RowD.alloc IntOwn_keeps (fun b hb => In.lt hb (by first | (simp; done) | (simp; omega))) _ ?_))) (by repeat (first | (with_reducible exact alloc_at (by simp)) | (with_reducible refine (heap_setCell_other _ _ _ _ (by simp <;> omega)).trans ?_))) hs1⟩, by repeat (first | (with_reducible exact B2) | (with_reducible refine Below.setCell ?_ (by simp <;> omega) _) | (with_reducible refine Below.alloc ?_ (by first | omega | (simp <;> omega)) _))⟩
end Go.Proofs.Ytgibejgemokljaa
