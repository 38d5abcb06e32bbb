/- A machine ahead of its first step: the program. -/
import Derived.Test.YtgibejgemokljaaVstA
import Derived.Test.YtgibejgemokljaaCodJ
import Derived.Test.YtgibejgemokljaaRepA
namespace Go.Proofs.Ytgibejgemokljaa
open Go.RowKit

set_option maxRecDepth 100000 in
set_option maxHeartbeats 1600000 in
theorem frame_impl (p : ProtoD) (p_a_ups p_a_code p_a_names : Option Addr) (p_c_ups p_c_code p_c_names n : Nat) (w : World) (hs : p.slots = (n : Int)) (hn : n ≤ 200) :
    Calls Try.prog 74 #[.int .i64 0, .agg #[.int .i64 p.params, .int .i64 p.slots, .slice p_a_ups p.ups.length p_c_ups, .slice p_a_code p.code.length p_c_code, .slice p_a_names p.names.length p_c_names]] w fun e w' => (∃ b cb, e = .returned (.agg #[.int .i64 0, .int .i64 0, .slice b n cb, .slice none 0 0, .slice none 0 0, .bool false]) ∧ RowD 1 IntOwn w' (In w.heap.size w'.heap.size) (List.replicate n (-1)) b) ∧ Below w.heap.size w w' := by
  have hE : ∀ A : Obj, Below w.heap.size w (w.alloc A) := fun A => bel_alloc w A
  obtain ⟨rA, rB, rC, hs0, B0⟩ := rows3 w (Obj.cells #[.int .i64 p.params, .int .i64 n, .slice p_a_ups p.ups.length p_c_ups, .slice p_a_code p.code.length p_c_code, .slice p_a_names p.names.length p_c_names] 116) (Obj.cells #[.int .i64 0, .int .i64 0, .slice none 0 0, .slice none 0 0, .slice none 0 0, .bool false] 81) (Obj.cells #[.int .i64 (-1)] 3)
  rw [hs]
  go_enter Try.func74, Try.ntmps74
  go_wp2_with fail
  refine (repeat_impl (w.heap.size + 1 + 1) n 3 _ rC (by omega)).mono ?_
  rintro e w2 ⟨⟨b, cb, rfl, U⟩, hb2⟩
  rw [hs0] at U
  have hz := hb2.size
  rw [hs0] at hz
  have qB := (hb2.block (w.heap.size + 1) (by rw [hs0]; omega)).trans rB
  have B2 : Below w.heap.size w w2 := B0.trans (hb2.mono (by rw [hs0]; omega))
  have m0 := cell_of_row _ _ 0 _ _ _ qB
  have m1 := cell_of_row _ _ 1 _ _ _ qB
  have m2 := cell_of_row _ _ 2 _ _ _ qB
  have m3 := cell_of_row _ _ 3 _ _ _ qB
  have m4 := cell_of_row _ _ 4 _ _ _ qB
  have m5 := cell_of_row _ _ 5 _ _ _ qB
  have n0 := frozen_of_row _ _ 0 _ _ qB
  have n1 := frozen_of_row _ _ 1 _ _ qB
  have n2 := frozen_of_row _ _ 2 _ _ qB
  have n3 := frozen_of_row _ _ 3 _ _ qB
  have n4 := frozen_of_row _ _ 4 _ _ qB
  have n5 := frozen_of_row _ _ 5 _ _ qB
  simp only [List.getElem?_toArray, List.getElem?_cons_zero, List.getElem?_cons_succ] at m0 m1 m2 m3 m4 m5
  have U2 : RowD 1 IntOwn w2 (In (w.heap.size + 3) w2.heap.size) (List.replicate n (-1)) b := U
  clear hb2 U rA rB rC qB B0 hs0 hE
  go_wp2_with fail
  exact bodyPost_ret (v := .agg #[.int .i64 0, .int .i64 0, .slice b n cb, .slice none 0 0, .slice none 0 0, .bool false]) (by simp [results, Try.results74, go_sem, *]) rfl ⟨⟨b, cb, rfl, RowD.later IntOwn_keeps (S := In (w.heap.size + 3) w2.heap.size) (fun b hb => ⟨by have := hb.1; omega, Nat.lt_of_lt_of_le hb.2 (by simp)⟩) (fun _ _ => rfl) (by repeat (first | (with_reducible exact U2) | (with_reducible refine RowD.set IntOwn_keeps _ _ (fun b hb => by first | (refine In.ne hb ?_; first | (simp; done) | (simp; omega)) | (refine In.ne2 hb ?_; first | (simp; done) | (simp; omega))) ?_) | (with_reducible refine RowD.alloc IntOwn_keeps (fun b hb => In.lt hb (by first | (simp; done) | (simp; omega))) _ ?_)))⟩, by repeat (first | (with_reducible exact B2) | (with_reducible refine Below.setCell ?_ (by simp <;> omega) _))⟩
set_option maxRecDepth 100000 in
set_option maxHeartbeats 1600000 in
theorem vmstart_impl (ps : List ProtoD) (a : Option Addr) (ca lo hi : Nat) (w : World) (hh : hi ≤ w.heap.size) (hw : wtR ProtoD.wt ps ≤ 1048576) (hS : RowAt 5 ProtoC w lo hi ps a) :
    Calls Try.prog 26 #[.slice a ps.length ca] w fun e w' => (∃ cs', e = .returned (.agg cs'.toArray) ∧ VmOwn w' (In w.heap.size w'.heap.size) (startV ps) cs') ∧ Below w.heap.size w w' := by
  have B0 := bel_alloc w (Obj.cells #[.slice none 0 0, .slice none 0 0, .slice none 0 0, .slice none 0 0, .slice none 0 0, .int .i64 0, .int .i64 0, .int .i64 0, .int .i64 0, .string ⟨#[]⟩] 43)
  go_enter Try.func26, Try.ntmps26
  go_wp2_with fail
  refine (code_impl ps a ca lo hi _ (by simp; omega) hw (hS.below ProtoC_keeps B0 hh)).mono ?_
  rintro e w1 ⟨rfl, hb1⟩
  have B1 := boxed hb1
  have hz1 : w.heap.size < w1.heap.size := by have := hb1.size; simp at this; omega
  have qR := (hb1.block w.heap.size (by simp)).trans (heap_alloc_new w (Obj.cells #[.slice none 0 0, .slice none 0 0, .slice none 0 0, .slice none 0 0, .slice none 0 0, .int .i64 0, .int .i64 0, .int .i64 0, .int .i64 0, .string ⟨#[]⟩] 43))
  have hS1 := hS.below ProtoC_keeps B1 hh
  have k0 := cell_of_row _ _ 0 _ _ _ qR
  have k1 := cell_of_row _ _ 1 _ _ _ qR
  have k2 := cell_of_row _ _ 2 _ _ _ qR
  have k3 := cell_of_row _ _ 3 _ _ _ qR
  have k4 := cell_of_row _ _ 4 _ _ _ qR
  have k5 := cell_of_row _ _ 5 _ _ _ qR
  have k6 := cell_of_row _ _ 6 _ _ _ qR
  have k7 := cell_of_row _ _ 7 _ _ _ qR
  have k8 := cell_of_row _ _ 8 _ _ _ qR
  have k9 := cell_of_row _ _ 9 _ _ _ qR
  have n0 := frozen_of_row _ _ 0 _ _ qR
  have n1 := frozen_of_row _ _ 1 _ _ qR
  have n2 := frozen_of_row _ _ 2 _ _ qR
  have n3 := frozen_of_row _ _ 3 _ _ qR
  have n4 := frozen_of_row _ _ 4 _ _ qR
  have n5 := frozen_of_row _ _ 5 _ _ qR
  have n6 := frozen_of_row _ _ 6 _ _ qR
  have n7 := frozen_of_row _ _ 7 _ _ qR
  have n8 := frozen_of_row _ _ 8 _ _ qR
  have n9 := frozen_of_row _ _ 9 _ _ qR
  simp only [List.getElem?_toArray, List.getElem?_cons_zero, List.getElem?_cons_succ] at k0 k1 k2 k3 k4 k5 k6 k7 k8 k9
  clear hb1 hS
  cases hok : codeOk ps with
  | false =>
    have HB : Hid (startV ps = badD) := start_no hok
    clear hok
    go_wp2_with fail
    exact bodyPost_ret (v := .agg #[.slice none 0 0, .slice none 0 0, .slice none 0 0, .slice none 0 0, .slice none 0 0, .int .i64 0, .int .i64 3, .int .i64 0, .int .i64 0, .string ⟨#[]⟩]) (by simp [results, Try.results26, go_sem, *]) rfl ⟨⟨[.slice none 0 0, .slice none 0 0, .slice none 0 0, .slice none 0 0, .slice none 0 0, .int .i64 0, .int .i64 3, .int .i64 0, .int .i64 0, .string ⟨#[]⟩], rfl, bad_own HB.out _ _⟩, by repeat (first | (with_reducible exact B1) | (with_reducible refine Below.setCell ?_ (by simp <;> omega) _))⟩
  | true =>
    obtain ⟨h0, hs0, hs1⟩ := ok_first hok
    have HE : Hid (startV ps = startD (slotsOf ps)) := start_yes hok
    obtain ⟨g, o, cp, rfl, _, hg, hP, _, hc⟩ := hS1 0 h0
    generalize ps[0] = p at *
    generalize slotsOf ps = n at *
    obtain ⟨okp, p_a_ups, p_c_ups, p_a_code, p_c_code, p_a_names, p_c_names, rfl, p_l_ups, p_r_ups, p_l_code, p_r_code, p_l_names, p_r_names⟩ := hP
    have y0 := hc 0 (by decide)
    have y1 := hc 1 (by decide)
    have y2 := hc 2 (by decide)
    have y3 := hc 3 (by decide)
    have y4 := hc 4 (by decide)
    simp only [List.getElem?_cons_zero, List.getElem?_cons_succ, Nat.mul_zero, Nat.add_zero] at y0 y1 y2 y3 y4
    have HS0 : Hid (p.slots = (n : Int)) := hs0
    clear hok hc hS1 p_r_code p_r_ups p_r_names hs0
    go_wp2_with fail
    refine (frame_impl p p_a_ups p_a_code p_a_names p_c_ups p_c_code p_c_names n w1 HS0.out hs1).mono ?_
    rintro e w2 ⟨⟨b, cb, rfl, U⟩, hb2⟩
    obtain ⟨hc2, hf2⟩ := bcell hb2
    have hz2 := hb2.size
    have hz3 : w.heap.size < w2.heap.size := by omega
    have B2 := B1.trans (hb2.mono B1.size)
    have U2 : RowD 1 IntOwn w2 (In w1.heap.size w2.heap.size) (List.replicate n (-1)) b := U
    clear hb2 U
    go_wp2_with fail
    exact bodyPost_ret (v := .agg #[.slice none 0 0, .slice none 0 0, .slice none 0 0, .slice (some ⟨w2.heap.size, 0, none⟩) 1 1, .slice none 0 0, .int .i64 0, .int .i64 0, .int .i64 0, .int .i64 0, .string ⟨#[]⟩]) (by simp [results, Try.results26, go_sem, *]) rfl ⟨⟨[.slice none 0 0, .slice none 0 0, .slice none 0 0, .slice (some ⟨w2.heap.size, 0, none⟩) 1 1, .slice none 0 0, .int .i64 0, .int .i64 0, .int .i64 0, .int .i64 0, .string ⟨#[]⟩], rfl, start_own (gf := w2.heap.size) (b := b) (c := cb) (l := w1.heap.size) (h := w2.heap.size) HE.out (fun x hx => ⟨by have := hx.1; omega, In.lt hx (by simp)⟩) ⟨by omega, by simp⟩ (fun x hx => In.ne2 hx (Nat.le_refl _)) (by repeat (first | (with_reducible exact U2) | (with_reducible refine RowD.set IntOwn_keeps _ _ (fun b hb => by first | (refine In.ne hb ?_; first | (simp; done) | (simp; omega)) | (refine In.ne2 hb ?_; first | (simp; done) | (simp; omega))) ?_) | (with_reducible refine RowD.alloc IntOwn_keeps (fun b hb => In.lt hb (by first | (simp; done) | (simp; omega))) _ ?_))) (by repeat (first | (with_reducible exact alloc_at (by simp)) | (with_reducible refine (heap_setCell_other _ _ _ _ (by simp <;> omega)).trans ?_))) hs1⟩, by repeat (first | (with_reducible exact B2) | (with_reducible refine Below.setCell ?_ (by simp <;> omega) _) | (with_reducible refine Below.alloc ?_ (by first | omega | (simp <;> omega)) _))⟩
end Go.Proofs.Ytgibejgemokljaa
