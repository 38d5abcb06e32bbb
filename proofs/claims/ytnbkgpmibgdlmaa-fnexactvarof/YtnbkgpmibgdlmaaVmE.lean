/- Machines that are told alike are found alike. -/
import Derived.Test.YtnbkgpmibgdlmaaVmP
import Derived.Test.YtnbkgpmibgdlmaaValB
import Derived.Deep.RegionHeld
namespace Go.Proofs.Ytnbkgpmibgdlmaa
open Go.RowKit

set_option maxRecDepth 100000 in
set_option maxHeartbeats 1600000 in
theorem eqIntS_same (xs : List Int) (a b : Option Addr) (ca cb lo hi lo' hi' : Nat) (w : World) (hh : hi ≤ w.heap.size) (hh' : hi' ≤ w.heap.size) (hw : xs.length ≤ 2097152) (hS : RowAt 1 IntC w lo hi xs a) (hT : RowAt 1 IntC w lo' hi' xs b) :
    Calls Try.prog 102 #[.slice a xs.length ca, .slice b xs.length cb] w fun e w' => e = .returned (.bool true) ∧ Below w.heap.size w w' := by
  go_enter Try.func102, Try.ntmps102
  go_wp2_with fail
  go_loopw [5] (fun x wr => ∃ i : Nat, x = .int .i64 i ∧ i ≤ xs.length ∧ Below w.heap.size w wr) (fun x _ => xs.length - (intOf x).toNat)
  case atStart => exact ⟨0, rfl, Nat.zero_le _, Below.refl _ _⟩
  case round =>
    obtain ⟨i, rfl, hil, hbl⟩ := hrel
    by_cases hlt : i < xs.length
    · obtain ⟨g, o, cx, rfl, _, hg, hC, _, hc⟩ := hS i hlt
      obtain ⟨g', o', cy, rfl, _, hg', hC', _, hc'⟩ := hT i hlt
      have hC1 := IntC_keeps.below hC hbl hh
      have hC2 := IntC_keeps.below hC' hbl hh'
      have hC3 := hC1
      have hC4 := hC2
      obtain ⟨ok, rfl⟩ := hC1
      obtain ⟨ok2, rfl⟩ := hC2
      have x0 := (hbl.cell (p := ⟨g, o + 1 * i + 0, none⟩) (by show g < _; omega)).trans (hc 0 (by decide))
      have y0 := (hbl.cell (p := ⟨g', o' + 1 * i + 0, none⟩) (by show g' < _; omega)).trans (hc' 0 (by decide))
      simp only [List.getElem?_cons_zero, Nat.add_zero, Nat.one_mul] at x0 y0
      have hszw := hbl.size
      have kx : g < wr.heap.size := by omega
      have ky : g' < wr.heap.size := by omega
      clear hc hc' hS hT hC hC' hC3 hC4 ok2
      generalize xs[i] = x at *
      go_wp2_with fail
      go_quiet (fail)
      go_wp2_with fail
      go_roundw
      case rel => exact ⟨i + 1, by go_num, by omega, ⟨hbl.os, hbl.tape, hbl.output, hbl.size, hbl.block⟩⟩
      case measure => simp [intOf]; omega
    · obtain rfl : i = xs.length := by omega
      clear hS hT
      go_wp2_with fail
      go_ret
      exact ⟨rfl, hbl⟩
set_option maxRecDepth 100000 in
set_option maxHeartbeats 1600000 in
theorem eqStringS_same (xs : List ByteArray) (a b : Option Addr) (ca cb lo hi lo' hi' : Nat) (w : World) (hh : hi ≤ w.heap.size) (hh' : hi' ≤ w.heap.size) (hw : wtR ByteArray.size xs ≤ 2097152) (hS : RowAt 1 StrC w lo hi xs a) (hT : RowAt 1 StrC w lo' hi' xs b) :
    Calls Try.prog 41 #[.slice a xs.length ca, .slice b xs.length cb] w fun e w' => e = .returned (.bool true) ∧ Below w.heap.size w w' := by
  have hn := len_wtR ByteArray.size xs
  go_enter Try.func41, Try.ntmps41
  go_wp2_with fail
  go_loopw [5] (fun x wr => ∃ i : Nat, x = .int .i64 i ∧ i ≤ xs.length ∧ Below w.heap.size w wr) (fun x _ => xs.length - (intOf x).toNat)
  case atStart => exact ⟨0, rfl, Nat.zero_le _, Below.refl _ _⟩
  case round =>
    obtain ⟨i, rfl, hil, hbl⟩ := hrel
    by_cases hlt : i < xs.length
    · obtain ⟨g, o, cx, rfl, _, hg, hC, _, hc⟩ := hS i hlt
      obtain ⟨g', o', cy, rfl, _, hg', hC', _, hc'⟩ := hT i hlt
      have hC1 := StrC_keeps.below hC hbl hh
      have hC2 := StrC_keeps.below hC' hbl hh'
      have hC3 := hC1
      have hC4 := hC2
      obtain ⟨ok, rfl⟩ := hC1
      obtain ⟨ok2, rfl⟩ := hC2
      have x0 := (hbl.cell (p := ⟨g, o + 1 * i + 0, none⟩) (by show g < _; omega)).trans (hc 0 (by decide))
      have y0 := (hbl.cell (p := ⟨g', o' + 1 * i + 0, none⟩) (by show g' < _; omega)).trans (hc' 0 (by decide))
      simp only [List.getElem?_cons_zero, Nat.add_zero, Nat.one_mul] at x0 y0
      have hwm := wtR_mem ByteArray.size xs i hlt
      have hszw := hbl.size
      have kx : g < wr.heap.size := by omega
      have ky : g' < wr.heap.size := by omega
      clear hc hc' hS hT hC hC' hC3 hC4 hwm ok2
      generalize xs[i] = x at *
      go_wp2_with fail
      go_quiet (fail)
      go_wp2_with fail
      go_roundw
      case rel => exact ⟨i + 1, by go_num, by omega, ⟨hbl.os, hbl.tape, hbl.output, hbl.size, hbl.block⟩⟩
      case measure => simp [intOf]; omega
    · obtain rfl : i = xs.length := by omega
      clear hS hT
      go_wp2_with fail
      go_ret
      exact ⟨rfl, hbl⟩
set_option maxRecDepth 100000 in
set_option maxHeartbeats 1600000 in
theorem eqValueS_same (xs : List Vl) (a b : Option Addr) (ca cb lo hi lo' hi' : Nat) (w : World) (hh : hi ≤ w.heap.size) (hh' : hi' ≤ w.heap.size) (hw : wtR Vl.wt xs ≤ 2097152) (hS : RowAt 3 ValC w lo hi xs a) (hT : RowAt 3 ValC w lo' hi' xs b) :
    Calls Try.prog 52 #[.slice a xs.length ca, .slice b xs.length cb] w fun e w' => e = .returned (.bool true) ∧ Below w.heap.size w w' := by
  have hn := len_wtR Vl.wt xs
  go_enter Try.func52, Try.ntmps52
  go_wp2_with fail
  go_loopw [5] (fun x wr => ∃ i : Nat, x = .int .i64 i ∧ i ≤ xs.length ∧ Below w.heap.size w wr) (fun x _ => xs.length - (intOf x).toNat)
  case atStart => exact ⟨0, rfl, Nat.zero_le _, Below.refl _ _⟩
  case round =>
    obtain ⟨i, rfl, hil, hbl⟩ := hrel
    by_cases hlt : i < xs.length
    · obtain ⟨g, o, cx, rfl, _, hg, hC, _, hc⟩ := hS i hlt
      obtain ⟨g', o', cy, rfl, _, hg', hC', _, hc'⟩ := hT i hlt
      have hC1 := ValC_keeps.below hC hbl hh
      have hC2 := ValC_keeps.below hC' hbl hh'
      have hC3 := hC1
      have hC4 := hC2
      obtain ⟨ok, rfl⟩ := hC1
      obtain ⟨ok2, rfl⟩ := hC2
      have x0 := (hbl.cell (p := ⟨g, o + 3 * i + 0, none⟩) (by show g < _; omega)).trans (hc 0 (by decide))
      have y0 := (hbl.cell (p := ⟨g', o' + 3 * i + 0, none⟩) (by show g' < _; omega)).trans (hc' 0 (by decide))
      have x1 := (hbl.cell (p := ⟨g, o + 3 * i + 1, none⟩) (by show g < _; omega)).trans (hc 1 (by decide))
      have y1 := (hbl.cell (p := ⟨g', o' + 3 * i + 1, none⟩) (by show g' < _; omega)).trans (hc' 1 (by decide))
      have x2 := (hbl.cell (p := ⟨g, o + 3 * i + 2, none⟩) (by show g < _; omega)).trans (hc 2 (by decide))
      have y2 := (hbl.cell (p := ⟨g', o' + 3 * i + 2, none⟩) (by show g' < _; omega)).trans (hc' 2 (by decide))
      simp only [List.getElem?_cons_zero, List.getElem?_cons_succ, Nat.add_zero] at x0 y0 x1 y1 x2 y2
      have mc : i * 3 = 3 * i := Nat.mul_comm _ _
      have hwm := wtR_mem Vl.wt xs i hlt
      have hszw := hbl.size
      have kx : g < wr.heap.size := by omega
      have ky : g' < wr.heap.size := by omega
      clear hc hc' hS hT hC hC' hC3 hC4 hwm ok ok2
      generalize xs[i] = x at *
      go_wp2_with fail
      go_region_held (fun w' => w'.cell? ⟨g, o + 3 * i, none⟩ = some (.int .i64 x.k) ∧ w'.cell? ⟨g, o + 3 * i + 1, none⟩ = some (.int .i64 x.n) ∧ w'.cell? ⟨g, o + 3 * i + 2, none⟩ = some (.string x.s) ∧ w'.cell? ⟨g', o' + 3 * i, none⟩ = some (.int .i64 x.k) ∧ w'.cell? ⟨g', o' + 3 * i + 1, none⟩ = some (.int .i64 x.n) ∧ w'.cell? ⟨g', o' + 3 * i + 2, none⟩ = some (.string x.s)) (go_keep) (first | (go_at_call 13; refine (eqV_same x.k x.n x.s _).mono ?_; rintro e w1 ⟨rfl, hb1⟩; have qx0 := (hb1.cell (p := ⟨g, o + 3 * i, none⟩) kx).trans x0; have qy0 := (hb1.cell (p := ⟨g', o' + 3 * i, none⟩) ky).trans y0; have qx1 := (hb1.cell (p := ⟨g, o + 3 * i + 1, none⟩) kx).trans x1; have qy1 := (hb1.cell (p := ⟨g', o' + 3 * i + 1, none⟩) ky).trans y1; have qx2 := (hb1.cell (p := ⟨g, o + 3 * i + 2, none⟩) kx).trans x2; have qy2 := (hb1.cell (p := ⟨g', o' + 3 * i + 2, none⟩) ky).trans y2))
      go_wp2_with fail
      go_roundw
      case rel => exact ⟨i + 1, by go_num, by omega, hbl.drew.trans (hb1.mono hbl.size)⟩
      case measure => simp [intOf]; omega
    · obtain rfl : i = xs.length := by omega
      clear hS hT
      go_wp2_with fail
      go_ret
      exact ⟨rfl, hbl⟩
set_option maxRecDepth 100000 in
set_option maxHeartbeats 800000 in
theorem eqClosure_same (x : ClosureD) (cs cs' : List Value) (lo hi lo' hi' : Nat) (w : World) (hh : hi ≤ w.heap.size) (hh' : hi' ≤ w.heap.size) (hw : x.wt ≤ 2097152) (hC : ClosureC w lo hi x cs) (hC' : ClosureC w lo' hi' x cs') :
    Calls Try.prog 75 #[.agg cs.toArray, .agg cs'.toArray] w fun e w' => e = .returned (.bool true) ∧ Below w.heap.size w w' := by
  obtain ⟨ok, a_ups, c_ups, rfl, l_ups, r_ups⟩ := hC
  obtain ⟨n_ok, n_a_ups, n_c_ups, rfl, n_l_ups, n_r_ups⟩ := hC'
  unfold ClosureD.wt at hw
  have B0 : ∀ A B : Obj, Below w.heap.size w ((w.alloc A).alloc B) := fun A B => (bel_alloc w A).trans ((bel_alloc _ B).mono (by simp))
  go_enter Try.func75, Try.ntmps75
  go_wp2_with fail
  refine (eqIntS_same x.ups a_ups n_a_ups c_ups n_c_ups lo hi lo' hi' _ (by simp; omega) (by simp; omega) (by omega) (r_ups.below IntC_keeps (B0 _ _) hh) (n_r_ups.below IntC_keeps (B0 _ _) hh')).mono ?_
  rintro e w1 ⟨rfl, hb1⟩
  have hz1 : w.heap.size + 1 < w1.heap.size := by have := hb1.size; simp at this; omega
  have B1 : Below w.heap.size w w1 := (B0 _ _).trans (hb1.mono (by simp; omega))
  have hz1' : w.heap.size < w1.heap.size := by omega
  obtain ⟨hc1, hf1⟩ := bcell hb1
  go_wp2_with fail
  go_ret
  exact ⟨rfl, B1⟩
set_option maxRecDepth 100000 in
set_option maxHeartbeats 1600000 in
theorem eqClosureS_same (xs : List ClosureD) (a b : Option Addr) (ca cb lo hi lo' hi' : Nat) (w : World) (hh : hi ≤ w.heap.size) (hh' : hi' ≤ w.heap.size) (hw : wtR ClosureD.wt xs ≤ 2097152) (hS : RowAt 2 ClosureC w lo hi xs a) (hT : RowAt 2 ClosureC w lo' hi' xs b) :
    Calls Try.prog 39 #[.slice a xs.length ca, .slice b xs.length cb] w fun e w' => e = .returned (.bool true) ∧ Below w.heap.size w w' := by
  have hn := len_wtR ClosureD.wt xs
  go_enter Try.func39, Try.ntmps39
  go_wp2_with fail
  go_loopw [5] (fun x wr => ∃ i : Nat, x = .int .i64 i ∧ i ≤ xs.length ∧ Below w.heap.size w wr) (fun x _ => xs.length - (intOf x).toNat)
  case atStart => exact ⟨0, rfl, Nat.zero_le _, Below.refl _ _⟩
  case round =>
    obtain ⟨i, rfl, hil, hbl⟩ := hrel
    by_cases hlt : i < xs.length
    · obtain ⟨g, o, cx, rfl, _, hg, hC, _, hc⟩ := hS i hlt
      obtain ⟨g', o', cy, rfl, _, hg', hC', _, hc'⟩ := hT i hlt
      have hC1 := ClosureC_keeps.below hC hbl hh
      have hC2 := ClosureC_keeps.below hC' hbl hh'
      have hC3 := hC1
      have hC4 := hC2
      obtain ⟨ok, a_ups, c_ups, rfl, l_ups, r_ups⟩ := hC1
      obtain ⟨ok2, n_a_ups, n_c_ups, rfl, n_l_ups, n_r_ups⟩ := hC2
      have x0 := (hbl.cell (p := ⟨g, o + 2 * i + 0, none⟩) (by show g < _; omega)).trans (hc 0 (by decide))
      have y0 := (hbl.cell (p := ⟨g', o' + 2 * i + 0, none⟩) (by show g' < _; omega)).trans (hc' 0 (by decide))
      have x1 := (hbl.cell (p := ⟨g, o + 2 * i + 1, none⟩) (by show g < _; omega)).trans (hc 1 (by decide))
      have y1 := (hbl.cell (p := ⟨g', o' + 2 * i + 1, none⟩) (by show g' < _; omega)).trans (hc' 1 (by decide))
      simp only [List.getElem?_cons_zero, List.getElem?_cons_succ, Nat.add_zero] at x0 y0 x1 y1
      have mc : i * 2 = 2 * i := Nat.mul_comm _ _
      have hwm := wtR_mem ClosureD.wt xs i hlt
      have hszw := hbl.size
      have kx : g < wr.heap.size := by omega
      have ky : g' < wr.heap.size := by omega
      have HC : Hid (∀ W, Below wr.heap.size wr W → Calls Try.prog 75 #[.agg [.int .i64 xs[i].proto, .slice a_ups xs[i].ups.length c_ups].toArray, .agg [.int .i64 xs[i].proto, .slice n_a_ups xs[i].ups.length n_c_ups].toArray] W fun e w' => e = .returned (.bool true) ∧ Below W.heap.size W w') := fun W hW => eqClosure_same xs[i] _ _ lo hi lo' hi' W (by have := hW.size; omega) (by have := hW.size; omega) (by omega) (ClosureC_keeps.below hC3 hW (by omega)) (ClosureC_keeps.below hC4 hW (by omega))
      clear hc hc' hS hT hC hC' hC3 hC4 hwm ok ok2 l_ups r_ups n_l_ups n_r_ups
      generalize xs[i] = x at *
      go_wp2_with fail
      go_region_held (fun w' => w'.cell? ⟨g, o + 2 * i, none⟩ = some (.int .i64 x.proto) ∧ w'.cell? ⟨g, o + 2 * i + 1, none⟩ = some (.slice a_ups x.ups.length c_ups) ∧ w'.cell? ⟨g', o' + 2 * i, none⟩ = some (.int .i64 x.proto) ∧ w'.cell? ⟨g', o' + 2 * i + 1, none⟩ = some (.slice n_a_ups x.ups.length n_c_ups)) (go_keep) (first | (go_at_call 75; refine (HC.out _ (Below.refl _ _).drew).mono ?_; rintro e w1 ⟨rfl, hb1⟩; have qx0 := (hb1.cell (p := ⟨g, o + 2 * i, none⟩) kx).trans x0; have qy0 := (hb1.cell (p := ⟨g', o' + 2 * i, none⟩) ky).trans y0; have qx1 := (hb1.cell (p := ⟨g, o + 2 * i + 1, none⟩) kx).trans x1; have qy1 := (hb1.cell (p := ⟨g', o' + 2 * i + 1, none⟩) ky).trans y1))
      go_wp2_with fail
      go_roundw
      case rel => exact ⟨i + 1, by go_num, by omega, hbl.drew.trans (hb1.mono hbl.size)⟩
      case measure => simp [intOf]; omega
    · obtain rfl : i = xs.length := by omega
      clear hS hT
      go_wp2_with fail
      go_ret
      exact ⟨rfl, hbl⟩
set_option maxRecDepth 100000 in
set_option maxHeartbeats 800000 in
theorem eqFrame_same (x : FrameD) (cs cs' : List Value) (lo hi lo' hi' : Nat) (w : World) (hh : hi ≤ w.heap.size) (hh' : hi' ≤ w.heap.size) (hw : x.wt ≤ 2097152) (hC : FrameC w lo hi x cs) (hC' : FrameC w lo' hi' x cs') :
    Calls Try.prog 76 #[.agg cs.toArray, .agg cs'.toArray] w fun e w' => e = .returned (.bool true) ∧ Below w.heap.size w w' := by
  obtain ⟨ok, a_slots, c_slots, a_ups, c_ups, a_stack, c_stack, rfl, l_slots, r_slots, l_ups, r_ups, l_stack, r_stack⟩ := hC
  obtain ⟨n_ok, n_a_slots, n_c_slots, n_a_ups, n_c_ups, n_a_stack, n_c_stack, rfl, n_l_slots, n_r_slots, n_l_ups, n_r_ups, n_l_stack, n_r_stack⟩ := hC'
  unfold FrameD.wt at hw
  have B0 : ∀ A B : Obj, Below w.heap.size w ((w.alloc A).alloc B) := fun A B => (bel_alloc w A).trans ((bel_alloc _ B).mono (by simp))
  go_enter Try.func76, Try.ntmps76
  go_wp2_with fail
  refine (eqIntS_same x.slots a_slots n_a_slots c_slots n_c_slots lo hi lo' hi' _ (by simp; omega) (by simp; omega) (by omega) (r_slots.below IntC_keeps (B0 _ _) hh) (n_r_slots.below IntC_keeps (B0 _ _) hh')).mono ?_
  rintro e w1 ⟨rfl, hb1⟩
  have hz1 : w.heap.size + 1 < w1.heap.size := by have := hb1.size; simp at this; omega
  have B1 : Below w.heap.size w w1 := (B0 _ _).trans (hb1.mono (by simp; omega))
  have hz1' : w.heap.size < w1.heap.size := by omega
  obtain ⟨hc1, hf1⟩ := bcell hb1
  go_wp2_with fail
  refine (eqIntS_same x.ups a_ups n_a_ups c_ups n_c_ups lo hi lo' hi' w1 (Nat.le_trans hh B1.size) (Nat.le_trans hh' B1.size) (by omega) (r_ups.below IntC_keeps B1 hh) (n_r_ups.below IntC_keeps B1 hh')).mono ?_
  rintro e w2 ⟨rfl, hb2⟩
  have hz2 : w.heap.size + 1 < w2.heap.size := Nat.lt_of_lt_of_le hz1 hb2.size
  have B2 := B1.trans (hb2.mono B1.size)
  have hz2' : w.heap.size < w2.heap.size := by omega
  obtain ⟨hc2, hf2⟩ := bcell hb2
  go_wp2_with fail
  refine (eqValueS_same x.stack a_stack n_a_stack c_stack n_c_stack lo hi lo' hi' w2 (Nat.le_trans hh B2.size) (Nat.le_trans hh' B2.size) (by omega) (r_stack.below ValC_keeps B2 hh) (n_r_stack.below ValC_keeps B2 hh')).mono ?_
  rintro e w3 ⟨rfl, hb3⟩
  have hz3 : w.heap.size + 1 < w3.heap.size := Nat.lt_of_lt_of_le hz2 hb3.size
  have B3 := B2.trans (hb3.mono B2.size)
  have hz3' : w.heap.size < w3.heap.size := by omega
  obtain ⟨hc3, hf3⟩ := bcell hb3
  go_wp2_with fail
  go_ret
  exact ⟨rfl, B3⟩
set_option maxRecDepth 100000 in
set_option maxHeartbeats 1600000 in
theorem eqFrameS_same (xs : List FrameD) (a b : Option Addr) (ca cb lo hi lo' hi' : Nat) (w : World) (hh : hi ≤ w.heap.size) (hh' : hi' ≤ w.heap.size) (hw : wtR FrameD.wt xs ≤ 2097152) (hS : RowAt 6 FrameC w lo hi xs a) (hT : RowAt 6 FrameC w lo' hi' xs b) :
    Calls Try.prog 40 #[.slice a xs.length ca, .slice b xs.length cb] w fun e w' => e = .returned (.bool true) ∧ Below w.heap.size w w' := by
  have hn := len_wtR FrameD.wt xs
  go_enter Try.func40, Try.ntmps40
  go_wp2_with fail
  go_loopw [5] (fun x wr => ∃ i : Nat, x = .int .i64 i ∧ i ≤ xs.length ∧ Below w.heap.size w wr) (fun x _ => xs.length - (intOf x).toNat)
  case atStart => exact ⟨0, rfl, Nat.zero_le _, Below.refl _ _⟩
  case round =>
    obtain ⟨i, rfl, hil, hbl⟩ := hrel
    by_cases hlt : i < xs.length
    · obtain ⟨g, o, cx, rfl, _, hg, hC, _, hc⟩ := hS i hlt
      obtain ⟨g', o', cy, rfl, _, hg', hC', _, hc'⟩ := hT i hlt
      have hC1 := FrameC_keeps.below hC hbl hh
      have hC2 := FrameC_keeps.below hC' hbl hh'
      have hC3 := hC1
      have hC4 := hC2
      obtain ⟨ok, a_slots, c_slots, a_ups, c_ups, a_stack, c_stack, rfl, l_slots, r_slots, l_ups, r_ups, l_stack, r_stack⟩ := hC1
      obtain ⟨ok2, n_a_slots, n_c_slots, n_a_ups, n_c_ups, n_a_stack, n_c_stack, rfl, n_l_slots, n_r_slots, n_l_ups, n_r_ups, n_l_stack, n_r_stack⟩ := hC2
      have x0 := (hbl.cell (p := ⟨g, o + 6 * i + 0, none⟩) (by show g < _; omega)).trans (hc 0 (by decide))
      have y0 := (hbl.cell (p := ⟨g', o' + 6 * i + 0, none⟩) (by show g' < _; omega)).trans (hc' 0 (by decide))
      have x1 := (hbl.cell (p := ⟨g, o + 6 * i + 1, none⟩) (by show g < _; omega)).trans (hc 1 (by decide))
      have y1 := (hbl.cell (p := ⟨g', o' + 6 * i + 1, none⟩) (by show g' < _; omega)).trans (hc' 1 (by decide))
      have x2 := (hbl.cell (p := ⟨g, o + 6 * i + 2, none⟩) (by show g < _; omega)).trans (hc 2 (by decide))
      have y2 := (hbl.cell (p := ⟨g', o' + 6 * i + 2, none⟩) (by show g' < _; omega)).trans (hc' 2 (by decide))
      have x3 := (hbl.cell (p := ⟨g, o + 6 * i + 3, none⟩) (by show g < _; omega)).trans (hc 3 (by decide))
      have y3 := (hbl.cell (p := ⟨g', o' + 6 * i + 3, none⟩) (by show g' < _; omega)).trans (hc' 3 (by decide))
      have x4 := (hbl.cell (p := ⟨g, o + 6 * i + 4, none⟩) (by show g < _; omega)).trans (hc 4 (by decide))
      have y4 := (hbl.cell (p := ⟨g', o' + 6 * i + 4, none⟩) (by show g' < _; omega)).trans (hc' 4 (by decide))
      have x5 := (hbl.cell (p := ⟨g, o + 6 * i + 5, none⟩) (by show g < _; omega)).trans (hc 5 (by decide))
      have y5 := (hbl.cell (p := ⟨g', o' + 6 * i + 5, none⟩) (by show g' < _; omega)).trans (hc' 5 (by decide))
      simp only [List.getElem?_cons_zero, List.getElem?_cons_succ, Nat.add_zero] at x0 y0 x1 y1 x2 y2 x3 y3 x4 y4 x5 y5
      have mc : i * 6 = 6 * i := Nat.mul_comm _ _
      have hwm := wtR_mem FrameD.wt xs i hlt
      have hszw := hbl.size
      have kx : g < wr.heap.size := by omega
      have ky : g' < wr.heap.size := by omega
      have HC : Hid (∀ W, Below wr.heap.size wr W → Calls Try.prog 76 #[.agg [.int .i64 xs[i].proto, .int .i64 xs[i].pc, .slice a_slots xs[i].slots.length c_slots, .slice a_ups xs[i].ups.length c_ups, .slice a_stack xs[i].stack.length c_stack, .bool xs[i].guard].toArray, .agg [.int .i64 xs[i].proto, .int .i64 xs[i].pc, .slice n_a_slots xs[i].slots.length n_c_slots, .slice n_a_ups xs[i].ups.length n_c_ups, .slice n_a_stack xs[i].stack.length n_c_stack, .bool xs[i].guard].toArray] W fun e w' => e = .returned (.bool true) ∧ Below W.heap.size W w') := fun W hW => eqFrame_same xs[i] _ _ lo hi lo' hi' W (by have := hW.size; omega) (by have := hW.size; omega) (by omega) (FrameC_keeps.below hC3 hW (by omega)) (FrameC_keeps.below hC4 hW (by omega))
      clear hc hc' hS hT hC hC' hC3 hC4 hwm ok ok2 l_slots r_slots n_l_slots n_r_slots l_ups r_ups n_l_ups n_r_ups l_stack r_stack n_l_stack n_r_stack
      generalize xs[i] = x at *
      go_wp2_with fail
      go_region_held (fun w' => w'.cell? ⟨g, o + 6 * i, none⟩ = some (.int .i64 x.proto) ∧ w'.cell? ⟨g, o + 6 * i + 1, none⟩ = some (.int .i64 x.pc) ∧ w'.cell? ⟨g, o + 6 * i + 2, none⟩ = some (.slice a_slots x.slots.length c_slots) ∧ w'.cell? ⟨g, o + 6 * i + 3, none⟩ = some (.slice a_ups x.ups.length c_ups) ∧ w'.cell? ⟨g, o + 6 * i + 4, none⟩ = some (.slice a_stack x.stack.length c_stack) ∧ w'.cell? ⟨g, o + 6 * i + 5, none⟩ = some (.bool x.guard) ∧ w'.cell? ⟨g', o' + 6 * i, none⟩ = some (.int .i64 x.proto) ∧ w'.cell? ⟨g', o' + 6 * i + 1, none⟩ = some (.int .i64 x.pc) ∧ w'.cell? ⟨g', o' + 6 * i + 2, none⟩ = some (.slice n_a_slots x.slots.length n_c_slots) ∧ w'.cell? ⟨g', o' + 6 * i + 3, none⟩ = some (.slice n_a_ups x.ups.length n_c_ups) ∧ w'.cell? ⟨g', o' + 6 * i + 4, none⟩ = some (.slice n_a_stack x.stack.length n_c_stack) ∧ w'.cell? ⟨g', o' + 6 * i + 5, none⟩ = some (.bool x.guard)) (go_keep) (first | (go_at_call 76; refine (HC.out _ (Below.refl _ _).drew).mono ?_; rintro e w1 ⟨rfl, hb1⟩; have qx0 := (hb1.cell (p := ⟨g, o + 6 * i, none⟩) kx).trans x0; have qy0 := (hb1.cell (p := ⟨g', o' + 6 * i, none⟩) ky).trans y0; have qx1 := (hb1.cell (p := ⟨g, o + 6 * i + 1, none⟩) kx).trans x1; have qy1 := (hb1.cell (p := ⟨g', o' + 6 * i + 1, none⟩) ky).trans y1; have qx2 := (hb1.cell (p := ⟨g, o + 6 * i + 2, none⟩) kx).trans x2; have qy2 := (hb1.cell (p := ⟨g', o' + 6 * i + 2, none⟩) ky).trans y2; have qx3 := (hb1.cell (p := ⟨g, o + 6 * i + 3, none⟩) kx).trans x3; have qy3 := (hb1.cell (p := ⟨g', o' + 6 * i + 3, none⟩) ky).trans y3; have qx4 := (hb1.cell (p := ⟨g, o + 6 * i + 4, none⟩) kx).trans x4; have qy4 := (hb1.cell (p := ⟨g', o' + 6 * i + 4, none⟩) ky).trans y4; have qx5 := (hb1.cell (p := ⟨g, o + 6 * i + 5, none⟩) kx).trans x5; have qy5 := (hb1.cell (p := ⟨g', o' + 6 * i + 5, none⟩) ky).trans y5))
      go_wp2_with fail
      go_roundw
      case rel => exact ⟨i + 1, by go_num, by omega, hbl.drew.trans (hb1.mono hbl.size)⟩
      case measure => simp [intOf]; omega
    · obtain rfl : i = xs.length := by omega
      clear hS hT
      go_wp2_with fail
      go_ret
      exact ⟨rfl, hbl⟩
set_option maxRecDepth 100000 in
set_option maxHeartbeats 800000 in
theorem eqPair_same (x : PairD) (w : World) :
    Calls Try.prog 106 #[.agg #[.int .i64 x.key.k, .int .i64 x.key.n, .string x.key.s, .int .i64 x.val.k, .int .i64 x.val.n, .string x.val.s], .agg #[.int .i64 x.key.k, .int .i64 x.key.n, .string x.key.s, .int .i64 x.val.k, .int .i64 x.val.n, .string x.val.s]] w fun e w' => e = .returned (.bool true) ∧ Below w.heap.size w w' := by
  have B0 : ∀ A B : Obj, Below w.heap.size w ((w.alloc A).alloc B) := fun A B => (bel_alloc w A).trans ((bel_alloc _ B).mono (by simp))
  go_enter Try.func106, Try.ntmps106
  go_wp2_with fail
  refine (eqV_same x.key.k x.key.n x.key.s _).mono ?_
  rintro e w1 ⟨rfl, hb1⟩
  have hz1 : w.heap.size + 1 < w1.heap.size := by have := hb1.size; simp at this; omega
  have B1 : Below w.heap.size w w1 := (B0 _ _).trans (hb1.mono (by simp; omega))
  have hz1' : w.heap.size < w1.heap.size := by omega
  obtain ⟨hc1, hf1⟩ := bcell hb1
  go_wp2_with fail
  refine (eqV_same x.val.k x.val.n x.val.s _).mono ?_
  rintro e w2 ⟨rfl, hb2⟩
  have hz2 : w.heap.size + 1 < w2.heap.size := Nat.lt_of_lt_of_le hz1 hb2.size
  have B2 := B1.trans (hb2.mono B1.size)
  have hz2' : w.heap.size < w2.heap.size := by omega
  obtain ⟨hc2, hf2⟩ := bcell hb2
  go_wp2_with fail
  go_ret
  exact ⟨rfl, B2⟩
set_option maxRecDepth 100000 in
set_option maxHeartbeats 1600000 in
theorem eqPairS_same (xs : List PairD) (a b : Option Addr) (ca cb lo hi lo' hi' : Nat) (w : World) (hh : hi ≤ w.heap.size) (hh' : hi' ≤ w.heap.size) (hw : wtR PairD.wt xs ≤ 2097152) (hS : RowAt 6 PairC w lo hi xs a) (hT : RowAt 6 PairC w lo' hi' xs b) :
    Calls Try.prog 86 #[.slice a xs.length ca, .slice b xs.length cb] w fun e w' => e = .returned (.bool true) ∧ Below w.heap.size w w' := by
  have hn := len_wtR PairD.wt xs
  go_enter Try.func86, Try.ntmps86
  go_wp2_with fail
  go_loopw [5] (fun x wr => ∃ i : Nat, x = .int .i64 i ∧ i ≤ xs.length ∧ Below w.heap.size w wr) (fun x _ => xs.length - (intOf x).toNat)
  case atStart => exact ⟨0, rfl, Nat.zero_le _, Below.refl _ _⟩
  case round =>
    obtain ⟨i, rfl, hil, hbl⟩ := hrel
    by_cases hlt : i < xs.length
    · obtain ⟨g, o, cx, rfl, _, hg, hC, _, hc⟩ := hS i hlt
      obtain ⟨g', o', cy, rfl, _, hg', hC', _, hc'⟩ := hT i hlt
      have hC1 := PairC_keeps.below hC hbl hh
      have hC2 := PairC_keeps.below hC' hbl hh'
      have hC3 := hC1
      have hC4 := hC2
      obtain ⟨ok, rfl⟩ := hC1
      obtain ⟨ok2, rfl⟩ := hC2
      have x0 := (hbl.cell (p := ⟨g, o + 6 * i + 0, none⟩) (by show g < _; omega)).trans (hc 0 (by decide))
      have y0 := (hbl.cell (p := ⟨g', o' + 6 * i + 0, none⟩) (by show g' < _; omega)).trans (hc' 0 (by decide))
      have x1 := (hbl.cell (p := ⟨g, o + 6 * i + 1, none⟩) (by show g < _; omega)).trans (hc 1 (by decide))
      have y1 := (hbl.cell (p := ⟨g', o' + 6 * i + 1, none⟩) (by show g' < _; omega)).trans (hc' 1 (by decide))
      have x2 := (hbl.cell (p := ⟨g, o + 6 * i + 2, none⟩) (by show g < _; omega)).trans (hc 2 (by decide))
      have y2 := (hbl.cell (p := ⟨g', o' + 6 * i + 2, none⟩) (by show g' < _; omega)).trans (hc' 2 (by decide))
      have x3 := (hbl.cell (p := ⟨g, o + 6 * i + 3, none⟩) (by show g < _; omega)).trans (hc 3 (by decide))
      have y3 := (hbl.cell (p := ⟨g', o' + 6 * i + 3, none⟩) (by show g' < _; omega)).trans (hc' 3 (by decide))
      have x4 := (hbl.cell (p := ⟨g, o + 6 * i + 4, none⟩) (by show g < _; omega)).trans (hc 4 (by decide))
      have y4 := (hbl.cell (p := ⟨g', o' + 6 * i + 4, none⟩) (by show g' < _; omega)).trans (hc' 4 (by decide))
      have x5 := (hbl.cell (p := ⟨g, o + 6 * i + 5, none⟩) (by show g < _; omega)).trans (hc 5 (by decide))
      have y5 := (hbl.cell (p := ⟨g', o' + 6 * i + 5, none⟩) (by show g' < _; omega)).trans (hc' 5 (by decide))
      simp only [List.getElem?_cons_zero, List.getElem?_cons_succ, Nat.add_zero] at x0 y0 x1 y1 x2 y2 x3 y3 x4 y4 x5 y5
      have mc : i * 6 = 6 * i := Nat.mul_comm _ _
      have hwm := wtR_mem PairD.wt xs i hlt
      have hszw := hbl.size
      have kx : g < wr.heap.size := by omega
      have ky : g' < wr.heap.size := by omega
      clear hc hc' hS hT hC hC' hC3 hC4 hwm ok ok2
      generalize xs[i] = x at *
      go_wp2_with fail
      go_region_held (fun w' => w'.cell? ⟨g, o + 6 * i, none⟩ = some (.int .i64 x.key.k) ∧ w'.cell? ⟨g, o + 6 * i + 1, none⟩ = some (.int .i64 x.key.n) ∧ w'.cell? ⟨g, o + 6 * i + 2, none⟩ = some (.string x.key.s) ∧ w'.cell? ⟨g, o + 6 * i + 3, none⟩ = some (.int .i64 x.val.k) ∧ w'.cell? ⟨g, o + 6 * i + 4, none⟩ = some (.int .i64 x.val.n) ∧ w'.cell? ⟨g, o + 6 * i + 5, none⟩ = some (.string x.val.s) ∧ w'.cell? ⟨g', o' + 6 * i, none⟩ = some (.int .i64 x.key.k) ∧ w'.cell? ⟨g', o' + 6 * i + 1, none⟩ = some (.int .i64 x.key.n) ∧ w'.cell? ⟨g', o' + 6 * i + 2, none⟩ = some (.string x.key.s) ∧ w'.cell? ⟨g', o' + 6 * i + 3, none⟩ = some (.int .i64 x.val.k) ∧ w'.cell? ⟨g', o' + 6 * i + 4, none⟩ = some (.int .i64 x.val.n) ∧ w'.cell? ⟨g', o' + 6 * i + 5, none⟩ = some (.string x.val.s)) (go_keep) (first | (go_at_call 106; refine (eqPair_same x _).mono ?_; rintro e w1 ⟨rfl, hb1⟩; have qx0 := (hb1.cell (p := ⟨g, o + 6 * i, none⟩) kx).trans x0; have qy0 := (hb1.cell (p := ⟨g', o' + 6 * i, none⟩) ky).trans y0; have qx1 := (hb1.cell (p := ⟨g, o + 6 * i + 1, none⟩) kx).trans x1; have qy1 := (hb1.cell (p := ⟨g', o' + 6 * i + 1, none⟩) ky).trans y1; have qx2 := (hb1.cell (p := ⟨g, o + 6 * i + 2, none⟩) kx).trans x2; have qy2 := (hb1.cell (p := ⟨g', o' + 6 * i + 2, none⟩) ky).trans y2; have qx3 := (hb1.cell (p := ⟨g, o + 6 * i + 3, none⟩) kx).trans x3; have qy3 := (hb1.cell (p := ⟨g', o' + 6 * i + 3, none⟩) ky).trans y3; have qx4 := (hb1.cell (p := ⟨g, o + 6 * i + 4, none⟩) kx).trans x4; have qy4 := (hb1.cell (p := ⟨g', o' + 6 * i + 4, none⟩) ky).trans y4; have qx5 := (hb1.cell (p := ⟨g, o + 6 * i + 5, none⟩) kx).trans x5; have qy5 := (hb1.cell (p := ⟨g', o' + 6 * i + 5, none⟩) ky).trans y5))
      go_wp2_with fail
      go_roundw
      case rel => exact ⟨i + 1, by go_num, by omega, hbl.drew.trans (hb1.mono hbl.size)⟩
      case measure => simp [intOf]; omega
    · obtain rfl : i = xs.length := by omega
      clear hS hT
      go_wp2_with fail
      go_ret
      exact ⟨rfl, hbl⟩
set_option maxRecDepth 100000 in
set_option maxHeartbeats 1600000 in
theorem eqPairSS_same (xs : List (List PairD)) (a b : Option Addr) (ca cb lo hi lo' hi' : Nat) (w : World) (hh : hi ≤ w.heap.size) (hh' : hi' ≤ w.heap.size) (hw : wtR (wtR PairD.wt) xs ≤ 2097152) (hS : RowAt 1 PairSC w lo hi xs a) (hT : RowAt 1 PairSC w lo' hi' xs b) :
    Calls Try.prog 51 #[.slice a xs.length ca, .slice b xs.length cb] w fun e w' => e = .returned (.bool true) ∧ Below w.heap.size w w' := by
  have hn := len_wtR (wtR PairD.wt) xs
  go_enter Try.func51, Try.ntmps51
  go_wp2_with fail
  go_loopw [5] (fun x wr => ∃ i : Nat, x = .int .i64 i ∧ i ≤ xs.length ∧ Below w.heap.size w wr) (fun x _ => xs.length - (intOf x).toNat)
  case atStart => exact ⟨0, rfl, Nat.zero_le _, Below.refl _ _⟩
  case round =>
    obtain ⟨i, rfl, hil, hbl⟩ := hrel
    by_cases hlt : i < xs.length
    · obtain ⟨g, o, cx, rfl, _, hg, hC, _, hc⟩ := hS i hlt
      obtain ⟨g', o', cy, rfl, _, hg', hC', _, hc'⟩ := hT i hlt
      have hC1 := PairSC_keeps.below hC hbl hh
      have hC2 := PairSC_keeps.below hC' hbl hh'
      obtain ⟨ok, a_p, c_p, rfl, r_p⟩ := hC1
      obtain ⟨ok2, n_a_p, n_c_p, rfl, n_r_p⟩ := hC2
      have x0 := (hbl.cell (p := ⟨g, o + 1 * i + 0, none⟩) (by show g < _; omega)).trans (hc 0 (by decide))
      have y0 := (hbl.cell (p := ⟨g', o' + 1 * i + 0, none⟩) (by show g' < _; omega)).trans (hc' 0 (by decide))
      simp only [List.getElem?_cons_zero, Nat.add_zero, Nat.one_mul] at x0 y0
      have hwm := wtR_mem (wtR PairD.wt) xs i hlt
      have hszw := hbl.size
      have kx : g < wr.heap.size := by omega
      have ky : g' < wr.heap.size := by omega
      have HC : Hid (∀ W, Below wr.heap.size wr W → Calls Try.prog 86 #[.slice a_p xs[i].length c_p, .slice n_a_p xs[i].length n_c_p] W fun e w' => e = .returned (.bool true) ∧ Below W.heap.size W w') := fun W hW => eqPairS_same xs[i] a_p n_a_p c_p n_c_p lo hi lo' hi' W (by have := hW.size; omega) (by have := hW.size; omega) (by omega) (r_p.below PairC_keeps hW (by omega)) (n_r_p.below PairC_keeps hW (by omega))
      clear hc hc' hS hT hC hC' hwm ok ok2 r_p n_r_p
      generalize xs[i] = x at *
      go_wp2_with fail
      go_region_held (fun w' => w'.cell? ⟨g, o + i, none⟩ = some (.slice a_p x.length c_p) ∧ w'.cell? ⟨g', o' + i, none⟩ = some (.slice n_a_p x.length n_c_p)) (go_keep) (first | (go_at_call 86; refine (HC.out _ (Below.refl _ _).drew).mono ?_; rintro e w1 ⟨rfl, hb1⟩; have qx0 := (hb1.cell (p := ⟨g, o + i, none⟩) kx).trans x0; have qy0 := (hb1.cell (p := ⟨g', o' + i, none⟩) ky).trans y0))
      go_wp2_with fail
      go_roundw
      case rel => exact ⟨i + 1, by go_num, by omega, hbl.drew.trans (hb1.mono hbl.size)⟩
      case measure => simp [intOf]; omega
    · obtain rfl : i = xs.length := by omega
      clear hS hT
      go_wp2_with fail
      go_ret
      exact ⟨rfl, hbl⟩
set_option maxRecDepth 100000 in
set_option maxHeartbeats 800000 in
theorem eqHeap_same (x : HeapD) (cs cs' : List Value) (lo hi lo' hi' : Nat) (w : World) (hh : hi ≤ w.heap.size) (hh' : hi' ≤ w.heap.size) (hw : x.wt ≤ 2097152) (hC : HeapC w lo hi x cs) (hC' : HeapC w lo' hi' x cs') :
    Calls Try.prog 22 #[.agg cs.toArray, .agg cs'.toArray] w fun e w' => e = .returned (.bool true) ∧ Below w.heap.size w w' := by
  obtain ⟨ok, a_tables, c_tables, a_cells, c_cells, rfl, l_tables, r_tables, l_cells, r_cells⟩ := hC
  obtain ⟨n_ok, n_a_tables, n_c_tables, n_a_cells, n_c_cells, rfl, n_l_tables, n_r_tables, n_l_cells, n_r_cells⟩ := hC'
  unfold HeapD.wt at hw
  have B0 : ∀ A B : Obj, Below w.heap.size w ((w.alloc A).alloc B) := fun A B => (bel_alloc w A).trans ((bel_alloc _ B).mono (by simp))
  go_enter Try.func22, Try.ntmps22
  go_wp2_with fail
  refine (eqPairSS_same x.tables a_tables n_a_tables c_tables n_c_tables lo hi lo' hi' _ (by simp; omega) (by simp; omega) (by omega) (r_tables.below PairSC_keeps (B0 _ _) hh) (n_r_tables.below PairSC_keeps (B0 _ _) hh')).mono ?_
  rintro e w1 ⟨rfl, hb1⟩
  have hz1 : w.heap.size + 1 < w1.heap.size := by have := hb1.size; simp at this; omega
  have B1 : Below w.heap.size w w1 := (B0 _ _).trans (hb1.mono (by simp; omega))
  have hz1' : w.heap.size < w1.heap.size := by omega
  obtain ⟨hc1, hf1⟩ := bcell hb1
  go_wp2_with fail
  refine (eqValueS_same x.cells a_cells n_a_cells c_cells n_c_cells lo hi lo' hi' w1 (Nat.le_trans hh B1.size) (Nat.le_trans hh' B1.size) (by omega) (r_cells.below ValC_keeps B1 hh) (n_r_cells.below ValC_keeps B1 hh')).mono ?_
  rintro e w2 ⟨rfl, hb2⟩
  have hz2 : w.heap.size + 1 < w2.heap.size := Nat.lt_of_lt_of_le hz1 hb2.size
  have B2 := B1.trans (hb2.mono B1.size)
  have hz2' : w.heap.size < w2.heap.size := by omega
  obtain ⟨hc2, hf2⟩ := bcell hb2
  go_wp2_with fail
  go_ret
  exact ⟨rfl, B2⟩
set_option maxRecDepth 100000 in
set_option maxHeartbeats 800000 in
theorem eqVm_same (x : VmD) (cs cs' : List Value) (lo hi lo' hi' : Nat) (w : World) (hh : hi ≤ w.heap.size) (hh' : hi' ≤ w.heap.size) (hw : x.wt ≤ 2097152) (hC : VmC w lo hi x cs) (hC' : VmC w lo' hi' x cs') :
    Calls Try.prog 15 #[.agg cs.toArray, .agg cs'.toArray] w fun e w' => e = .returned (.bool true) ∧ Below w.heap.size w w' := by
  obtain ⟨ok, a_heap_tables, c_heap_tables, a_heap_cells, c_heap_cells, a_funs, c_funs, a_frames, c_frames, a_out, c_out, rfl, l_heap_tables, r_heap_tables, l_heap_cells, r_heap_cells, l_funs, r_funs, l_frames, r_frames, l_out, r_out⟩ := hC
  obtain ⟨n_ok, n_a_heap_tables, n_c_heap_tables, n_a_heap_cells, n_c_heap_cells, n_a_funs, n_c_funs, n_a_frames, n_c_frames, n_a_out, n_c_out, rfl, n_l_heap_tables, n_r_heap_tables, n_l_heap_cells, n_r_heap_cells, n_l_funs, n_r_funs, n_l_frames, n_r_frames, n_l_out, n_r_out⟩ := hC'
  unfold VmD.wt at hw
  have h_heap : HeapC w lo hi x.heap [.slice a_heap_tables x.heap.tables.length c_heap_tables, .slice a_heap_cells x.heap.cells.length c_heap_cells] := ⟨ok.heap, a_heap_tables, c_heap_tables, a_heap_cells, c_heap_cells, rfl, l_heap_tables, r_heap_tables, l_heap_cells, r_heap_cells⟩
  have n_h_heap : HeapC w lo' hi' x.heap [.slice n_a_heap_tables x.heap.tables.length n_c_heap_tables, .slice n_a_heap_cells x.heap.cells.length n_c_heap_cells] := ⟨n_ok.heap, n_a_heap_tables, n_c_heap_tables, n_a_heap_cells, n_c_heap_cells, rfl, n_l_heap_tables, n_r_heap_tables, n_l_heap_cells, n_r_heap_cells⟩
  have B0 : ∀ A B : Obj, Below w.heap.size w ((w.alloc A).alloc B) := fun A B => (bel_alloc w A).trans ((bel_alloc _ B).mono (by simp))
  go_enter Try.func15, Try.ntmps15
  go_wp2_with fail
  refine (eqHeap_same x.heap _ _ lo hi lo' hi' _ (by simp; omega) (by simp; omega) (by omega) (HeapC_keeps.below h_heap (B0 _ _) hh) (HeapC_keeps.below n_h_heap (B0 _ _) hh')).mono ?_
  rintro e w1 ⟨rfl, hb1⟩
  have hz1 : w.heap.size + 1 < w1.heap.size := by have := hb1.size; simp at this; omega
  have B1 : Below w.heap.size w w1 := (B0 _ _).trans (hb1.mono (by simp; omega))
  have hz1' : w.heap.size < w1.heap.size := by omega
  obtain ⟨hc1, hf1⟩ := bcell hb1
  go_wp2_with fail
  refine (eqClosureS_same x.funs a_funs n_a_funs c_funs n_c_funs lo hi lo' hi' w1 (Nat.le_trans hh B1.size) (Nat.le_trans hh' B1.size) (by omega) (r_funs.below ClosureC_keeps B1 hh) (n_r_funs.below ClosureC_keeps B1 hh')).mono ?_
  rintro e w2 ⟨rfl, hb2⟩
  have hz2 : w.heap.size + 1 < w2.heap.size := Nat.lt_of_lt_of_le hz1 hb2.size
  have B2 := B1.trans (hb2.mono B1.size)
  have hz2' : w.heap.size < w2.heap.size := by omega
  obtain ⟨hc2, hf2⟩ := bcell hb2
  go_wp2_with fail
  refine (eqFrameS_same x.frames a_frames n_a_frames c_frames n_c_frames lo hi lo' hi' w2 (Nat.le_trans hh B2.size) (Nat.le_trans hh' B2.size) (by omega) (r_frames.below FrameC_keeps B2 hh) (n_r_frames.below FrameC_keeps B2 hh')).mono ?_
  rintro e w3 ⟨rfl, hb3⟩
  have hz3 : w.heap.size + 1 < w3.heap.size := Nat.lt_of_lt_of_le hz2 hb3.size
  have B3 := B2.trans (hb3.mono B2.size)
  have hz3' : w.heap.size < w3.heap.size := by omega
  obtain ⟨hc3, hf3⟩ := bcell hb3
  go_wp2_with fail
  refine (eqStringS_same x.out a_out n_a_out c_out n_c_out lo hi lo' hi' w3 (Nat.le_trans hh B3.size) (Nat.le_trans hh' B3.size) (by omega) (r_out.below StrC_keeps B3 hh) (n_r_out.below StrC_keeps B3 hh')).mono ?_
  rintro e w4 ⟨rfl, hb4⟩
  have hz4 : w.heap.size + 1 < w4.heap.size := Nat.lt_of_lt_of_le hz3 hb4.size
  have B4 := B3.trans (hb4.mono B3.size)
  have hz4' : w.heap.size < w4.heap.size := by omega
  obtain ⟨hc4, hf4⟩ := bcell hb4
  go_wp2_with fail
  refine (eqV_same x.value.k x.value.n x.value.s _).mono ?_
  rintro e w5 ⟨rfl, hb5⟩
  have hz5 : w.heap.size + 1 < w5.heap.size := Nat.lt_of_lt_of_le hz4 hb5.size
  have B5 := B4.trans (hb5.mono B4.size)
  have hz5' : w.heap.size < w5.heap.size := by omega
  obtain ⟨hc5, hf5⟩ := bcell hb5
  go_wp2_with fail
  go_ret
  exact ⟨rfl, B5⟩
end Go.Proofs.Ytnbkgpmibgdlmaa
