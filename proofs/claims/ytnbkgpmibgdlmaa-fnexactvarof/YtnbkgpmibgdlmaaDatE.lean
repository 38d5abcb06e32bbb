/- Code that is told alike is found alike. -/
import Derived.Test.YtnbkgpmibgdlmaaDatC
import Derived.Deep.RegionHeld
namespace Go.Proofs.Ytnbkgpmibgdlmaa
open Go.RowKit

set_option maxRecDepth 100000 in
set_option maxHeartbeats 800000 in
theorem eqUp_same (x : UpD) (w : World) :
    Calls Try.prog 99 #[.agg #[.bool x.isLocal, .int .i64 x.at_], .agg #[.bool x.isLocal, .int .i64 x.at_]] w fun e w' => e = .returned (.bool true) ∧ Below w.heap.size w w' := by
  have B0 : ∀ A B : Obj, Below w.heap.size w ((w.alloc A).alloc B) := fun A B => (bel_alloc w A).trans ((bel_alloc _ B).mono (by simp))
  go_enter Try.func99, Try.ntmps99
  go_wp2_with fail
  go_ret
  exact ⟨rfl, B0 _ _⟩
set_option maxRecDepth 100000 in
set_option maxHeartbeats 1600000 in
theorem eqUpS_same (xs : List UpD) (a b : Option Addr) (ca cb lo hi lo' hi' : Nat) (w : World) (hh : hi ≤ w.heap.size) (hh' : hi' ≤ w.heap.size) (hw : xs.length ≤ 2097152) (hS : RowAt 2 UpC w lo hi xs a) (hT : RowAt 2 UpC w lo' hi' xs b) :
    Calls Try.prog 72 #[.slice a xs.length ca, .slice b xs.length cb] w fun e w' => e = .returned (.bool true) ∧ Below w.heap.size w w' := by
  go_enter Try.func72, Try.ntmps72
  go_wp2_with fail
  go_loopw [5] (fun x wr => ∃ i : Nat, x = .int .i64 i ∧ i ≤ xs.length ∧ Below w.heap.size w wr) (fun x _ => xs.length - (intOf x).toNat)
  case atStart => exact ⟨0, rfl, Nat.zero_le _, Below.refl _ _⟩
  case round =>
    obtain ⟨i, rfl, hil, hbl⟩ := hrel
    by_cases hlt : i < xs.length
    · obtain ⟨g, o, cx, rfl, _, hg, hC, _, hc⟩ := hS i hlt
      obtain ⟨g', o', cy, rfl, _, hg', hC', _, hc'⟩ := hT i hlt
      have hC1 := UpC_keeps.below hC hbl hh
      have hC2 := UpC_keeps.below hC' hbl hh'
      have hC3 := hC1
      have hC4 := hC2
      obtain ⟨ok, rfl⟩ := hC1
      obtain ⟨ok2, rfl⟩ := hC2
      have x0 := (hbl.cell (p := ⟨g, o + 2 * i + 0, none⟩) (by show g < _; omega)).trans (hc 0 (by decide))
      have y0 := (hbl.cell (p := ⟨g', o' + 2 * i + 0, none⟩) (by show g' < _; omega)).trans (hc' 0 (by decide))
      have x1 := (hbl.cell (p := ⟨g, o + 2 * i + 1, none⟩) (by show g < _; omega)).trans (hc 1 (by decide))
      have y1 := (hbl.cell (p := ⟨g', o' + 2 * i + 1, none⟩) (by show g' < _; omega)).trans (hc' 1 (by decide))
      simp only [List.getElem?_cons_zero, List.getElem?_cons_succ, Nat.add_zero] at x0 y0 x1 y1
      have mc : i * 2 = 2 * i := Nat.mul_comm _ _
      have hszw := hbl.size
      have kx : g < wr.heap.size := by omega
      have ky : g' < wr.heap.size := by omega
      clear hc hc' hS hT hC hC' hC3 hC4 ok ok2
      generalize xs[i] = x at *
      go_wp2_with fail
      go_region_held (fun w' => w'.cell? ⟨g, o + 2 * i, none⟩ = some (.bool x.isLocal) ∧ w'.cell? ⟨g, o + 2 * i + 1, none⟩ = some (.int .i64 x.at_) ∧ w'.cell? ⟨g', o' + 2 * i, none⟩ = some (.bool x.isLocal) ∧ w'.cell? ⟨g', o' + 2 * i + 1, none⟩ = some (.int .i64 x.at_)) (go_keep) (first | (go_at_call 99; refine (eqUp_same x _).mono ?_; rintro e w1 ⟨rfl, hb1⟩; have qx0 := (hb1.cell (p := ⟨g, o + 2 * i, none⟩) kx).trans x0; have qy0 := (hb1.cell (p := ⟨g', o' + 2 * i, none⟩) ky).trans y0; have qx1 := (hb1.cell (p := ⟨g, o + 2 * i + 1, none⟩) kx).trans x1; have qy1 := (hb1.cell (p := ⟨g', o' + 2 * i + 1, none⟩) ky).trans y1))
      go_wp2_with fail
      go_roundw
      case rel => exact ⟨i + 1, by go_num, by omega, hbl.drew.trans (hb1.mono hbl.size)⟩
      case measure => simp [intOf]; omega
    · obtain rfl : i = xs.length := by omega
      clear hS hT
      go_wp2_with fail
      go_ret
      exact ⟨rfl, hbl⟩
set_option maxRecDepth 100000 in
set_option maxHeartbeats 800000 in
theorem eqInstr_same (x : InstrD) (w : World) :
    Calls Try.prog 100 #[.agg #[.int .i64 x.op, .int .i64 x.a, .int .i64 x.v.k, .int .i64 x.v.n, .string x.v.s, .string x.s, .int .i64 x.line], .agg #[.int .i64 x.op, .int .i64 x.a, .int .i64 x.v.k, .int .i64 x.v.n, .string x.v.s, .string x.s, .int .i64 x.line]] w fun e w' => e = .returned (.bool true) ∧ Below w.heap.size w w' := by
  have B0 : ∀ A B : Obj, Below w.heap.size w ((w.alloc A).alloc B) := fun A B => (bel_alloc w A).trans ((bel_alloc _ B).mono (by simp))
  go_enter Try.func100, Try.ntmps100
  go_wp2_with fail
  refine (eqV_same x.v.k x.v.n x.v.s _).mono ?_
  rintro e w1 ⟨rfl, hb1⟩
  have hz1 : w.heap.size + 1 < w1.heap.size := by have := hb1.size; simp at this; omega
  have B1 : Below w.heap.size w w1 := (B0 _ _).trans (hb1.mono (by simp; omega))
  have hz1' : w.heap.size < w1.heap.size := by omega
  obtain ⟨hc1, hf1⟩ := bcell hb1
  go_wp2_with fail
  go_ret
  exact ⟨rfl, B1⟩
set_option maxRecDepth 100000 in
set_option maxHeartbeats 1600000 in
theorem eqInstrS_same (xs : List InstrD) (a b : Option Addr) (ca cb lo hi lo' hi' : Nat) (w : World) (hh : hi ≤ w.heap.size) (hh' : hi' ≤ w.heap.size) (hw : wtR InstrD.wt xs ≤ 2097152) (hS : RowAt 7 InstrC w lo hi xs a) (hT : RowAt 7 InstrC w lo' hi' xs b) :
    Calls Try.prog 73 #[.slice a xs.length ca, .slice b xs.length cb] w fun e w' => e = .returned (.bool true) ∧ Below w.heap.size w w' := by
  have hn := len_wtR InstrD.wt xs
  go_enter Try.func73, Try.ntmps73
  go_wp2_with fail
  go_loopw [5] (fun x wr => ∃ i : Nat, x = .int .i64 i ∧ i ≤ xs.length ∧ Below w.heap.size w wr) (fun x _ => xs.length - (intOf x).toNat)
  case atStart => exact ⟨0, rfl, Nat.zero_le _, Below.refl _ _⟩
  case round =>
    obtain ⟨i, rfl, hil, hbl⟩ := hrel
    by_cases hlt : i < xs.length
    · obtain ⟨g, o, cx, rfl, _, hg, hC, _, hc⟩ := hS i hlt
      obtain ⟨g', o', cy, rfl, _, hg', hC', _, hc'⟩ := hT i hlt
      have hC1 := InstrC_keeps.below hC hbl hh
      have hC2 := InstrC_keeps.below hC' hbl hh'
      have hC3 := hC1
      have hC4 := hC2
      obtain ⟨ok, rfl⟩ := hC1
      obtain ⟨ok2, rfl⟩ := hC2
      have x0 := (hbl.cell (p := ⟨g, o + 7 * i + 0, none⟩) (by show g < _; omega)).trans (hc 0 (by decide))
      have y0 := (hbl.cell (p := ⟨g', o' + 7 * i + 0, none⟩) (by show g' < _; omega)).trans (hc' 0 (by decide))
      have x1 := (hbl.cell (p := ⟨g, o + 7 * i + 1, none⟩) (by show g < _; omega)).trans (hc 1 (by decide))
      have y1 := (hbl.cell (p := ⟨g', o' + 7 * i + 1, none⟩) (by show g' < _; omega)).trans (hc' 1 (by decide))
      have x2 := (hbl.cell (p := ⟨g, o + 7 * i + 2, none⟩) (by show g < _; omega)).trans (hc 2 (by decide))
      have y2 := (hbl.cell (p := ⟨g', o' + 7 * i + 2, none⟩) (by show g' < _; omega)).trans (hc' 2 (by decide))
      have x3 := (hbl.cell (p := ⟨g, o + 7 * i + 3, none⟩) (by show g < _; omega)).trans (hc 3 (by decide))
      have y3 := (hbl.cell (p := ⟨g', o' + 7 * i + 3, none⟩) (by show g' < _; omega)).trans (hc' 3 (by decide))
      have x4 := (hbl.cell (p := ⟨g, o + 7 * i + 4, none⟩) (by show g < _; omega)).trans (hc 4 (by decide))
      have y4 := (hbl.cell (p := ⟨g', o' + 7 * i + 4, none⟩) (by show g' < _; omega)).trans (hc' 4 (by decide))
      have x5 := (hbl.cell (p := ⟨g, o + 7 * i + 5, none⟩) (by show g < _; omega)).trans (hc 5 (by decide))
      have y5 := (hbl.cell (p := ⟨g', o' + 7 * i + 5, none⟩) (by show g' < _; omega)).trans (hc' 5 (by decide))
      have x6 := (hbl.cell (p := ⟨g, o + 7 * i + 6, none⟩) (by show g < _; omega)).trans (hc 6 (by decide))
      have y6 := (hbl.cell (p := ⟨g', o' + 7 * i + 6, none⟩) (by show g' < _; omega)).trans (hc' 6 (by decide))
      simp only [List.getElem?_cons_zero, List.getElem?_cons_succ, Nat.add_zero] at x0 y0 x1 y1 x2 y2 x3 y3 x4 y4 x5 y5 x6 y6
      have mc : i * 7 = 7 * i := Nat.mul_comm _ _
      have hwm := wtR_mem InstrD.wt xs i hlt
      have hszw := hbl.size
      have kx : g < wr.heap.size := by omega
      have ky : g' < wr.heap.size := by omega
      clear hc hc' hS hT hC hC' hC3 hC4 hwm ok ok2
      generalize xs[i] = x at *
      go_wp2_with fail
      go_region_held (fun w' => w'.cell? ⟨g, o + 7 * i, none⟩ = some (.int .i64 x.op) ∧ w'.cell? ⟨g, o + 7 * i + 1, none⟩ = some (.int .i64 x.a) ∧ w'.cell? ⟨g, o + 7 * i + 2, none⟩ = some (.int .i64 x.v.k) ∧ w'.cell? ⟨g, o + 7 * i + 3, none⟩ = some (.int .i64 x.v.n) ∧ w'.cell? ⟨g, o + 7 * i + 4, none⟩ = some (.string x.v.s) ∧ w'.cell? ⟨g, o + 7 * i + 5, none⟩ = some (.string x.s) ∧ w'.cell? ⟨g, o + 7 * i + 6, none⟩ = some (.int .i64 x.line) ∧ w'.cell? ⟨g', o' + 7 * i, none⟩ = some (.int .i64 x.op) ∧ w'.cell? ⟨g', o' + 7 * i + 1, none⟩ = some (.int .i64 x.a) ∧ w'.cell? ⟨g', o' + 7 * i + 2, none⟩ = some (.int .i64 x.v.k) ∧ w'.cell? ⟨g', o' + 7 * i + 3, none⟩ = some (.int .i64 x.v.n) ∧ w'.cell? ⟨g', o' + 7 * i + 4, none⟩ = some (.string x.v.s) ∧ w'.cell? ⟨g', o' + 7 * i + 5, none⟩ = some (.string x.s) ∧ w'.cell? ⟨g', o' + 7 * i + 6, none⟩ = some (.int .i64 x.line)) (go_keep) (first | (go_at_call 100; refine (eqInstr_same x _).mono ?_; rintro e w1 ⟨rfl, hb1⟩; have qx0 := (hb1.cell (p := ⟨g, o + 7 * i, none⟩) kx).trans x0; have qy0 := (hb1.cell (p := ⟨g', o' + 7 * i, none⟩) ky).trans y0; have qx1 := (hb1.cell (p := ⟨g, o + 7 * i + 1, none⟩) kx).trans x1; have qy1 := (hb1.cell (p := ⟨g', o' + 7 * i + 1, none⟩) ky).trans y1; have qx2 := (hb1.cell (p := ⟨g, o + 7 * i + 2, none⟩) kx).trans x2; have qy2 := (hb1.cell (p := ⟨g', o' + 7 * i + 2, none⟩) ky).trans y2; have qx3 := (hb1.cell (p := ⟨g, o + 7 * i + 3, none⟩) kx).trans x3; have qy3 := (hb1.cell (p := ⟨g', o' + 7 * i + 3, none⟩) ky).trans y3; have qx4 := (hb1.cell (p := ⟨g, o + 7 * i + 4, none⟩) kx).trans x4; have qy4 := (hb1.cell (p := ⟨g', o' + 7 * i + 4, none⟩) ky).trans y4; have qx5 := (hb1.cell (p := ⟨g, o + 7 * i + 5, none⟩) kx).trans x5; have qy5 := (hb1.cell (p := ⟨g', o' + 7 * i + 5, none⟩) ky).trans y5; have qx6 := (hb1.cell (p := ⟨g, o + 7 * i + 6, none⟩) kx).trans x6; have qy6 := (hb1.cell (p := ⟨g', o' + 7 * i + 6, none⟩) ky).trans y6))
      go_wp2_with fail
      go_roundw
      case rel => exact ⟨i + 1, by go_num, by omega, hbl.drew.trans (hb1.mono hbl.size)⟩
      case measure => simp [intOf]; omega
    · obtain rfl : i = xs.length := by omega
      clear hS hT
      go_wp2_with fail
      go_ret
      exact ⟨rfl, hbl⟩
set_option maxRecDepth 100000 in
set_option maxHeartbeats 800000 in
theorem eqName_same (x : NameD) (w : World) :
    Calls Try.prog 101 #[.agg #[.string x.text, .int .i64 x.slot, .int .i64 x.frm, .int .i64 x.upto], .agg #[.string x.text, .int .i64 x.slot, .int .i64 x.frm, .int .i64 x.upto]] w fun e w' => e = .returned (.bool true) ∧ Below w.heap.size w w' := by
  have B0 : ∀ A B : Obj, Below w.heap.size w ((w.alloc A).alloc B) := fun A B => (bel_alloc w A).trans ((bel_alloc _ B).mono (by simp))
  go_enter Try.func101, Try.ntmps101
  go_wp2_with fail
  go_ret
  exact ⟨rfl, B0 _ _⟩
set_option maxRecDepth 100000 in
set_option maxHeartbeats 1600000 in
theorem eqNameS_same (xs : List NameD) (a b : Option Addr) (ca cb lo hi lo' hi' : Nat) (w : World) (hh : hi ≤ w.heap.size) (hh' : hi' ≤ w.heap.size) (hw : wtR NameD.wt xs ≤ 2097152) (hS : RowAt 4 NameC w lo hi xs a) (hT : RowAt 4 NameC w lo' hi' xs b) :
    Calls Try.prog 74 #[.slice a xs.length ca, .slice b xs.length cb] w fun e w' => e = .returned (.bool true) ∧ Below w.heap.size w w' := by
  have hn := len_wtR NameD.wt xs
  go_enter Try.func74, Try.ntmps74
  go_wp2_with fail
  go_loopw [5] (fun x wr => ∃ i : Nat, x = .int .i64 i ∧ i ≤ xs.length ∧ Below w.heap.size w wr) (fun x _ => xs.length - (intOf x).toNat)
  case atStart => exact ⟨0, rfl, Nat.zero_le _, Below.refl _ _⟩
  case round =>
    obtain ⟨i, rfl, hil, hbl⟩ := hrel
    by_cases hlt : i < xs.length
    · obtain ⟨g, o, cx, rfl, _, hg, hC, _, hc⟩ := hS i hlt
      obtain ⟨g', o', cy, rfl, _, hg', hC', _, hc'⟩ := hT i hlt
      have hC1 := NameC_keeps.below hC hbl hh
      have hC2 := NameC_keeps.below hC' hbl hh'
      have hC3 := hC1
      have hC4 := hC2
      obtain ⟨ok, rfl⟩ := hC1
      obtain ⟨ok2, rfl⟩ := hC2
      have x0 := (hbl.cell (p := ⟨g, o + 4 * i + 0, none⟩) (by show g < _; omega)).trans (hc 0 (by decide))
      have y0 := (hbl.cell (p := ⟨g', o' + 4 * i + 0, none⟩) (by show g' < _; omega)).trans (hc' 0 (by decide))
      have x1 := (hbl.cell (p := ⟨g, o + 4 * i + 1, none⟩) (by show g < _; omega)).trans (hc 1 (by decide))
      have y1 := (hbl.cell (p := ⟨g', o' + 4 * i + 1, none⟩) (by show g' < _; omega)).trans (hc' 1 (by decide))
      have x2 := (hbl.cell (p := ⟨g, o + 4 * i + 2, none⟩) (by show g < _; omega)).trans (hc 2 (by decide))
      have y2 := (hbl.cell (p := ⟨g', o' + 4 * i + 2, none⟩) (by show g' < _; omega)).trans (hc' 2 (by decide))
      have x3 := (hbl.cell (p := ⟨g, o + 4 * i + 3, none⟩) (by show g < _; omega)).trans (hc 3 (by decide))
      have y3 := (hbl.cell (p := ⟨g', o' + 4 * i + 3, none⟩) (by show g' < _; omega)).trans (hc' 3 (by decide))
      simp only [List.getElem?_cons_zero, List.getElem?_cons_succ, Nat.add_zero] at x0 y0 x1 y1 x2 y2 x3 y3
      have mc : i * 4 = 4 * i := Nat.mul_comm _ _
      have hwm := wtR_mem NameD.wt xs i hlt
      have hszw := hbl.size
      have kx : g < wr.heap.size := by omega
      have ky : g' < wr.heap.size := by omega
      clear hc hc' hS hT hC hC' hC3 hC4 hwm ok ok2
      generalize xs[i] = x at *
      go_wp2_with fail
      go_region_held (fun w' => w'.cell? ⟨g, o + 4 * i, none⟩ = some (.string x.text) ∧ w'.cell? ⟨g, o + 4 * i + 1, none⟩ = some (.int .i64 x.slot) ∧ w'.cell? ⟨g, o + 4 * i + 2, none⟩ = some (.int .i64 x.frm) ∧ w'.cell? ⟨g, o + 4 * i + 3, none⟩ = some (.int .i64 x.upto) ∧ w'.cell? ⟨g', o' + 4 * i, none⟩ = some (.string x.text) ∧ w'.cell? ⟨g', o' + 4 * i + 1, none⟩ = some (.int .i64 x.slot) ∧ w'.cell? ⟨g', o' + 4 * i + 2, none⟩ = some (.int .i64 x.frm) ∧ w'.cell? ⟨g', o' + 4 * i + 3, none⟩ = some (.int .i64 x.upto)) (go_keep) (first | (go_at_call 101; refine (eqName_same x _).mono ?_; rintro e w1 ⟨rfl, hb1⟩; have qx0 := (hb1.cell (p := ⟨g, o + 4 * i, none⟩) kx).trans x0; have qy0 := (hb1.cell (p := ⟨g', o' + 4 * i, none⟩) ky).trans y0; have qx1 := (hb1.cell (p := ⟨g, o + 4 * i + 1, none⟩) kx).trans x1; have qy1 := (hb1.cell (p := ⟨g', o' + 4 * i + 1, none⟩) ky).trans y1; have qx2 := (hb1.cell (p := ⟨g, o + 4 * i + 2, none⟩) kx).trans x2; have qy2 := (hb1.cell (p := ⟨g', o' + 4 * i + 2, none⟩) ky).trans y2; have qx3 := (hb1.cell (p := ⟨g, o + 4 * i + 3, none⟩) kx).trans x3; have qy3 := (hb1.cell (p := ⟨g', o' + 4 * i + 3, none⟩) ky).trans y3))
      go_wp2_with fail
      go_roundw
      case rel => exact ⟨i + 1, by go_num, by omega, hbl.drew.trans (hb1.mono hbl.size)⟩
      case measure => simp [intOf]; omega
    · obtain rfl : i = xs.length := by omega
      clear hS hT
      go_wp2_with fail
      go_ret
      exact ⟨rfl, hbl⟩
set_option maxRecDepth 100000 in
set_option maxHeartbeats 800000 in
theorem eqProto_same (x : ProtoD) (cs cs' : List Value) (lo hi lo' hi' : Nat) (w : World) (hh : hi ≤ w.heap.size) (hh' : hi' ≤ w.heap.size) (hw : x.wt ≤ 2097152) (hC : ProtoC w lo hi x cs) (hC' : ProtoC w lo' hi' x cs') :
    Calls Try.prog 38 #[.agg cs.toArray, .agg cs'.toArray] w fun e w' => e = .returned (.bool true) ∧ Below w.heap.size w w' := by
  obtain ⟨ok, a_ups, c_ups, a_code, c_code, a_names, c_names, rfl, l_ups, r_ups, l_code, r_code, l_names, r_names⟩ := hC
  obtain ⟨ok2, n_a_ups, n_c_ups, n_a_code, n_c_code, n_a_names, n_c_names, rfl, n_l_ups, n_r_ups, n_l_code, n_r_code, n_l_names, n_r_names⟩ := hC'
  unfold ProtoD.wt at hw
  have B0 : ∀ A B : Obj, Below w.heap.size w ((w.alloc A).alloc B) := fun A B => (bel_alloc w A).trans ((bel_alloc _ B).mono (by simp))
  go_enter Try.func38, Try.ntmps38
  go_wp2_with fail
  refine (eqUpS_same x.ups a_ups n_a_ups c_ups n_c_ups lo hi lo' hi' _ (by simp; omega) (by simp; omega) (by omega) (r_ups.below UpC_keeps (B0 _ _) hh) (n_r_ups.below UpC_keeps (B0 _ _) hh')).mono ?_
  rintro e w1 ⟨rfl, hb1⟩
  have hz1 : w.heap.size + 1 < w1.heap.size := by have := hb1.size; simp at this; omega
  have B1 : Below w.heap.size w w1 := (B0 _ _).trans (hb1.mono (by simp; omega))
  have hz1' : w.heap.size < w1.heap.size := by omega
  obtain ⟨hc1, hf1⟩ := bcell hb1
  go_wp2_with fail
  refine (eqInstrS_same x.code a_code n_a_code c_code n_c_code lo hi lo' hi' w1 (Nat.le_trans hh B1.size) (Nat.le_trans hh' B1.size) (by omega) (r_code.below InstrC_keeps B1 hh) (n_r_code.below InstrC_keeps B1 hh')).mono ?_
  rintro e w2 ⟨rfl, hb2⟩
  have hz2 : w.heap.size + 1 < w2.heap.size := Nat.lt_of_lt_of_le hz1 hb2.size
  have B2 := B1.trans (hb2.mono B1.size)
  have hz2' : w.heap.size < w2.heap.size := by omega
  obtain ⟨hc2, hf2⟩ := bcell hb2
  go_wp2_with fail
  refine (eqNameS_same x.names a_names n_a_names c_names n_c_names lo hi lo' hi' w2 (Nat.le_trans hh B2.size) (Nat.le_trans hh' B2.size) (by omega) (r_names.below NameC_keeps B2 hh) (n_r_names.below NameC_keeps B2 hh')).mono ?_
  rintro e w3 ⟨rfl, hb3⟩
  have hz3 : w.heap.size + 1 < w3.heap.size := Nat.lt_of_lt_of_le hz2 hb3.size
  have B3 := B2.trans (hb3.mono B2.size)
  have hz3' : w.heap.size < w3.heap.size := by omega
  obtain ⟨hc3, hf3⟩ := bcell hb3
  go_wp2_with fail
  go_ret
  exact ⟨rfl, B3⟩
set_option maxRecDepth 100000 in
set_option maxHeartbeats 1600000 in
theorem eqProtoS_same (xs : List ProtoD) (a b : Option Addr) (ca cb lo hi lo' hi' : Nat) (w : World) (hh : hi ≤ w.heap.size) (hh' : hi' ≤ w.heap.size) (hw : wtR ProtoD.wt xs ≤ 2097152) (hS : RowAt 5 ProtoC w lo hi xs a) (hT : RowAt 5 ProtoC w lo' hi' xs b) :
    Calls Try.prog 14 #[.slice a xs.length ca, .slice b xs.length cb] w fun e w' => e = .returned (.bool true) ∧ Below w.heap.size w w' := by
  have hn := len_wtR ProtoD.wt xs
  go_enter Try.func14, Try.ntmps14
  go_wp2_with fail
  go_loopw [5] (fun x wr => ∃ i : Nat, x = .int .i64 i ∧ i ≤ xs.length ∧ Below w.heap.size w wr) (fun x _ => xs.length - (intOf x).toNat)
  case atStart => exact ⟨0, rfl, Nat.zero_le _, Below.refl _ _⟩
  case round =>
    obtain ⟨i, rfl, hil, hbl⟩ := hrel
    by_cases hlt : i < xs.length
    · obtain ⟨g, o, cx, rfl, _, hg, hC, _, hc⟩ := hS i hlt
      obtain ⟨g', o', cy, rfl, _, hg', hC', _, hc'⟩ := hT i hlt
      have hC1 := ProtoC_keeps.below hC hbl hh
      have hC2 := ProtoC_keeps.below hC' hbl hh'
      have hC3 := hC1
      have hC4 := hC2
      obtain ⟨ok, a_ups, c_ups, a_code, c_code, a_names, c_names, rfl, l_ups, r_ups, l_code, r_code, l_names, r_names⟩ := hC1
      obtain ⟨ok2, n_a_ups, n_c_ups, n_a_code, n_c_code, n_a_names, n_c_names, rfl, n_l_ups, n_r_ups, n_l_code, n_r_code, n_l_names, n_r_names⟩ := hC2
      have x0 := (hbl.cell (p := ⟨g, o + 5 * i + 0, none⟩) (by show g < _; omega)).trans (hc 0 (by decide))
      have y0 := (hbl.cell (p := ⟨g', o' + 5 * i + 0, none⟩) (by show g' < _; omega)).trans (hc' 0 (by decide))
      have x1 := (hbl.cell (p := ⟨g, o + 5 * i + 1, none⟩) (by show g < _; omega)).trans (hc 1 (by decide))
      have y1 := (hbl.cell (p := ⟨g', o' + 5 * i + 1, none⟩) (by show g' < _; omega)).trans (hc' 1 (by decide))
      have x2 := (hbl.cell (p := ⟨g, o + 5 * i + 2, none⟩) (by show g < _; omega)).trans (hc 2 (by decide))
      have y2 := (hbl.cell (p := ⟨g', o' + 5 * i + 2, none⟩) (by show g' < _; omega)).trans (hc' 2 (by decide))
      have x3 := (hbl.cell (p := ⟨g, o + 5 * i + 3, none⟩) (by show g < _; omega)).trans (hc 3 (by decide))
      have y3 := (hbl.cell (p := ⟨g', o' + 5 * i + 3, none⟩) (by show g' < _; omega)).trans (hc' 3 (by decide))
      have x4 := (hbl.cell (p := ⟨g, o + 5 * i + 4, none⟩) (by show g < _; omega)).trans (hc 4 (by decide))
      have y4 := (hbl.cell (p := ⟨g', o' + 5 * i + 4, none⟩) (by show g' < _; omega)).trans (hc' 4 (by decide))
      simp only [List.getElem?_cons_zero, List.getElem?_cons_succ, Nat.add_zero] at x0 y0 x1 y1 x2 y2 x3 y3 x4 y4
      have mc : i * 5 = 5 * i := Nat.mul_comm _ _
      have hwm := wtR_mem ProtoD.wt xs i hlt
      have hszw := hbl.size
      have kx : g < wr.heap.size := by omega
      have ky : g' < wr.heap.size := by omega
      have HC : Hid (∀ W, Below wr.heap.size wr W → Calls Try.prog 38 #[.agg [.int .i64 xs[i].params, .int .i64 xs[i].slots, .slice a_ups xs[i].ups.length c_ups, .slice a_code xs[i].code.length c_code, .slice a_names xs[i].names.length c_names].toArray, .agg [.int .i64 xs[i].params, .int .i64 xs[i].slots, .slice n_a_ups xs[i].ups.length n_c_ups, .slice n_a_code xs[i].code.length n_c_code, .slice n_a_names xs[i].names.length n_c_names].toArray] W fun e w' => e = .returned (.bool true) ∧ Below W.heap.size W w') := fun W hW => eqProto_same xs[i] _ _ lo hi lo' hi' W (by have := hW.size; omega) (by have := hW.size; omega) (by omega) (ProtoC_keeps.below hC3 hW (by omega)) (ProtoC_keeps.below hC4 hW (by omega))
      clear hc hc' hS hT hC hC' hC3 hC4 hwm ok ok2 l_ups r_ups n_l_ups n_r_ups l_code r_code n_l_code n_r_code l_names r_names n_l_names n_r_names
      generalize xs[i] = x at *
      go_wp2_with fail
      go_region_held (fun w' => w'.cell? ⟨g, o + 5 * i, none⟩ = some (.int .i64 x.params) ∧ w'.cell? ⟨g, o + 5 * i + 1, none⟩ = some (.int .i64 x.slots) ∧ w'.cell? ⟨g, o + 5 * i + 2, none⟩ = some (.slice a_ups x.ups.length c_ups) ∧ w'.cell? ⟨g, o + 5 * i + 3, none⟩ = some (.slice a_code x.code.length c_code) ∧ w'.cell? ⟨g, o + 5 * i + 4, none⟩ = some (.slice a_names x.names.length c_names) ∧ w'.cell? ⟨g', o' + 5 * i, none⟩ = some (.int .i64 x.params) ∧ w'.cell? ⟨g', o' + 5 * i + 1, none⟩ = some (.int .i64 x.slots) ∧ w'.cell? ⟨g', o' + 5 * i + 2, none⟩ = some (.slice n_a_ups x.ups.length n_c_ups) ∧ w'.cell? ⟨g', o' + 5 * i + 3, none⟩ = some (.slice n_a_code x.code.length n_c_code) ∧ w'.cell? ⟨g', o' + 5 * i + 4, none⟩ = some (.slice n_a_names x.names.length n_c_names)) (go_keep) (first | (go_at_call 38; refine (HC.out _ (Below.refl _ _).drew).mono ?_; rintro e w1 ⟨rfl, hb1⟩; have qx0 := (hb1.cell (p := ⟨g, o + 5 * i, none⟩) kx).trans x0; have qy0 := (hb1.cell (p := ⟨g', o' + 5 * i, none⟩) ky).trans y0; have qx1 := (hb1.cell (p := ⟨g, o + 5 * i + 1, none⟩) kx).trans x1; have qy1 := (hb1.cell (p := ⟨g', o' + 5 * i + 1, none⟩) ky).trans y1; have qx2 := (hb1.cell (p := ⟨g, o + 5 * i + 2, none⟩) kx).trans x2; have qy2 := (hb1.cell (p := ⟨g', o' + 5 * i + 2, none⟩) ky).trans y2; have qx3 := (hb1.cell (p := ⟨g, o + 5 * i + 3, none⟩) kx).trans x3; have qy3 := (hb1.cell (p := ⟨g', o' + 5 * i + 3, none⟩) ky).trans y3; have qx4 := (hb1.cell (p := ⟨g, o + 5 * i + 4, none⟩) kx).trans x4; have qy4 := (hb1.cell (p := ⟨g', o' + 5 * i + 4, none⟩) ky).trans y4))
      go_wp2_with fail
      go_roundw
      case rel => exact ⟨i + 1, by go_num, by omega, hbl.drew.trans (hb1.mono hbl.size)⟩
      case measure => simp [intOf]; omega
    · obtain rfl : i = xs.length := by omega
      clear hS hT
      go_wp2_with fail
      go_ret
      exact ⟨rfl, hbl⟩
end Go.Proofs.Ytnbkgpmibgdlmaa
