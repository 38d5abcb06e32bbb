/- Code is copied. -/
import Derived.Test.YtnbkgpmibgdlmaaDatS
import Derived.Test.YtnbkgpmibgdlmaaValR
import Derived.Deep.OwnRows
namespace Go.Proofs.Ytnbkgpmibgdlmaa
open Go.RowKit

theorem run_makeD_n {P : Program} (t e : TypeId) (z : Value) (size bytes : Nat) (ht : P.underlying t = some (.slice e)) (hinfo : (P.info? e).map (fun i => (i.zero, i.size, i.bytes)) = some (some z, size, bytes))
    (kl kc : IntKind) (n : Nat) (hbytes : bytes * n ≤ 281474976710656) (h63 : n ≤ 9223372036854775807) (w : World) :
    (Instr.makeSlice t (.int kl (n : Int)) (.int kc (n : Int))).run P w = .ok (.slice (some ⟨w.heap.size, 0, none⟩) n n) (w.alloc (.cells (madeCells z.cells (n * size)) e)) := by
  obtain ⟨i, hi, hzz⟩ := Option.map_eq_some_iff.1 hinfo
  simp only [Prod.mk.injEq] at hzz
  obtain ⟨hz, hs, hb⟩ := hzz
  have hb' : (i.bytes : Int) * (n : Int) ≤ 281474976710656 := by
    have h : ((i.bytes * n : Nat) : Int) ≤ 281474976710656 := by rw [hb]; omega
    rwa [Int.natCast_mul] at h
  have hr := run_make (P := P) w t e i z ht hi hz kl kc n n (by omega) (Int.le_refl _) hb' (by omega)
  simp only [Int.toNat_natCast, hs] at hr
  exact hr
set_option maxRecDepth 100000 in
set_option maxHeartbeats 800000 in
theorem toUp_any (x : UpD) (w : World) :
    Calls Try.prog 91 #[.agg #[.bool x.isLocal, .int .i64 x.at_]] w fun e w' => e = .returned (.agg #[.bool x.isLocal, .int .i64 x.at_]) ∧ Below w.heap.size w w' := by
  go_enter Try.func91, Try.ntmps91
  go_wp2
  exact bodyPost_ret (v := .agg #[.bool x.isLocal, .int .i64 x.at_]) (by simp [results, Try.results91, go_sem]) rfl ⟨rfl, by repeat (first | exact Below.refl _ _ | refine Below.setCell ?_ (by simp <;> omega) _ | refine Below.alloc ?_ (by simp <;> omega) _)⟩
theorem info_Up : (Try.prog.info? 176).map (fun i => (i.zero, i.size, i.bytes)) = some (some (.agg #[.bool false, .int .i64 0]), 2, 16) := by kernel_rfl
set_option maxRecDepth 100000 in
set_option maxHeartbeats 800000 in
theorem toUpS_any (xs : List UpD) (a : Option Addr) (ca lo hi : Nat) (w : World) (hh : hi ≤ w.heap.size) (hw : xs.length ≤ 1048576) (hS : RowAt 2 UpC w lo hi xs a) :
    Calls Try.prog 62 #[.slice a xs.length ca] w fun e w' => (∃ b cb, e = .returned (.slice b xs.length cb) ∧ RowAt 2 UpC w' w.heap.size w'.heap.size xs b) ∧ Below w.heap.size w w' := by
  have hmk := run_makeD_n (P := Try.prog) 77 176 _ _ _ Try.underlying77 info_Up .i64 .i64 xs.length (by omega) (by omega)
  go_enter Try.func62, Try.ntmps62
  go_wp2_with fail
  go_loopw [4] (fun x wr => ∃ (i : Nat) (cs : Array Value), x = .int .i64 i ∧ i ≤ xs.length ∧ wr.heap[w.heap.size]? = some (.cells cs 176 (0, 0)) ∧ cs.size = 2 * xs.length ∧ (∀ m (h : m < i) (h' : m < xs.length), ∃ cs', UpC wr (w.heap.size + 1) wr.heap.size xs[m] cs' ∧ cs'.length = 2 ∧ ∀ j, j < 2 → cs[2 * m + j]? = cs'[j]?) ∧ Below w.heap.size w wr) (fun x _ => xs.length - (intOf x).toNat)
  case atStart => exact ⟨0, _, rfl, Nat.zero_le _, heap_alloc_new w _, by simp [size_madeCells]; omega, fun m h => absurd h (Nat.not_lt_zero _), bel_alloc w _⟩
  case round =>
    obtain ⟨i, cs, rfl, hil, hrow, hcs, hall, hbl⟩ := hrel
    by_cases hlt : i < xs.length
    · obtain ⟨g, o, cx, rfl, _, hg, hC, _, hc⟩ := hS i hlt
      have hC1 := UpC_keeps.below hC hbl hh
      have hC2 := hC1
      obtain ⟨ok, rfl⟩ := hC1
      have x0 := (hbl.cell (p := ⟨g, o + 2 * i + 0, none⟩) (by show g < _; omega)).trans (hc 0 (by decide))
      have x1 := (hbl.cell (p := ⟨g, o + 2 * i + 1, none⟩) (by show g < _; omega)).trans (hc 1 (by decide))
      simp only [List.getElem?_cons_zero, List.getElem?_cons_succ, Nat.add_zero] at x0 x1
      have mc : i * 2 = 2 * i := Nat.mul_comm _ _
      have hwr : w.heap.size < wr.heap.size := (Array.getElem?_eq_some_iff.1 hrow).1
      have HROW : Hid (wr.heap[w.heap.size]? = some (.cells cs 176 (0, 0))) := hrow
      have HALL : Hid (∀ m (h : m < i) (h' : m < xs.length), ∃ cs', UpC wr (w.heap.size + 1) wr.heap.size xs[m] cs' ∧ cs'.length = 2 ∧ ∀ j, j < 2 → cs[2 * m + j]? = cs'[j]?) := hall
      obtain ⟨x, hx⟩ : ∃ x, x = xs[i] := ⟨_, rfl⟩
      rw [← hx] at x0 x1 hC2 ok
      have HX : Hid (x = xs[i]) := hx
      clear hc hS hrow hall hx hC
      go_wp2_with fail
      refine (toUp_any x wr).mono ?_
      rintro e w1 ⟨rfl, hb1⟩
      have r1 := (hb1.block w.heap.size hwr).trans HROW.out
      have f0 := frozen_of_row w1 w.heap.size (2 * i) _ _ r1
      have e0 := (cell_of_row w1 w.heap.size (2 * i) _ _ (0, 0) r1).trans (Array.getElem?_eq_getElem (xs := cs) (i := 2 * i) (by omega))
      have f1 := frozen_of_row w1 w.heap.size (2 * i + 1) _ _ r1
      have e1 := (cell_of_row w1 w.heap.size (2 * i + 1) _ _ (0, 0) r1).trans (Array.getElem?_eq_getElem (xs := cs) (i := 2 * i + 1) (by omega))
      have R1 : Hid (w1.heap[w.heap.size]? = some (.cells cs 176 (0, 0))) := r1
      clear r1
      go_wp2_with fail
      go_roundw
      case rel =>
        have hs1 := hb1.size
        have fr : ∀ p : Addr, w.heap.size + 1 ≤ p.block → ((w1.setCell ⟨w.heap.size, 2 * i, none⟩ (.bool x.isLocal)).setCell ⟨w.heap.size, 2 * i + 1, none⟩ (.int .i64 x.at_)).cell? p = w1.cell? p := fun p h1 => (cell_set_other (by show p.block ≠ w.heap.size; omega)).trans (cell_set_other (by show p.block ≠ w.heap.size; omega))
        refine ⟨i + 1, _, by go_num, by omega, (heap_setCell_same _ _ _ _ _ _ (heap_setCell_same _ _ _ _ _ _ R1.out)), by simpa using hcs, fun m h h' => ?_, (((hbl.trans (hb1.mono hbl.size)).setCell (Nat.le_refl _) _).setCell (Nat.le_refl _) _)⟩
        by_cases hm' : m = i
        · subst hm'
          rw [← HX.out]
          exact ⟨[.bool x.isLocal, .int .i64 x.at_], ⟨ok, rfl⟩, rfl, fun j hj => by exact sr2_new cs m _ _ j hj (by omega)⟩
        · obtain ⟨cs', h1, h2, h3⟩ := HALL.out m (by omega) h'
          refine ⟨cs', UpC_keeps _ _ _ _ _ _ _ _ (Nat.le_refl _) (by simp; omega) (fun p h1 h2 => (fr p h1).trans (hb1.cell h2)) h1, h2, fun j hj => ?_⟩
          rw [sr2_old cs i _ _ _ (by omega)]
          exact h3 j hj
      case measure => simp [intOf]; omega
    · obtain rfl : i = xs.length := by omega
      have hlt2 : w.heap.size < wr.heap.size := (Array.getElem?_eq_some_iff.1 hrow).1
      have HALL : Hid (∀ m (h : m < xs.length) (h' : m < xs.length), ∃ cs', UpC wr (w.heap.size + 1) wr.heap.size xs[m] cs' ∧ cs'.length = 2 ∧ ∀ j, j < 2 → cs[2 * m + j]? = cs'[j]?) := hall
      clear hS hall
      go_wp2_with fail
      go_ret
      exact ⟨⟨_, _, rfl, fun m h => by
        obtain ⟨cs', h1, h2, h3⟩ := HALL.out m h h
        exact ⟨w.heap.size, 0, cs', rfl, Nat.le_refl _, hlt2, UpC_keeps _ _ _ _ _ _ _ _ (by omega) (Nat.le_refl _) (fun _ _ _ => rfl) h1, h2, fun j hj => by rw [cell_of_row _ _ _ _ _ _ hrow, ← h3 j hj]; congr 1; omega⟩⟩, hbl⟩
set_option maxRecDepth 100000 in
set_option maxHeartbeats 800000 in
theorem toInstr_any (x : InstrD) (w : World) :
    Calls Try.prog 92 #[.agg #[.int .i64 x.op, .int .i64 x.a, .int .i64 x.v.k, .int .i64 x.v.n, .string x.v.s, .string x.s, .int .i64 x.line]] w fun e w' => e = .returned (.agg #[.int .i64 x.op, .int .i64 x.a, .int .i64 x.v.k, .int .i64 x.v.n, .string x.v.s, .string x.s, .int .i64 x.line]) ∧ Below w.heap.size w w' := by
  go_enter Try.func92, Try.ntmps92
  go_wp2_with fail
  refine (toV_any x.v.k x.v.n x.v.s _).mono ?_
  rintro e w1 ⟨rfl, hb1⟩
  obtain ⟨hc1, hf1⟩ := bcell hb1
  have hz1 : w.heap.size + 1 + 1 < w1.heap.size := by have := hb1.size; simp at this; omega
  have hz1' : w.heap.size + 1 < w1.heap.size := by omega
  have hz1'' : w.heap.size < w1.heap.size := by omega
  have B1 : Below w.heap.size w w1 := Below.trans (by repeat (first | exact Below.refl _ _ | refine Below.setCell ?_ (by simp <;> omega) _ | refine Below.alloc ?_ (by simp <;> omega) _)) (hb1.mono (by simp <;> omega))
  go_wp2_with fail
  exact bodyPost_ret (v := .agg #[.int .i64 x.op, .int .i64 x.a, .int .i64 x.v.k, .int .i64 x.v.n, .string x.v.s, .string x.s, .int .i64 x.line]) (by simp [results, Try.results92, go_sem, *]) rfl ⟨rfl, by repeat (first | (with_reducible exact B1) | (with_reducible refine Below.setCell ?_ (by simp <;> omega) _))⟩
theorem info_Instr : (Try.prog.info? 113).map (fun i => (i.zero, i.size, i.bytes)) = some (some (.agg #[.int .i64 0, .int .i64 0, .int .i64 0, .int .i64 0, .string ByteArray.empty, .string ByteArray.empty, .int .i64 0]), 7, 72) := by kernel_rfl
set_option maxRecDepth 100000 in
set_option maxHeartbeats 800000 in
theorem toInstrS_any (xs : List InstrD) (a : Option Addr) (ca lo hi : Nat) (w : World) (hh : hi ≤ w.heap.size) (hw : wtR InstrD.wt xs ≤ 1048576) (hS : RowAt 7 InstrC w lo hi xs a) :
    Calls Try.prog 63 #[.slice a xs.length ca] w fun e w' => (∃ b cb, e = .returned (.slice b xs.length cb) ∧ RowAt 7 InstrC w' w.heap.size w'.heap.size xs b) ∧ Below w.heap.size w w' := by
  have hn := len_wtR InstrD.wt xs
  have hmk := run_makeD_n (P := Try.prog) 78 113 _ _ _ Try.underlying78 info_Instr .i64 .i64 xs.length (by omega) (by omega)
  go_enter Try.func63, Try.ntmps63
  go_wp2_with fail
  go_loopw [4] (fun x wr => ∃ (i : Nat) (cs : Array Value), x = .int .i64 i ∧ i ≤ xs.length ∧ wr.heap[w.heap.size]? = some (.cells cs 113 (0, 0)) ∧ cs.size = 7 * xs.length ∧ (∀ m (h : m < i) (h' : m < xs.length), ∃ cs', InstrC wr (w.heap.size + 1) wr.heap.size xs[m] cs' ∧ cs'.length = 7 ∧ ∀ j, j < 7 → cs[7 * m + j]? = cs'[j]?) ∧ Below w.heap.size w wr) (fun x _ => xs.length - (intOf x).toNat)
  case atStart => exact ⟨0, _, rfl, Nat.zero_le _, heap_alloc_new w _, by simp [size_madeCells]; omega, fun m h => absurd h (Nat.not_lt_zero _), bel_alloc w _⟩
  case round =>
    obtain ⟨i, cs, rfl, hil, hrow, hcs, hall, hbl⟩ := hrel
    by_cases hlt : i < xs.length
    · obtain ⟨g, o, cx, rfl, _, hg, hC, _, hc⟩ := hS i hlt
      have hC1 := InstrC_keeps.below hC hbl hh
      have hC2 := hC1
      obtain ⟨ok, rfl⟩ := hC1
      have x0 := (hbl.cell (p := ⟨g, o + 7 * i + 0, none⟩) (by show g < _; omega)).trans (hc 0 (by decide))
      have x1 := (hbl.cell (p := ⟨g, o + 7 * i + 1, none⟩) (by show g < _; omega)).trans (hc 1 (by decide))
      have x2 := (hbl.cell (p := ⟨g, o + 7 * i + 2, none⟩) (by show g < _; omega)).trans (hc 2 (by decide))
      have x3 := (hbl.cell (p := ⟨g, o + 7 * i + 3, none⟩) (by show g < _; omega)).trans (hc 3 (by decide))
      have x4 := (hbl.cell (p := ⟨g, o + 7 * i + 4, none⟩) (by show g < _; omega)).trans (hc 4 (by decide))
      have x5 := (hbl.cell (p := ⟨g, o + 7 * i + 5, none⟩) (by show g < _; omega)).trans (hc 5 (by decide))
      have x6 := (hbl.cell (p := ⟨g, o + 7 * i + 6, none⟩) (by show g < _; omega)).trans (hc 6 (by decide))
      simp only [List.getElem?_cons_zero, List.getElem?_cons_succ, Nat.add_zero] at x0 x1 x2 x3 x4 x5 x6
      have mc : i * 7 = 7 * i := Nat.mul_comm _ _
      have hwm := wtR_mem InstrD.wt xs i hlt
      have hwr : w.heap.size < wr.heap.size := (Array.getElem?_eq_some_iff.1 hrow).1
      have HROW : Hid (wr.heap[w.heap.size]? = some (.cells cs 113 (0, 0))) := hrow
      have HALL : Hid (∀ m (h : m < i) (h' : m < xs.length), ∃ cs', InstrC wr (w.heap.size + 1) wr.heap.size xs[m] cs' ∧ cs'.length = 7 ∧ ∀ j, j < 7 → cs[7 * m + j]? = cs'[j]?) := hall
      obtain ⟨x, hx⟩ : ∃ x, x = xs[i] := ⟨_, rfl⟩
      rw [← hx] at x0 x1 x2 x3 x4 x5 x6 hC2 ok hwm
      have HX : Hid (x = xs[i]) := hx
      clear hc hS hrow hall hx hC
      go_wp2_with fail
      refine (toInstr_any x wr).mono ?_
      rintro e w1 ⟨rfl, hb1⟩
      have r1 := (hb1.block w.heap.size hwr).trans HROW.out
      have f0 := frozen_of_row w1 w.heap.size (7 * i) _ _ r1
      have e0 := (cell_of_row w1 w.heap.size (7 * i) _ _ (0, 0) r1).trans (Array.getElem?_eq_getElem (xs := cs) (i := 7 * i) (by omega))
      have f1 := frozen_of_row w1 w.heap.size (7 * i + 1) _ _ r1
      have e1 := (cell_of_row w1 w.heap.size (7 * i + 1) _ _ (0, 0) r1).trans (Array.getElem?_eq_getElem (xs := cs) (i := 7 * i + 1) (by omega))
      have f2 := frozen_of_row w1 w.heap.size (7 * i + 2) _ _ r1
      have e2 := (cell_of_row w1 w.heap.size (7 * i + 2) _ _ (0, 0) r1).trans (Array.getElem?_eq_getElem (xs := cs) (i := 7 * i + 2) (by omega))
      have f3 := frozen_of_row w1 w.heap.size (7 * i + 3) _ _ r1
      have e3 := (cell_of_row w1 w.heap.size (7 * i + 3) _ _ (0, 0) r1).trans (Array.getElem?_eq_getElem (xs := cs) (i := 7 * i + 3) (by omega))
      have f4 := frozen_of_row w1 w.heap.size (7 * i + 4) _ _ r1
      have e4 := (cell_of_row w1 w.heap.size (7 * i + 4) _ _ (0, 0) r1).trans (Array.getElem?_eq_getElem (xs := cs) (i := 7 * i + 4) (by omega))
      have f5 := frozen_of_row w1 w.heap.size (7 * i + 5) _ _ r1
      have e5 := (cell_of_row w1 w.heap.size (7 * i + 5) _ _ (0, 0) r1).trans (Array.getElem?_eq_getElem (xs := cs) (i := 7 * i + 5) (by omega))
      have f6 := frozen_of_row w1 w.heap.size (7 * i + 6) _ _ r1
      have e6 := (cell_of_row w1 w.heap.size (7 * i + 6) _ _ (0, 0) r1).trans (Array.getElem?_eq_getElem (xs := cs) (i := 7 * i + 6) (by omega))
      have R1 : Hid (w1.heap[w.heap.size]? = some (.cells cs 113 (0, 0))) := r1
      clear r1
      go_wp2_with fail
      go_roundw
      case rel =>
        have hs1 := hb1.size
        have fr : ∀ p : Addr, w.heap.size + 1 ≤ p.block → (((((((w1.setCell ⟨w.heap.size, 7 * i, none⟩ (.int .i64 x.op)).setCell ⟨w.heap.size, 7 * i + 1, none⟩ (.int .i64 x.a)).setCell ⟨w.heap.size, 7 * i + 2, none⟩ (.int .i64 x.v.k)).setCell ⟨w.heap.size, 7 * i + 3, none⟩ (.int .i64 x.v.n)).setCell ⟨w.heap.size, 7 * i + 4, none⟩ (.string x.v.s)).setCell ⟨w.heap.size, 7 * i + 5, none⟩ (.string x.s)).setCell ⟨w.heap.size, 7 * i + 6, none⟩ (.int .i64 x.line)).cell? p = w1.cell? p := fun p h1 => (cell_set_other (by show p.block ≠ w.heap.size; omega)).trans ((cell_set_other (by show p.block ≠ w.heap.size; omega)).trans ((cell_set_other (by show p.block ≠ w.heap.size; omega)).trans ((cell_set_other (by show p.block ≠ w.heap.size; omega)).trans ((cell_set_other (by show p.block ≠ w.heap.size; omega)).trans ((cell_set_other (by show p.block ≠ w.heap.size; omega)).trans (cell_set_other (by show p.block ≠ w.heap.size; omega)))))))
        refine ⟨i + 1, _, by go_num, by omega, (heap_setCell_same _ _ _ _ _ _ (heap_setCell_same _ _ _ _ _ _ (heap_setCell_same _ _ _ _ _ _ (heap_setCell_same _ _ _ _ _ _ (heap_setCell_same _ _ _ _ _ _ (heap_setCell_same _ _ _ _ _ _ (heap_setCell_same _ _ _ _ _ _ R1.out))))))), by simpa using hcs, fun m h h' => ?_, ((((((((hbl.trans (hb1.mono hbl.size)).setCell (Nat.le_refl _) _).setCell (Nat.le_refl _) _).setCell (Nat.le_refl _) _).setCell (Nat.le_refl _) _).setCell (Nat.le_refl _) _).setCell (Nat.le_refl _) _).setCell (Nat.le_refl _) _)⟩
        by_cases hm' : m = i
        · subst hm'
          rw [← HX.out]
          exact ⟨[.int .i64 x.op, .int .i64 x.a, .int .i64 x.v.k, .int .i64 x.v.n, .string x.v.s, .string x.s, .int .i64 x.line], ⟨ok, rfl⟩, rfl, fun j hj => by exact sr7_new cs m _ _ _ _ _ _ _ j hj (by omega)⟩
        · obtain ⟨cs', h1, h2, h3⟩ := HALL.out m (by omega) h'
          refine ⟨cs', InstrC_keeps _ _ _ _ _ _ _ _ (Nat.le_refl _) (by simp; omega) (fun p h1 h2 => (fr p h1).trans (hb1.cell h2)) h1, h2, fun j hj => ?_⟩
          rw [sr7_old cs i _ _ _ _ _ _ _ _ (by omega)]
          exact h3 j hj
      case measure => simp [intOf]; omega
    · obtain rfl : i = xs.length := by omega
      have hlt2 : w.heap.size < wr.heap.size := (Array.getElem?_eq_some_iff.1 hrow).1
      have HALL : Hid (∀ m (h : m < xs.length) (h' : m < xs.length), ∃ cs', InstrC wr (w.heap.size + 1) wr.heap.size xs[m] cs' ∧ cs'.length = 7 ∧ ∀ j, j < 7 → cs[7 * m + j]? = cs'[j]?) := hall
      clear hS hall
      go_wp2_with fail
      go_ret
      exact ⟨⟨_, _, rfl, fun m h => by
        obtain ⟨cs', h1, h2, h3⟩ := HALL.out m h h
        exact ⟨w.heap.size, 0, cs', rfl, Nat.le_refl _, hlt2, InstrC_keeps _ _ _ _ _ _ _ _ (by omega) (Nat.le_refl _) (fun _ _ _ => rfl) h1, h2, fun j hj => by rw [cell_of_row _ _ _ _ _ _ hrow, ← h3 j hj]; congr 1; omega⟩⟩, hbl⟩
set_option maxRecDepth 100000 in
set_option maxHeartbeats 800000 in
theorem toName_any (x : NameD) (w : World) :
    Calls Try.prog 93 #[.agg #[.string x.text, .int .i64 x.slot, .int .i64 x.frm, .int .i64 x.upto]] w fun e w' => e = .returned (.agg #[.string x.text, .int .i64 x.slot, .int .i64 x.frm, .int .i64 x.upto]) ∧ Below w.heap.size w w' := by
  go_enter Try.func93, Try.ntmps93
  go_wp2
  exact bodyPost_ret (v := .agg #[.string x.text, .int .i64 x.slot, .int .i64 x.frm, .int .i64 x.upto]) (by simp [results, Try.results93, go_sem]) rfl ⟨rfl, by repeat (first | exact Below.refl _ _ | refine Below.setCell ?_ (by simp <;> omega) _ | refine Below.alloc ?_ (by simp <;> omega) _)⟩
theorem info_Name : (Try.prog.info? 131).map (fun i => (i.zero, i.size, i.bytes)) = some (some (.agg #[.string ByteArray.empty, .int .i64 0, .int .i64 0, .int .i64 0]), 4, 40) := by kernel_rfl
set_option maxRecDepth 100000 in
set_option maxHeartbeats 800000 in
theorem toNameS_any (xs : List NameD) (a : Option Addr) (ca lo hi : Nat) (w : World) (hh : hi ≤ w.heap.size) (hw : wtR NameD.wt xs ≤ 1048576) (hS : RowAt 4 NameC w lo hi xs a) :
    Calls Try.prog 64 #[.slice a xs.length ca] w fun e w' => (∃ b cb, e = .returned (.slice b xs.length cb) ∧ RowAt 4 NameC w' w.heap.size w'.heap.size xs b) ∧ Below w.heap.size w w' := by
  have hn := len_wtR NameD.wt xs
  have hmk := run_makeD_n (P := Try.prog) 79 131 _ _ _ Try.underlying79 info_Name .i64 .i64 xs.length (by omega) (by omega)
  go_enter Try.func64, Try.ntmps64
  go_wp2_with fail
  go_loopw [4] (fun x wr => ∃ (i : Nat) (cs : Array Value), x = .int .i64 i ∧ i ≤ xs.length ∧ wr.heap[w.heap.size]? = some (.cells cs 131 (0, 0)) ∧ cs.size = 4 * xs.length ∧ (∀ m (h : m < i) (h' : m < xs.length), ∃ cs', NameC wr (w.heap.size + 1) wr.heap.size xs[m] cs' ∧ cs'.length = 4 ∧ ∀ j, j < 4 → cs[4 * m + j]? = cs'[j]?) ∧ Below w.heap.size w wr) (fun x _ => xs.length - (intOf x).toNat)
  case atStart => exact ⟨0, _, rfl, Nat.zero_le _, heap_alloc_new w _, by simp [size_madeCells]; omega, fun m h => absurd h (Nat.not_lt_zero _), bel_alloc w _⟩
  case round =>
    obtain ⟨i, cs, rfl, hil, hrow, hcs, hall, hbl⟩ := hrel
    by_cases hlt : i < xs.length
    · obtain ⟨g, o, cx, rfl, _, hg, hC, _, hc⟩ := hS i hlt
      have hC1 := NameC_keeps.below hC hbl hh
      have hC2 := hC1
      obtain ⟨ok, rfl⟩ := hC1
      have x0 := (hbl.cell (p := ⟨g, o + 4 * i + 0, none⟩) (by show g < _; omega)).trans (hc 0 (by decide))
      have x1 := (hbl.cell (p := ⟨g, o + 4 * i + 1, none⟩) (by show g < _; omega)).trans (hc 1 (by decide))
      have x2 := (hbl.cell (p := ⟨g, o + 4 * i + 2, none⟩) (by show g < _; omega)).trans (hc 2 (by decide))
      have x3 := (hbl.cell (p := ⟨g, o + 4 * i + 3, none⟩) (by show g < _; omega)).trans (hc 3 (by decide))
      simp only [List.getElem?_cons_zero, List.getElem?_cons_succ, Nat.add_zero] at x0 x1 x2 x3
      have mc : i * 4 = 4 * i := Nat.mul_comm _ _
      have hwm := wtR_mem NameD.wt xs i hlt
      have hwr : w.heap.size < wr.heap.size := (Array.getElem?_eq_some_iff.1 hrow).1
      have HROW : Hid (wr.heap[w.heap.size]? = some (.cells cs 131 (0, 0))) := hrow
      have HALL : Hid (∀ m (h : m < i) (h' : m < xs.length), ∃ cs', NameC wr (w.heap.size + 1) wr.heap.size xs[m] cs' ∧ cs'.length = 4 ∧ ∀ j, j < 4 → cs[4 * m + j]? = cs'[j]?) := hall
      obtain ⟨x, hx⟩ : ∃ x, x = xs[i] := ⟨_, rfl⟩
      rw [← hx] at x0 x1 x2 x3 hC2 ok hwm
      have HX : Hid (x = xs[i]) := hx
      clear hc hS hrow hall hx hC
      go_wp2_with fail
      refine (toName_any x wr).mono ?_
      rintro e w1 ⟨rfl, hb1⟩
      have r1 := (hb1.block w.heap.size hwr).trans HROW.out
      have f0 := frozen_of_row w1 w.heap.size (4 * i) _ _ r1
      have e0 := (cell_of_row w1 w.heap.size (4 * i) _ _ (0, 0) r1).trans (Array.getElem?_eq_getElem (xs := cs) (i := 4 * i) (by omega))
      have f1 := frozen_of_row w1 w.heap.size (4 * i + 1) _ _ r1
      have e1 := (cell_of_row w1 w.heap.size (4 * i + 1) _ _ (0, 0) r1).trans (Array.getElem?_eq_getElem (xs := cs) (i := 4 * i + 1) (by omega))
      have f2 := frozen_of_row w1 w.heap.size (4 * i + 2) _ _ r1
      have e2 := (cell_of_row w1 w.heap.size (4 * i + 2) _ _ (0, 0) r1).trans (Array.getElem?_eq_getElem (xs := cs) (i := 4 * i + 2) (by omega))
      have f3 := frozen_of_row w1 w.heap.size (4 * i + 3) _ _ r1
      have e3 := (cell_of_row w1 w.heap.size (4 * i + 3) _ _ (0, 0) r1).trans (Array.getElem?_eq_getElem (xs := cs) (i := 4 * i + 3) (by omega))
      have R1 : Hid (w1.heap[w.heap.size]? = some (.cells cs 131 (0, 0))) := r1
      clear r1
      go_wp2_with fail
      go_roundw
      case rel =>
        have hs1 := hb1.size
        have fr : ∀ p : Addr, w.heap.size + 1 ≤ p.block → ((((w1.setCell ⟨w.heap.size, 4 * i, none⟩ (.string x.text)).setCell ⟨w.heap.size, 4 * i + 1, none⟩ (.int .i64 x.slot)).setCell ⟨w.heap.size, 4 * i + 2, none⟩ (.int .i64 x.frm)).setCell ⟨w.heap.size, 4 * i + 3, none⟩ (.int .i64 x.upto)).cell? p = w1.cell? p := fun p h1 => (cell_set_other (by show p.block ≠ w.heap.size; omega)).trans ((cell_set_other (by show p.block ≠ w.heap.size; omega)).trans ((cell_set_other (by show p.block ≠ w.heap.size; omega)).trans (cell_set_other (by show p.block ≠ w.heap.size; omega))))
        refine ⟨i + 1, _, by go_num, by omega, (heap_setCell_same _ _ _ _ _ _ (heap_setCell_same _ _ _ _ _ _ (heap_setCell_same _ _ _ _ _ _ (heap_setCell_same _ _ _ _ _ _ R1.out)))), by simpa using hcs, fun m h h' => ?_, (((((hbl.trans (hb1.mono hbl.size)).setCell (Nat.le_refl _) _).setCell (Nat.le_refl _) _).setCell (Nat.le_refl _) _).setCell (Nat.le_refl _) _)⟩
        by_cases hm' : m = i
        · subst hm'
          rw [← HX.out]
          exact ⟨[.string x.text, .int .i64 x.slot, .int .i64 x.frm, .int .i64 x.upto], ⟨ok, rfl⟩, rfl, fun j hj => by exact sr4_new cs m _ _ _ _ j hj (by omega)⟩
        · obtain ⟨cs', h1, h2, h3⟩ := HALL.out m (by omega) h'
          refine ⟨cs', NameC_keeps _ _ _ _ _ _ _ _ (Nat.le_refl _) (by simp; omega) (fun p h1 h2 => (fr p h1).trans (hb1.cell h2)) h1, h2, fun j hj => ?_⟩
          rw [sr4_old cs i _ _ _ _ _ (by omega)]
          exact h3 j hj
      case measure => simp [intOf]; omega
    · obtain rfl : i = xs.length := by omega
      have hlt2 : w.heap.size < wr.heap.size := (Array.getElem?_eq_some_iff.1 hrow).1
      have HALL : Hid (∀ m (h : m < xs.length) (h' : m < xs.length), ∃ cs', NameC wr (w.heap.size + 1) wr.heap.size xs[m] cs' ∧ cs'.length = 4 ∧ ∀ j, j < 4 → cs[4 * m + j]? = cs'[j]?) := hall
      clear hS hall
      go_wp2_with fail
      go_ret
      exact ⟨⟨_, _, rfl, fun m h => by
        obtain ⟨cs', h1, h2, h3⟩ := HALL.out m h h
        exact ⟨w.heap.size, 0, cs', rfl, Nat.le_refl _, hlt2, NameC_keeps _ _ _ _ _ _ _ _ (by omega) (Nat.le_refl _) (fun _ _ _ => rfl) h1, h2, fun j hj => by rw [cell_of_row _ _ _ _ _ _ hrow, ← h3 j hj]; congr 1; omega⟩⟩, hbl⟩
set_option maxRecDepth 100000 in
set_option maxHeartbeats 800000 in
theorem toProto_any (x : ProtoD) (cs : List Value) (lo hi : Nat) (w : World) (hh : hi ≤ w.heap.size) (hw : x.wt ≤ 1048576) (hC : ProtoC w lo hi x cs) :
    Calls Try.prog 32 #[.agg cs.toArray] w fun e w' => (∃ cs', e = .returned (.agg cs'.toArray) ∧ ProtoC w' w.heap.size w'.heap.size x cs') ∧ Below w.heap.size w w' := by
  obtain ⟨ok, a_ups, c_ups, a_code, c_code, a_names, c_names, rfl, l_ups, r_ups, l_code, r_code, l_names, r_names⟩ := hC
  unfold ProtoD.wt at hw
  have hn_code := len_wtR InstrD.wt x.code
  have hn_names := len_wtR NameD.wt x.names
  go_enter Try.func32, Try.ntmps32
  go_wp2_with fail
  have B0 : ∀ A B C : Obj, Below w.heap.size w (((w.alloc A).alloc B).alloc C) := fun A B C => (rows3 w A B C).2.2.2.2
  refine (toUpS_any x.ups a_ups c_ups lo hi _ (by simp; omega) (by omega) (r_ups.below UpC_keeps (B0 _ _ _) hh)).mono ?_
  rintro e w1 ⟨⟨b1, d1, rfl, hU1⟩, hb1⟩
  obtain ⟨hc1, hf1⟩ := bcell hb1
  have hz1 : w.heap.size + 1 + 1 < w1.heap.size := by have := hb1.size; simp at this; omega
  have hy1 : w.heap.size + 1 < w1.heap.size := by omega
  have hx1 : w.heap.size < w1.heap.size := by omega
  have B1 : Below w.heap.size w w1 := (B0 _ _ _).trans (hb1.mono (by simp <;> omega))
  have U1_1 : RowAt 2 UpC w1 (w.heap.size + 3) w1.heap.size x.ups b1 := hU1.wide UpC_keeps (by simp <;> omega) (Nat.le_refl _)
  go_wp2_with fail
  have S1 : Below w.heap.size w (w1.setCell ⟨w.heap.size + 1 + 1, 2, none⟩ (.slice b1 x.ups.length d1)) := B1.setCell (by show w.heap.size ≤ w.heap.size + 1 + 1; omega) _
  refine (toInstrS_any x.code a_code c_code lo hi _ (by simp; omega) (by omega) (r_code.below InstrC_keeps S1 hh)).mono ?_
  rintro e w2 ⟨⟨b2, d2, rfl, hU2⟩, hb2⟩
  obtain ⟨hc2, hf2⟩ := bcell hb2
  have hz2 : w.heap.size + 1 + 1 < w2.heap.size := by have := hb2.size; simp at this; omega
  have hy2 : w.heap.size + 1 < w2.heap.size := by omega
  have hx2 : w.heap.size < w2.heap.size := by omega
  have B2 : Below w.heap.size w w2 := S1.trans (hb2.mono S1.size)
  have U2_2 : RowAt 7 InstrC w2 (w.heap.size + 3) w2.heap.size x.code b2 := hU2.wide InstrC_keeps (by simp <;> omega) (Nat.le_refl _)
  have hs2 : ∀ m, m ≤ w1.heap.size → m ≤ w2.heap.size := fun m hm => Nat.le_trans hm (by have := hb2.size; simpa using this)
  have hle2 : w1.heap.size ≤ w2.heap.size := hs2 _ (Nat.le_refl _)
  have U1_2 : RowAt 2 UpC w2 (w.heap.size + 3) w1.heap.size x.ups b1 := (U1_1.set UpC_keeps ⟨w.heap.size + 1 + 1, 2, none⟩ _ (by show w.heap.size + 1 + 1 < _; omega)).below UpC_keeps hb2 (by simp <;> omega)
  go_wp2_with fail
  have S2 : Below w.heap.size w (w2.setCell ⟨w.heap.size + 1 + 1, 3, none⟩ (.slice b2 x.code.length d2)) := B2.setCell (by show w.heap.size ≤ w.heap.size + 1 + 1; omega) _
  refine (toNameS_any x.names a_names c_names lo hi _ (by simp; omega) (by omega) (r_names.below NameC_keeps S2 hh)).mono ?_
  rintro e w3 ⟨⟨b3, d3, rfl, hU3⟩, hb3⟩
  obtain ⟨hc3, hf3⟩ := bcell hb3
  have hz3 : w.heap.size + 1 + 1 < w3.heap.size := by have := hb3.size; simp at this; omega
  have hy3 : w.heap.size + 1 < w3.heap.size := by omega
  have hx3 : w.heap.size < w3.heap.size := by omega
  have B3 : Below w.heap.size w w3 := S2.trans (hb3.mono S2.size)
  have U3_3 : RowAt 4 NameC w3 (w.heap.size + 3) w3.heap.size x.names b3 := hU3.wide NameC_keeps (by simp <;> omega) (Nat.le_refl _)
  have hs3 : ∀ m, m ≤ w2.heap.size → m ≤ w3.heap.size := fun m hm => Nat.le_trans hm (by have := hb3.size; simpa using this)
  have hle3 : w2.heap.size ≤ w3.heap.size := hs3 _ (Nat.le_refl _)
  have U1_3 : RowAt 2 UpC w3 (w.heap.size + 3) w1.heap.size x.ups b1 := (U1_2.set UpC_keeps ⟨w.heap.size + 1 + 1, 3, none⟩ _ (by show w.heap.size + 1 + 1 < _; omega)).below UpC_keeps hb3 (by simp <;> omega)
  have U2_3 : RowAt 7 InstrC w3 (w.heap.size + 3) w2.heap.size x.code b2 := (U2_2.set InstrC_keeps ⟨w.heap.size + 1 + 1, 3, none⟩ _ (by show w.heap.size + 1 + 1 < _; omega)).below InstrC_keeps hb3 (by simp <;> omega)
  go_wp2_with fail
  exact bodyPost_ret (v := .agg #[.int .i64 x.params, .int .i64 x.slots, .slice b1 x.ups.length d1, .slice b2 x.code.length d2, .slice b3 x.names.length d3]) (by simp [results, Try.results32, go_sem, *]) rfl ⟨⟨[.int .i64 x.params, .int .i64 x.slots, .slice b1 x.ups.length d1, .slice b2 x.code.length d2, .slice b3 x.names.length d3], rfl, ok, b1, d1, b2, d2, b3, d3, rfl, ok.ups, by refine RowAt.wide (lo := w.heap.size + 3) (hi := w1.heap.size) UpC_keeps (by omega) (by simp; try exact (hs3 _ (hs2 _ (Nat.le_refl _)))) ?_; repeat (first | (with_reducible exact U1_3) | (with_reducible refine RowAt.set UpC_keeps _ _ (by simp) ?_)), ok.code, by refine RowAt.wide (lo := w.heap.size + 3) (hi := w2.heap.size) InstrC_keeps (by omega) (by simp; try exact (hs3 _ (Nat.le_refl _))) ?_; repeat (first | (with_reducible exact U2_3) | (with_reducible refine RowAt.set InstrC_keeps _ _ (by simp) ?_)), ok.names, by refine RowAt.wide (lo := w.heap.size + 3) (hi := w3.heap.size) NameC_keeps (by omega) (by simp; try exact (Nat.le_refl _)) ?_; repeat (first | (with_reducible exact U3_3) | (with_reducible refine RowAt.set NameC_keeps _ _ (by simp) ?_))⟩, by repeat (first | (with_reducible exact B3) | (with_reducible refine Below.setCell ?_ (by simp <;> omega) _))⟩
theorem info_Proto : (Try.prog.info? 81).map (fun i => (i.zero, i.size, i.bytes)) = some (some (.agg #[.int .i64 0, .int .i64 0, .slice none 0 0, .slice none 0 0, .slice none 0 0]), 5, 88) := by kernel_rfl
set_option maxRecDepth 100000 in
set_option maxHeartbeats 800000 in
theorem toProtoS_any (xs : List ProtoD) (a : Option Addr) (ca lo hi : Nat) (w : World) (hh : hi ≤ w.heap.size) (hw : wtR ProtoD.wt xs ≤ 1048576) (hS : RowAt 5 ProtoC w lo hi xs a) :
    Calls Try.prog 10 #[.slice a xs.length ca] w fun e w' => (∃ b cb, e = .returned (.slice b xs.length cb) ∧ RowAt 5 ProtoC w' w.heap.size w'.heap.size xs b) ∧ Below w.heap.size w w' := by
  have hn := len_wtR ProtoD.wt xs
  have hmk := run_makeD_n (P := Try.prog) 39 81 _ _ _ Try.underlying39 info_Proto .i64 .i64 xs.length (by omega) (by omega)
  go_enter Try.func10, Try.ntmps10
  go_wp2_with fail
  go_loopw [4] (fun x wr => ∃ (i : Nat) (cs : Array Value), x = .int .i64 i ∧ i ≤ xs.length ∧ wr.heap[w.heap.size]? = some (.cells cs 81 (0, 0)) ∧ cs.size = 5 * xs.length ∧ (∀ m (h : m < i) (h' : m < xs.length), ∃ cs', ProtoC wr (w.heap.size + 1) wr.heap.size xs[m] cs' ∧ cs'.length = 5 ∧ ∀ j, j < 5 → cs[5 * m + j]? = cs'[j]?) ∧ Below w.heap.size w wr) (fun x _ => xs.length - (intOf x).toNat)
  case atStart => exact ⟨0, _, rfl, Nat.zero_le _, heap_alloc_new w _, by simp [size_madeCells]; omega, fun m h => absurd h (Nat.not_lt_zero _), bel_alloc w _⟩
  case round =>
    obtain ⟨i, cs, rfl, hil, hrow, hcs, hall, hbl⟩ := hrel
    by_cases hlt : i < xs.length
    · obtain ⟨g, o, cx, rfl, _, hg, hC, _, hc⟩ := hS i hlt
      have hC1 := ProtoC_keeps.below hC hbl hh
      have hC2 := hC1
      obtain ⟨ok, a_ups, c_ups, a_code, c_code, a_names, c_names, rfl, l_ups, r_ups, l_code, r_code, l_names, r_names⟩ := hC1
      have x0 := (hbl.cell (p := ⟨g, o + 5 * i + 0, none⟩) (by show g < _; omega)).trans (hc 0 (by decide))
      have x1 := (hbl.cell (p := ⟨g, o + 5 * i + 1, none⟩) (by show g < _; omega)).trans (hc 1 (by decide))
      have x2 := (hbl.cell (p := ⟨g, o + 5 * i + 2, none⟩) (by show g < _; omega)).trans (hc 2 (by decide))
      have x3 := (hbl.cell (p := ⟨g, o + 5 * i + 3, none⟩) (by show g < _; omega)).trans (hc 3 (by decide))
      have x4 := (hbl.cell (p := ⟨g, o + 5 * i + 4, none⟩) (by show g < _; omega)).trans (hc 4 (by decide))
      simp only [List.getElem?_cons_zero, List.getElem?_cons_succ, Nat.add_zero] at x0 x1 x2 x3 x4
      have mc : i * 5 = 5 * i := Nat.mul_comm _ _
      have hwm := wtR_mem ProtoD.wt xs i hlt
      have hwr : w.heap.size < wr.heap.size := (Array.getElem?_eq_some_iff.1 hrow).1
      have HROW : Hid (wr.heap[w.heap.size]? = some (.cells cs 81 (0, 0))) := hrow
      have HALL : Hid (∀ m (h : m < i) (h' : m < xs.length), ∃ cs', ProtoC wr (w.heap.size + 1) wr.heap.size xs[m] cs' ∧ cs'.length = 5 ∧ ∀ j, j < 5 → cs[5 * m + j]? = cs'[j]?) := hall
      obtain ⟨x, hx⟩ : ∃ x, x = xs[i] := ⟨_, rfl⟩
      rw [← hx] at x0 x1 x2 x3 x4 hC2 ok hwm l_ups r_ups l_code r_code l_names r_names
      have HX : Hid (x = xs[i]) := hx
      clear hc hS hrow hall hx hC
      go_wp2_with fail
      refine (toProto_any x _ lo hi wr (Nat.le_trans hh hbl.size) (by omega) hC2).mono ?_
      rintro e w1 ⟨⟨cs', rfl, hR⟩, hb1⟩
      have hR2 := hR
      obtain ⟨ok2, n_a_ups, n_c_ups, n_a_code, n_c_code, n_a_names, n_c_names, rfl, n_l_ups, n_r_ups, n_l_code, n_r_code, n_l_names, n_r_names⟩ := hR
      have r1 := (hb1.block w.heap.size hwr).trans HROW.out
      have f0 := frozen_of_row w1 w.heap.size (5 * i) _ _ r1
      have e0 := (cell_of_row w1 w.heap.size (5 * i) _ _ (0, 0) r1).trans (Array.getElem?_eq_getElem (xs := cs) (i := 5 * i) (by omega))
      have f1 := frozen_of_row w1 w.heap.size (5 * i + 1) _ _ r1
      have e1 := (cell_of_row w1 w.heap.size (5 * i + 1) _ _ (0, 0) r1).trans (Array.getElem?_eq_getElem (xs := cs) (i := 5 * i + 1) (by omega))
      have f2 := frozen_of_row w1 w.heap.size (5 * i + 2) _ _ r1
      have e2 := (cell_of_row w1 w.heap.size (5 * i + 2) _ _ (0, 0) r1).trans (Array.getElem?_eq_getElem (xs := cs) (i := 5 * i + 2) (by omega))
      have f3 := frozen_of_row w1 w.heap.size (5 * i + 3) _ _ r1
      have e3 := (cell_of_row w1 w.heap.size (5 * i + 3) _ _ (0, 0) r1).trans (Array.getElem?_eq_getElem (xs := cs) (i := 5 * i + 3) (by omega))
      have f4 := frozen_of_row w1 w.heap.size (5 * i + 4) _ _ r1
      have e4 := (cell_of_row w1 w.heap.size (5 * i + 4) _ _ (0, 0) r1).trans (Array.getElem?_eq_getElem (xs := cs) (i := 5 * i + 4) (by omega))
      have R1 : Hid (w1.heap[w.heap.size]? = some (.cells cs 81 (0, 0))) := r1
      clear r1
      go_wp2_with fail
      go_roundw
      case rel =>
        have hs1 := hb1.size
        have fr : ∀ p : Addr, w.heap.size + 1 ≤ p.block → (((((w1.setCell ⟨w.heap.size, 5 * i, none⟩ (.int .i64 x.params)).setCell ⟨w.heap.size, 5 * i + 1, none⟩ (.int .i64 x.slots)).setCell ⟨w.heap.size, 5 * i + 2, none⟩ (.slice n_a_ups x.ups.length n_c_ups)).setCell ⟨w.heap.size, 5 * i + 3, none⟩ (.slice n_a_code x.code.length n_c_code)).setCell ⟨w.heap.size, 5 * i + 4, none⟩ (.slice n_a_names x.names.length n_c_names)).cell? p = w1.cell? p := fun p h1 => (cell_set_other (by show p.block ≠ w.heap.size; omega)).trans ((cell_set_other (by show p.block ≠ w.heap.size; omega)).trans ((cell_set_other (by show p.block ≠ w.heap.size; omega)).trans ((cell_set_other (by show p.block ≠ w.heap.size; omega)).trans (cell_set_other (by show p.block ≠ w.heap.size; omega)))))
        refine ⟨i + 1, _, by go_num, by omega, (heap_setCell_same _ _ _ _ _ _ (heap_setCell_same _ _ _ _ _ _ (heap_setCell_same _ _ _ _ _ _ (heap_setCell_same _ _ _ _ _ _ (heap_setCell_same _ _ _ _ _ _ R1.out))))), by simpa using hcs, fun m h h' => ?_, ((((((hbl.trans (hb1.mono hbl.size)).setCell (Nat.le_refl _) _).setCell (Nat.le_refl _) _).setCell (Nat.le_refl _) _).setCell (Nat.le_refl _) _).setCell (Nat.le_refl _) _)⟩
        by_cases hm' : m = i
        · subst hm'
          rw [← HX.out]
          exact ⟨[.int .i64 x.params, .int .i64 x.slots, .slice n_a_ups x.ups.length n_c_ups, .slice n_a_code x.code.length n_c_code, .slice n_a_names x.names.length n_c_names], ProtoC_keeps _ _ _ _ _ _ _ _ (by omega) (by simp) (fun p h1 _ => fr p (by omega)) hR2, rfl, fun j hj => sr5_new cs m _ _ _ _ _ j hj (by omega)⟩
        · obtain ⟨cs', h1, h2, h3⟩ := HALL.out m (by omega) h'
          refine ⟨cs', ProtoC_keeps _ _ _ _ _ _ _ _ (Nat.le_refl _) (by simp; omega) (fun p h1 h2 => (fr p h1).trans (hb1.cell h2)) h1, h2, fun j hj => ?_⟩
          rw [sr5_old cs i _ _ _ _ _ _ (by omega)]
          exact h3 j hj
      case measure => simp [intOf]; omega
    · obtain rfl : i = xs.length := by omega
      have hlt2 : w.heap.size < wr.heap.size := (Array.getElem?_eq_some_iff.1 hrow).1
      have HALL : Hid (∀ m (h : m < xs.length) (h' : m < xs.length), ∃ cs', ProtoC wr (w.heap.size + 1) wr.heap.size xs[m] cs' ∧ cs'.length = 5 ∧ ∀ j, j < 5 → cs[5 * m + j]? = cs'[j]?) := hall
      clear hS hall
      go_wp2_with fail
      go_ret
      exact ⟨⟨_, _, rfl, fun m h => by
        obtain ⟨cs', h1, h2, h3⟩ := HALL.out m h h
        exact ⟨w.heap.size, 0, cs', rfl, Nat.le_refl _, hlt2, ProtoC_keeps _ _ _ _ _ _ _ _ (by omega) (Nat.le_refl _) (fun _ _ _ => rfl) h1, h2, fun j hj => by rw [cell_of_row _ _ _ _ _ _ hrow, ← h3 j hj]; congr 1; omega⟩⟩, hbl⟩
end Go.Proofs.Ytnbkgpmibgdlmaa
