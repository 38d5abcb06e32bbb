/- The laws' copies of machines are data of one's own. -/
import Derived.Test.YtnbkgpmibgdlmaaOwC
namespace Go.Proofs.Ytnbkgpmibgdlmaa
open Go.RowKit

theorem infO_Int : (Try.prog.info? 3).map (fun i => (i.zero, i.size, i.bytes)) = some (some (.int .i64 0), 1, 8) := by kernel_rfl
set_option maxRecDepth 100000 in
set_option maxHeartbeats 800000 in
theorem owIntS_any (xs : List Int) (a : Option Addr) (ca lo hi : Nat) (w : World) (hh : hi ≤ w.heap.size) (hw : xs.length ≤ 1048576) (hS : RowAt 1 IntC w lo hi xs a) :
    Calls Try.prog 94 #[.slice a xs.length ca] w fun e w' => (∃ b cb, e = .returned (.slice b xs.length cb) ∧ RowD 1 IntOwn w' (In w.heap.size w'.heap.size) xs b) ∧ Below w.heap.size w w' := by
  have hmk := run_makeO_n (P := Try.prog) 72 3 _ _ _ Try.underlying72 infO_Int .i64 .i64 xs.length (by omega) (by omega)
  go_enter Try.func94, Try.ntmps94
  go_wp2_with fail
  go_loopw [4] (fun x wr => ∃ (i : Nat) (cs : Array Value) (U : Nat → Nat → Prop), x = .int .i64 i ∧ i ≤ xs.length ∧ wr.heap[w.heap.size]? = some (.cells cs 3 (0, 0)) ∧ cs.size = xs.length ∧ Parts U (In (w.heap.size + 1) wr.heap.size) ∧ (∀ m (h : m < i) (h' : m < xs.length), ∃ l, IntOwn wr (U m) xs[m] l ∧ l.length = 1 ∧ ∀ j, j < 1 → cs[1 * m + j]? = l[j]?) ∧ Below w.heap.size w wr) (fun x _ => xs.length - (intOf x).toNat)
  case atStart => exact ⟨0, _, (fun _ _ => False), rfl, Nat.zero_le _, heap_alloc_new w _, by simp [size_madeCells], Parts.none _, fun m h => absurd h (Nat.not_lt_zero _), bel_alloc w _⟩
  case round =>
    obtain ⟨i, cs, U, rfl, hil, hrow, hcs, hP, hall, hbl⟩ := hrel
    by_cases hlt : i < xs.length
    · obtain ⟨g, o, cx, rfl, _, hg, hC, _, hc⟩ := hS i hlt
      have hC1 := IntC_keeps.below hC hbl hh
      have hC2 := hC1
      obtain ⟨ok, rfl⟩ := hC1
      have x0 := (hbl.cell (p := ⟨g, o + 1 * i + 0, none⟩) (by show g < _; omega)).trans (hc 0 (by decide))
      simp only [List.getElem?_cons_zero, Nat.add_zero, Nat.one_mul] at x0
      have hwr : w.heap.size < wr.heap.size := (Array.getElem?_eq_some_iff.1 hrow).1
      have HROW : Hid (wr.heap[w.heap.size]? = some (.cells cs 3 (0, 0))) := hrow
      have HALL : Hid (∀ m (h : m < i) (h' : m < xs.length), ∃ l, IntOwn wr (U m) xs[m] l ∧ l.length = 1 ∧ ∀ j, j < 1 → cs[1 * m + j]? = l[j]?) := hall
      obtain ⟨x, hx⟩ : ∃ x, x = xs[i] := ⟨_, rfl⟩
      rw [← hx] at x0 hC2 ok
      have HX : Hid (x = xs[i]) := hx
      clear hc hS hrow hall hx hC
      have r1 := HROW.out
      have f0 := frozen_of_row wr w.heap.size (i) _ _ r1
      have e0 := (cell_of_row wr w.heap.size (i) _ _ (0, 0) r1).trans (Array.getElem?_eq_getElem (xs := cs) (i := i) (by omega))
      have R1 : Hid (wr.heap[w.heap.size]? = some (.cells cs 3 (0, 0))) := r1
      clear r1
      go_wp2_with fail
      go_roundw
      case rel =>
        refine ⟨i + 1, _, U, by go_num, by omega, (heap_setCell_same _ _ _ _ _ _ R1.out), by simpa using hcs, hP.wide (fun b hb => ⟨hb.1, by have := hb.2; simp; omega⟩), fun m h h' => ?_, (hbl.setCell (Nat.le_refl _) _)⟩
        by_cases hm' : m = i
        · subst hm'
          rw [← HX.out]
          exact ⟨[.int .i64 x], ⟨ok, rfl⟩, rfl, fun j hj => by rw [show 1 * m + j = m + j by omega]; exact sr1_new cs m _ j hj (by omega)⟩
        · obtain ⟨l, h1, h2, h3⟩ := HALL.out m (by omega) h'
          refine ⟨l, IntOwn_flat h1, h2, fun j hj => ?_⟩
          rw [sr1_old cs i _ _ (by omega)]
          exact h3 j hj
      case measure => simp [intOf]; omega
    · obtain rfl : i = xs.length := by omega
      have hlt2 : w.heap.size < wr.heap.size := (Array.getElem?_eq_some_iff.1 hrow).1
      have HALL : Hid (∀ m (h : m < xs.length) (h' : m < xs.length), ∃ l, IntOwn wr (U m) xs[m] l ∧ l.length = 1 ∧ ∀ j, j < 1 → cs[1 * m + j]? = l[j]?) := hall
      clear hS hall
      go_wp2_with fail
      go_ret
      exact ⟨⟨_, _, rfl, .inr ⟨w.heap.size, cs, _, rfl, ⟨Nat.le_refl _, hlt2⟩, hrow, by omega, U, ⟨fun i b hb => ⟨⟨by have := (hP.within i b hb).1; omega, (hP.within i b hb).2⟩, by have := (hP.within i b hb).1; omega⟩, hP.apart⟩, fun m h => HALL.out m h h⟩⟩, hbl⟩
theorem infO_String : (Try.prog.info? 9).map (fun i => (i.zero, i.size, i.bytes)) = some (some (.string ByteArray.empty), 1, 16) := by kernel_rfl
set_option maxRecDepth 100000 in
set_option maxHeartbeats 800000 in
theorem owStringS_any (xs : List ByteArray) (a : Option Addr) (ca lo hi : Nat) (w : World) (hh : hi ≤ w.heap.size) (hw : wtR ByteArray.size xs ≤ 1048576) (hS : RowAt 1 StrC w lo hi xs a) :
    Calls Try.prog 35 #[.slice a xs.length ca] w fun e w' => (∃ b cb, e = .returned (.slice b xs.length cb) ∧ RowD 1 StrOwn w' (In w.heap.size w'.heap.size) xs b) ∧ Below w.heap.size w w' := by
  have hn := len_wtR ByteArray.size xs
  have hmk := run_makeO_n (P := Try.prog) 29 9 _ _ _ Try.underlying29 infO_String .i64 .i64 xs.length (by omega) (by omega)
  go_enter Try.func35, Try.ntmps35
  go_wp2_with fail
  go_loopw [4] (fun x wr => ∃ (i : Nat) (cs : Array Value) (U : Nat → Nat → Prop), x = .int .i64 i ∧ i ≤ xs.length ∧ wr.heap[w.heap.size]? = some (.cells cs 9 (0, 0)) ∧ cs.size = xs.length ∧ Parts U (In (w.heap.size + 1) wr.heap.size) ∧ (∀ m (h : m < i) (h' : m < xs.length), ∃ l, StrOwn wr (U m) xs[m] l ∧ l.length = 1 ∧ ∀ j, j < 1 → cs[1 * m + j]? = l[j]?) ∧ Below w.heap.size w wr) (fun x _ => xs.length - (intOf x).toNat)
  case atStart => exact ⟨0, _, (fun _ _ => False), rfl, Nat.zero_le _, heap_alloc_new w _, by simp [size_madeCells], Parts.none _, fun m h => absurd h (Nat.not_lt_zero _), bel_alloc w _⟩
  case round =>
    obtain ⟨i, cs, U, rfl, hil, hrow, hcs, hP, hall, hbl⟩ := hrel
    by_cases hlt : i < xs.length
    · obtain ⟨g, o, cx, rfl, _, hg, hC, _, hc⟩ := hS i hlt
      have hC1 := StrC_keeps.below hC hbl hh
      have hC2 := hC1
      obtain ⟨ok, rfl⟩ := hC1
      have x0 := (hbl.cell (p := ⟨g, o + 1 * i + 0, none⟩) (by show g < _; omega)).trans (hc 0 (by decide))
      simp only [List.getElem?_cons_zero, Nat.add_zero, Nat.one_mul] at x0
      have hwm := wtR_mem ByteArray.size xs i hlt
      have hwr : w.heap.size < wr.heap.size := (Array.getElem?_eq_some_iff.1 hrow).1
      have HROW : Hid (wr.heap[w.heap.size]? = some (.cells cs 9 (0, 0))) := hrow
      have HALL : Hid (∀ m (h : m < i) (h' : m < xs.length), ∃ l, StrOwn wr (U m) xs[m] l ∧ l.length = 1 ∧ ∀ j, j < 1 → cs[1 * m + j]? = l[j]?) := hall
      obtain ⟨x, hx⟩ : ∃ x, x = xs[i] := ⟨_, rfl⟩
      rw [← hx] at x0 hC2 ok hwm
      have HX : Hid (x = xs[i]) := hx
      clear hc hS hrow hall hx hC
      have r1 := HROW.out
      have f0 := frozen_of_row wr w.heap.size (i) _ _ r1
      have e0 := (cell_of_row wr w.heap.size (i) _ _ (0, 0) r1).trans (Array.getElem?_eq_getElem (xs := cs) (i := i) (by omega))
      have R1 : Hid (wr.heap[w.heap.size]? = some (.cells cs 9 (0, 0))) := r1
      clear r1
      go_wp2_with fail
      go_roundw
      case rel =>
        refine ⟨i + 1, _, U, by go_num, by omega, (heap_setCell_same _ _ _ _ _ _ R1.out), by simpa using hcs, hP.wide (fun b hb => ⟨hb.1, by have := hb.2; simp; omega⟩), fun m h h' => ?_, (hbl.setCell (Nat.le_refl _) _)⟩
        by_cases hm' : m = i
        · subst hm'
          rw [← HX.out]
          exact ⟨[.string x], ⟨ok, rfl⟩, rfl, fun j hj => by rw [show 1 * m + j = m + j by omega]; exact sr1_new cs m _ j hj (by omega)⟩
        · obtain ⟨l, h1, h2, h3⟩ := HALL.out m (by omega) h'
          refine ⟨l, StrOwn_flat h1, h2, fun j hj => ?_⟩
          rw [sr1_old cs i _ _ (by omega)]
          exact h3 j hj
      case measure => simp [intOf]; omega
    · obtain rfl : i = xs.length := by omega
      have hlt2 : w.heap.size < wr.heap.size := (Array.getElem?_eq_some_iff.1 hrow).1
      have HALL : Hid (∀ m (h : m < xs.length) (h' : m < xs.length), ∃ l, StrOwn wr (U m) xs[m] l ∧ l.length = 1 ∧ ∀ j, j < 1 → cs[1 * m + j]? = l[j]?) := hall
      clear hS hall
      go_wp2_with fail
      go_ret
      exact ⟨⟨_, _, rfl, .inr ⟨w.heap.size, cs, _, rfl, ⟨Nat.le_refl _, hlt2⟩, hrow, by omega, U, ⟨fun i b hb => ⟨⟨by have := (hP.within i b hb).1; omega, (hP.within i b hb).2⟩, by have := (hP.within i b hb).1; omega⟩, hP.apart⟩, fun m h => HALL.out m h h⟩⟩, hbl⟩
theorem infO_Value : (Try.prog.info? 36).map (fun i => (i.zero, i.size, i.bytes)) = some (some (.agg #[.int .i64 0, .int .i64 0, .string ByteArray.empty]), 3, 32) := by kernel_rfl
set_option maxRecDepth 100000 in
set_option maxHeartbeats 800000 in
theorem owValueS_any (xs : List Vl) (a : Option Addr) (ca lo hi : Nat) (w : World) (hh : hi ≤ w.heap.size) (hw : wtR Vl.wt xs ≤ 1048576) (hS : RowAt 3 ValC w lo hi xs a) :
    Calls Try.prog 48 #[.slice a xs.length ca] w fun e w' => (∃ b cb, e = .returned (.slice b xs.length cb) ∧ RowD 3 ValOwn w' (In w.heap.size w'.heap.size) xs b) ∧ Below w.heap.size w w' := by
  have hn := len_wtR Vl.wt xs
  have hmk := run_makeO_n (P := Try.prog) 42 36 _ _ _ Try.underlying42 infO_Value .i64 .i64 xs.length (by omega) (by omega)
  go_enter Try.func48, Try.ntmps48
  go_wp2_with fail
  go_loopw [4] (fun x wr => ∃ (i : Nat) (cs : Array Value) (U : Nat → Nat → Prop), x = .int .i64 i ∧ i ≤ xs.length ∧ wr.heap[w.heap.size]? = some (.cells cs 36 (0, 0)) ∧ cs.size = 3 * xs.length ∧ Parts U (In (w.heap.size + 1) wr.heap.size) ∧ (∀ m (h : m < i) (h' : m < xs.length), ∃ l, ValOwn wr (U m) xs[m] l ∧ l.length = 3 ∧ ∀ j, j < 3 → cs[3 * m + j]? = l[j]?) ∧ Below w.heap.size w wr) (fun x _ => xs.length - (intOf x).toNat)
  case atStart => exact ⟨0, _, (fun _ _ => False), rfl, Nat.zero_le _, heap_alloc_new w _, by simp [size_madeCells]; omega, Parts.none _, fun m h => absurd h (Nat.not_lt_zero _), bel_alloc w _⟩
  case round =>
    obtain ⟨i, cs, U, rfl, hil, hrow, hcs, hP, hall, hbl⟩ := hrel
    by_cases hlt : i < xs.length
    · obtain ⟨g, o, cx, rfl, _, hg, hC, _, hc⟩ := hS i hlt
      have hC1 := ValC_keeps.below hC hbl hh
      have hC2 := hC1
      obtain ⟨ok, rfl⟩ := hC1
      have x0 := (hbl.cell (p := ⟨g, o + 3 * i + 0, none⟩) (by show g < _; omega)).trans (hc 0 (by decide))
      have x1 := (hbl.cell (p := ⟨g, o + 3 * i + 1, none⟩) (by show g < _; omega)).trans (hc 1 (by decide))
      have x2 := (hbl.cell (p := ⟨g, o + 3 * i + 2, none⟩) (by show g < _; omega)).trans (hc 2 (by decide))
      simp only [List.getElem?_cons_zero, List.getElem?_cons_succ, Nat.add_zero] at x0 x1 x2
      have mc : i * 3 = 3 * i := Nat.mul_comm _ _
      have hwm := wtR_mem Vl.wt xs i hlt
      have hwr : w.heap.size < wr.heap.size := (Array.getElem?_eq_some_iff.1 hrow).1
      have HROW : Hid (wr.heap[w.heap.size]? = some (.cells cs 36 (0, 0))) := hrow
      have HALL : Hid (∀ m (h : m < i) (h' : m < xs.length), ∃ l, ValOwn wr (U m) xs[m] l ∧ l.length = 3 ∧ ∀ j, j < 3 → cs[3 * m + j]? = l[j]?) := hall
      obtain ⟨x, hx⟩ : ∃ x, x = xs[i] := ⟨_, rfl⟩
      rw [← hx] at x0 x1 x2 hC2 ok hwm
      have HX : Hid (x = xs[i]) := hx
      clear hc hS hrow hall hx hC
      go_wp2_with fail
      refine (toV_any x.k x.n x.s wr).mono ?_
      rintro e w1 ⟨rfl, hb1⟩
      have r1 := (hb1.block w.heap.size hwr).trans HROW.out
      have f0 := frozen_of_row w1 w.heap.size (3 * i) _ _ r1
      have e0 := (cell_of_row w1 w.heap.size (3 * i) _ _ (0, 0) r1).trans (Array.getElem?_eq_getElem (xs := cs) (i := 3 * i) (by omega))
      have f1 := frozen_of_row w1 w.heap.size (3 * i + 1) _ _ r1
      have e1 := (cell_of_row w1 w.heap.size (3 * i + 1) _ _ (0, 0) r1).trans (Array.getElem?_eq_getElem (xs := cs) (i := 3 * i + 1) (by omega))
      have f2 := frozen_of_row w1 w.heap.size (3 * i + 2) _ _ r1
      have e2 := (cell_of_row w1 w.heap.size (3 * i + 2) _ _ (0, 0) r1).trans (Array.getElem?_eq_getElem (xs := cs) (i := 3 * i + 2) (by omega))
      have R1 : Hid (w1.heap[w.heap.size]? = some (.cells cs 36 (0, 0))) := r1
      clear r1
      go_wp2_with fail
      go_roundw
      case rel =>
        have hs1 := hb1.size
        refine ⟨i + 1, _, U, by go_num, by omega, (heap_setCell_same _ _ _ _ _ _ (heap_setCell_same _ _ _ _ _ _ (heap_setCell_same _ _ _ _ _ _ R1.out))), by simpa using hcs, hP.wide (fun b hb => ⟨hb.1, by have := hb.2; simp; omega⟩), fun m h h' => ?_, ((((hbl.trans (hb1.mono hbl.size)).setCell (Nat.le_refl _) _).setCell (Nat.le_refl _) _).setCell (Nat.le_refl _) _)⟩
        by_cases hm' : m = i
        · subst hm'
          rw [← HX.out]
          exact ⟨[.int .i64 x.k, .int .i64 x.n, .string x.s], ⟨ok, rfl⟩, rfl, fun j hj => by exact sr3_new cs m _ _ _ j hj (by omega)⟩
        · obtain ⟨l, h1, h2, h3⟩ := HALL.out m (by omega) h'
          refine ⟨l, ValOwn_flat h1, h2, fun j hj => ?_⟩
          rw [sr3_old cs i _ _ _ _ (by omega)]
          exact h3 j hj
      case measure => simp [intOf]; omega
    · obtain rfl : i = xs.length := by omega
      have hlt2 : w.heap.size < wr.heap.size := (Array.getElem?_eq_some_iff.1 hrow).1
      have HALL : Hid (∀ m (h : m < xs.length) (h' : m < xs.length), ∃ l, ValOwn wr (U m) xs[m] l ∧ l.length = 3 ∧ ∀ j, j < 3 → cs[3 * m + j]? = l[j]?) := hall
      clear hS hall
      go_wp2_with fail
      go_ret
      exact ⟨⟨_, _, rfl, .inr ⟨w.heap.size, cs, _, rfl, ⟨Nat.le_refl _, hlt2⟩, hrow, by omega, U, ⟨fun i b hb => ⟨⟨by have := (hP.within i b hb).1; omega, (hP.within i b hb).2⟩, by have := (hP.within i b hb).1; omega⟩, hP.apart⟩, fun m h => HALL.out m h h⟩⟩, hbl⟩
set_option maxRecDepth 100000 in
set_option maxHeartbeats 800000 in
theorem owClosure_any (x : ClosureD) (cs : List Value) (lo hi : Nat) (w : World) (hh : hi ≤ w.heap.size) (hw : x.wt ≤ 1048576) (hC : ClosureC w lo hi x cs) :
    Calls Try.prog 65 #[.agg cs.toArray] w fun e w' => (∃ cs', e = .returned (.agg cs'.toArray) ∧ ClosureOwn w' (In w.heap.size w'.heap.size) x cs') ∧ Below w.heap.size w w' := by
  obtain ⟨ok, a_ups, c_ups, rfl, l_ups, r_ups⟩ := hC
  unfold ClosureD.wt at hw
  go_enter Try.func65, Try.ntmps65
  go_wp2_with fail
  have B0 : ∀ A B C : Obj, Below w.heap.size w (((w.alloc A).alloc B).alloc C) := fun A B C => (rows3 w A B C).2.2.2.2
  refine (owIntS_any x.ups a_ups c_ups lo hi _ (by simp; omega) (by omega) (r_ups.below IntC_keeps (B0 _ _ _) hh)).mono ?_
  rintro e w1 ⟨⟨b1, d1, rfl, hU1⟩, hb1⟩
  obtain ⟨hc1, hf1⟩ := bcell hb1
  have hz1 : w.heap.size + 1 + 1 < w1.heap.size := by have := hb1.size; simp at this; omega
  have hy1 : w.heap.size + 1 < w1.heap.size := by omega
  have hx1 : w.heap.size < w1.heap.size := by omega
  have B1 : Below w.heap.size w w1 := (B0 _ _ _).trans (hb1.mono (by simp <;> omega))
  have le1 : w.heap.size + 3 ≤ w1.heap.size := by omega
  have U1_1 : RowD 1 IntOwn w1 (In (w.heap.size + 3) w1.heap.size) x.ups b1 := hU1.later IntOwn_keeps (fun b hb => ⟨by have := hb.1; simp at this; omega, hb.2⟩) (fun _ _ => rfl)
  go_wp2_with fail
  have hp : ∀ hi, w1.heap.size ≤ hi → Parts (V5 (In (w.heap.size + 3) w1.heap.size) (In w1.heap.size w1.heap.size) (In w1.heap.size w1.heap.size) (In w1.heap.size w1.heap.size) (In w1.heap.size w1.heap.size)) (In w.heap.size hi) := fun hi h => parts5 (by omega) (by omega) (by omega) (by omega) (by omega) (by omega) (by omega) (by omega) (by omega) (by omega) (by omega)
  exact bodyPost_ret (v := .agg #[.int .i64 x.proto, .slice b1 x.ups.length d1]) (by simp [results, Try.results65, go_sem, *]) rfl ⟨⟨[.int .i64 x.proto, .slice b1 x.ups.length d1], rfl, ok, _, hp _ (by simp), b1, d1, rfl, ok.ups, by show RowD 1 IntOwn _ (In (w.heap.size + 3) w1.heap.size) x.ups b1; repeat (first | (with_reducible exact U1_1) | (with_reducible refine RowD.set IntOwn_keeps _ _ (fun b hb => In.ne hb (by simp <;> omega)) ?_))⟩, by repeat (first | (with_reducible exact B1) | (with_reducible refine Below.setCell ?_ (by simp <;> omega) _))⟩
theorem infO_Closure : (Try.prog.info? 135).map (fun i => (i.zero, i.size, i.bytes)) = some (some (.agg #[.int .i64 0, .slice none 0 0]), 2, 32) := by kernel_rfl
set_option maxRecDepth 100000 in
set_option maxHeartbeats 800000 in
theorem owClosureS_any (xs : List ClosureD) (a : Option Addr) (ca lo hi : Nat) (w : World) (hh : hi ≤ w.heap.size) (hw : wtR ClosureD.wt xs ≤ 1048576) (hS : RowAt 2 ClosureC w lo hi xs a) :
    Calls Try.prog 33 #[.slice a xs.length ca] w fun e w' => (∃ b cb, e = .returned (.slice b xs.length cb) ∧ RowD 2 ClosureOwn w' (In w.heap.size w'.heap.size) xs b) ∧ Below w.heap.size w w' := by
  have hn := len_wtR ClosureD.wt xs
  have hmk := run_makeO_n (P := Try.prog) 45 135 _ _ _ Try.underlying45 infO_Closure .i64 .i64 xs.length (by omega) (by omega)
  go_enter Try.func33, Try.ntmps33
  go_wp2_with fail
  go_loopw [4] (fun x wr => ∃ (i : Nat) (cs : Array Value) (U : Nat → Nat → Prop), x = .int .i64 i ∧ i ≤ xs.length ∧ wr.heap[w.heap.size]? = some (.cells cs 135 (0, 0)) ∧ cs.size = 2 * xs.length ∧ Parts U (In (w.heap.size + 1) wr.heap.size) ∧ (∀ m (h : m < i) (h' : m < xs.length), ∃ l, ClosureOwn wr (U m) xs[m] l ∧ l.length = 2 ∧ ∀ j, j < 2 → cs[2 * m + j]? = l[j]?) ∧ Below w.heap.size w wr) (fun x _ => xs.length - (intOf x).toNat)
  case atStart => exact ⟨0, _, (fun _ _ => False), rfl, Nat.zero_le _, heap_alloc_new w _, by simp [size_madeCells]; omega, Parts.none _, fun m h => absurd h (Nat.not_lt_zero _), bel_alloc w _⟩
  case round =>
    obtain ⟨i, cs, U, rfl, hil, hrow, hcs, hP, hall, hbl⟩ := hrel
    by_cases hlt : i < xs.length
    · obtain ⟨g, o, cx, rfl, _, hg, hC, _, hc⟩ := hS i hlt
      have hC1 := ClosureC_keeps.below hC hbl hh
      have hC2 := hC1
      obtain ⟨ok, a_ups, c_ups, rfl, l_ups, r_ups⟩ := hC1
      have x0 := (hbl.cell (p := ⟨g, o + 2 * i + 0, none⟩) (by show g < _; omega)).trans (hc 0 (by decide))
      have x1 := (hbl.cell (p := ⟨g, o + 2 * i + 1, none⟩) (by show g < _; omega)).trans (hc 1 (by decide))
      simp only [List.getElem?_cons_zero, List.getElem?_cons_succ, Nat.add_zero] at x0 x1
      have mc : i * 2 = 2 * i := Nat.mul_comm _ _
      have hwm := wtR_mem ClosureD.wt xs i hlt
      have hwr : w.heap.size < wr.heap.size := (Array.getElem?_eq_some_iff.1 hrow).1
      have HROW : Hid (wr.heap[w.heap.size]? = some (.cells cs 135 (0, 0))) := hrow
      have HALL : Hid (∀ m (h : m < i) (h' : m < xs.length), ∃ l, ClosureOwn wr (U m) xs[m] l ∧ l.length = 2 ∧ ∀ j, j < 2 → cs[2 * m + j]? = l[j]?) := hall
      obtain ⟨x, hx⟩ : ∃ x, x = xs[i] := ⟨_, rfl⟩
      rw [← hx] at x0 x1 hC2 ok hwm l_ups r_ups
      have HX : Hid (x = xs[i]) := hx
      clear hc hS hrow hall hx hC
      go_wp2_with fail
      refine (owClosure_any x _ lo hi wr (Nat.le_trans hh hbl.size) (by omega) hC2).mono ?_
      rintro e w1 ⟨⟨cs', rfl, hR⟩, hb1⟩
      have hR2 := hR
      obtain ⟨ok2, V2, pv2, n_a_ups, n_c_ups, rfl, n_l_ups, n_r_ups⟩ := hR
      have r1 := (hb1.block w.heap.size hwr).trans HROW.out
      have f0 := frozen_of_row w1 w.heap.size (2 * i) _ _ r1
      have e0 := (cell_of_row w1 w.heap.size (2 * i) _ _ (0, 0) r1).trans (Array.getElem?_eq_getElem (xs := cs) (i := 2 * i) (by omega))
      have f1 := frozen_of_row w1 w.heap.size (2 * i + 1) _ _ r1
      have e1 := (cell_of_row w1 w.heap.size (2 * i + 1) _ _ (0, 0) r1).trans (Array.getElem?_eq_getElem (xs := cs) (i := 2 * i + 1) (by omega))
      have R1 : Hid (w1.heap[w.heap.size]? = some (.cells cs 135 (0, 0))) := r1
      clear r1
      go_wp2_with fail
      go_roundw
      case rel =>
        have hs1 := hb1.size
        have fr : ∀ b, w.heap.size + 1 ≤ b → ((w1.setCell ⟨w.heap.size, 2 * i, none⟩ (.int .i64 x.proto)).setCell ⟨w.heap.size, 2 * i + 1, none⟩ (.slice n_a_ups x.ups.length n_c_ups)).heap[b]? = w1.heap[b]? := fun b h1 => (heap_setCell_other _ _ _ _ (by show b ≠ w.heap.size; omega)).trans (heap_setCell_other _ _ _ _ (by show b ≠ w.heap.size; omega))
        refine ⟨i + 1, _, (fun m b => (m < i ∧ U m b) ∨ (m = i ∧ In wr.heap.size w1.heap.size b)), by go_num, by omega, (heap_setCell_same _ _ _ _ _ _ (heap_setCell_same _ _ _ _ _ _ R1.out)), by simpa using hcs, (hP.add (by omega) hs1).wide (fun b hb => ⟨hb.1, by have := hb.2; simp; omega⟩), fun m h h' => ?_, (((hbl.trans (hb1.mono hbl.size)).setCell (Nat.le_refl _) _).setCell (Nat.le_refl _) _)⟩
        by_cases hm' : m = i
        · subst hm'
          rw [← HX.out]
          exact ⟨[.int .i64 x.proto, .slice n_a_ups x.ups.length n_c_ups], ClosureOwn_keeps _ _ _ _ _ _ (fun b hb => .inr ⟨rfl, hb⟩) (fun b hb => fr b (by have := hb.1; omega)) hR2, rfl, fun j hj => by exact sr2_new cs m _ _ j hj (by omega)⟩
        · obtain ⟨l, h1, h2, h3⟩ := HALL.out m (by omega) h'
          refine ⟨l, ClosureOwn_keeps _ _ _ _ _ _ (fun b hb => .inl ⟨by omega, hb⟩) (fun b hb => (fr b (by have := (hP.within m b hb).1; omega)).trans (hb1.block b (hP.within m b hb).2)) h1, h2, fun j hj => ?_⟩
          rw [sr2_old cs i _ _ _ (by omega)]
          exact h3 j hj
      case measure => simp [intOf]; omega
    · obtain rfl : i = xs.length := by omega
      have hlt2 : w.heap.size < wr.heap.size := (Array.getElem?_eq_some_iff.1 hrow).1
      have HALL : Hid (∀ m (h : m < xs.length) (h' : m < xs.length), ∃ l, ClosureOwn wr (U m) xs[m] l ∧ l.length = 2 ∧ ∀ j, j < 2 → cs[2 * m + j]? = l[j]?) := hall
      clear hS hall
      go_wp2_with fail
      go_ret
      exact ⟨⟨_, _, rfl, .inr ⟨w.heap.size, cs, _, rfl, ⟨Nat.le_refl _, hlt2⟩, hrow, by omega, U, ⟨fun i b hb => ⟨⟨by have := (hP.within i b hb).1; omega, (hP.within i b hb).2⟩, by have := (hP.within i b hb).1; omega⟩, hP.apart⟩, fun m h => HALL.out m h h⟩⟩, hbl⟩
set_option maxRecDepth 100000 in
set_option maxHeartbeats 800000 in
theorem owFrame_any (x : FrameD) (cs : List Value) (lo hi : Nat) (w : World) (hh : hi ≤ w.heap.size) (hw : x.wt ≤ 1048576) (hC : FrameC w lo hi x cs) :
    Calls Try.prog 66 #[.agg cs.toArray] w fun e w' => (∃ cs', e = .returned (.agg cs'.toArray) ∧ FrameOwn w' (In w.heap.size w'.heap.size) x cs') ∧ Below w.heap.size w w' := by
  obtain ⟨ok, a_slots, c_slots, a_ups, c_ups, a_stack, c_stack, rfl, l_slots, r_slots, l_ups, r_ups, l_stack, r_stack⟩ := hC
  unfold FrameD.wt at hw
  have hn_stack := len_wtR Vl.wt x.stack
  go_enter Try.func66, Try.ntmps66
  go_wp2_with fail
  have B0 : ∀ A B C : Obj, Below w.heap.size w (((w.alloc A).alloc B).alloc C) := fun A B C => (rows3 w A B C).2.2.2.2
  refine (owIntS_any x.slots a_slots c_slots lo hi _ (by simp; omega) (by omega) (r_slots.below IntC_keeps (B0 _ _ _) hh)).mono ?_
  rintro e w1 ⟨⟨b1, d1, rfl, hU1⟩, hb1⟩
  obtain ⟨hc1, hf1⟩ := bcell hb1
  have hz1 : w.heap.size + 1 + 1 < w1.heap.size := by have := hb1.size; simp at this; omega
  have hy1 : w.heap.size + 1 < w1.heap.size := by omega
  have hx1 : w.heap.size < w1.heap.size := by omega
  have B1 : Below w.heap.size w w1 := (B0 _ _ _).trans (hb1.mono (by simp <;> omega))
  have le1 : w.heap.size + 3 ≤ w1.heap.size := by omega
  have U1_1 : RowD 1 IntOwn w1 (In (w.heap.size + 3) w1.heap.size) x.slots b1 := hU1.later IntOwn_keeps (fun b hb => ⟨by have := hb.1; simp at this; omega, hb.2⟩) (fun _ _ => rfl)
  go_wp2_with fail
  have S1 : Below w.heap.size w (w1.setCell ⟨w.heap.size + 1 + 1, 2, none⟩ (.slice b1 x.slots.length d1)) := (B1.setCell (by show w.heap.size ≤ w.heap.size + 1 + 1; omega) _)
  refine (owIntS_any x.ups a_ups c_ups lo hi _ (by simp; omega) (by omega) (r_ups.below IntC_keeps S1 hh)).mono ?_
  rintro e w2 ⟨⟨b2, d2, rfl, hU2⟩, hb2⟩
  obtain ⟨hc2, hf2⟩ := bcell hb2
  have hz2 : w.heap.size + 1 + 1 < w2.heap.size := by have := hb2.size; simp at this; omega
  have hy2 : w.heap.size + 1 < w2.heap.size := by omega
  have hx2 : w.heap.size < w2.heap.size := by omega
  have B2 : Below w.heap.size w w2 := S1.trans (hb2.mono S1.size)
  have le2 : w1.heap.size ≤ w2.heap.size := by have := hb2.size; simpa using this
  have U1_2 : RowD 1 IntOwn w2 (In (w.heap.size + 3) w1.heap.size) x.slots b1 := (U1_1.set IntOwn_keeps _ _ (fun b hb => by have := hb.1; show b ≠ w.heap.size + 1 + 1; omega)).below IntOwn_keeps (fun b hb => by have := hb.2; simp; omega) hb2
  have U2_2 : RowD 1 IntOwn w2 (In (w1.heap.size) w2.heap.size) x.ups b2 := hU2.later IntOwn_keeps (fun b hb => ⟨by have := hb.1; simp at this; omega, hb.2⟩) (fun _ _ => rfl)
  go_wp2_with fail
  have S2 : Below w.heap.size w (w2.setCell ⟨w.heap.size + 1 + 1, 3, none⟩ (.slice b2 x.ups.length d2)) := (B2.setCell (by show w.heap.size ≤ w.heap.size + 1 + 1; omega) _)
  refine (owValueS_any x.stack a_stack c_stack lo hi _ (by simp; omega) (by omega) (r_stack.below ValC_keeps S2 hh)).mono ?_
  rintro e w3 ⟨⟨b3, d3, rfl, hU3⟩, hb3⟩
  obtain ⟨hc3, hf3⟩ := bcell hb3
  have hz3 : w.heap.size + 1 + 1 < w3.heap.size := by have := hb3.size; simp at this; omega
  have hy3 : w.heap.size + 1 < w3.heap.size := by omega
  have hx3 : w.heap.size < w3.heap.size := by omega
  have B3 : Below w.heap.size w w3 := S2.trans (hb3.mono S2.size)
  have le3 : w2.heap.size ≤ w3.heap.size := by have := hb3.size; simpa using this
  have U1_3 : RowD 1 IntOwn w3 (In (w.heap.size + 3) w1.heap.size) x.slots b1 := (U1_2.set IntOwn_keeps _ _ (fun b hb => by have := hb.1; show b ≠ w.heap.size + 1 + 1; omega)).below IntOwn_keeps (fun b hb => by have := hb.2; simp; omega) hb3
  have U2_3 : RowD 1 IntOwn w3 (In (w1.heap.size) w2.heap.size) x.ups b2 := (U2_2.set IntOwn_keeps _ _ (fun b hb => by have := hb.1; show b ≠ w.heap.size + 1 + 1; omega)).below IntOwn_keeps (fun b hb => by have := hb.2; simp; omega) hb3
  have U3_3 : RowD 3 ValOwn w3 (In (w2.heap.size) w3.heap.size) x.stack b3 := hU3.later ValOwn_keeps (fun b hb => ⟨by have := hb.1; simp at this; omega, hb.2⟩) (fun _ _ => rfl)
  go_wp2_with fail
  have hp : ∀ hi, w3.heap.size ≤ hi → Parts (V5 (In (w.heap.size + 3) w1.heap.size) (In (w1.heap.size) w2.heap.size) (In (w2.heap.size) w3.heap.size) (In w3.heap.size w3.heap.size) (In w3.heap.size w3.heap.size)) (In w.heap.size hi) := fun hi h => parts5 (by omega) (by omega) (by omega) (by omega) (by omega) (by omega) (by omega) (by omega) (by omega) (by omega) (by omega)
  exact bodyPost_ret (v := .agg #[.int .i64 x.proto, .int .i64 x.pc, .slice b1 x.slots.length d1, .slice b2 x.ups.length d2, .slice b3 x.stack.length d3, .bool x.guard]) (by simp [results, Try.results66, go_sem, *]) rfl ⟨⟨[.int .i64 x.proto, .int .i64 x.pc, .slice b1 x.slots.length d1, .slice b2 x.ups.length d2, .slice b3 x.stack.length d3, .bool x.guard], rfl, ok, _, hp _ (by simp), b1, d1, b2, d2, b3, d3, rfl, ok.slots, by show RowD 1 IntOwn _ (In (w.heap.size + 3) w1.heap.size) x.slots b1; repeat (first | (with_reducible exact U1_3) | (with_reducible refine RowD.set IntOwn_keeps _ _ (fun b hb => In.ne hb (by simp <;> omega)) ?_)), ok.ups, by show RowD 1 IntOwn _ (In (w1.heap.size) w2.heap.size) x.ups b2; repeat (first | (with_reducible exact U2_3) | (with_reducible refine RowD.set IntOwn_keeps _ _ (fun b hb => In.ne hb (by simp <;> omega)) ?_)), ok.stack, by show RowD 3 ValOwn _ (In (w2.heap.size) w3.heap.size) x.stack b3; repeat (first | (with_reducible exact U3_3) | (with_reducible refine RowD.set ValOwn_keeps _ _ (fun b hb => In.ne hb (by simp <;> omega)) ?_))⟩, by repeat (first | (with_reducible exact B3) | (with_reducible refine Below.setCell ?_ (by simp <;> omega) _))⟩
theorem infO_Frame : (Try.prog.info? 76).map (fun i => (i.zero, i.size, i.bytes)) = some (some (.agg #[.int .i64 0, .int .i64 0, .slice none 0 0, .slice none 0 0, .slice none 0 0, .bool false]), 6, 96) := by kernel_rfl
set_option maxRecDepth 100000 in
set_option maxHeartbeats 800000 in
theorem owFrameS_any (xs : List FrameD) (a : Option Addr) (ca lo hi : Nat) (w : World) (hh : hi ≤ w.heap.size) (hw : wtR FrameD.wt xs ≤ 1048576) (hS : RowAt 6 FrameC w lo hi xs a) :
    Calls Try.prog 34 #[.slice a xs.length ca] w fun e w' => (∃ b cb, e = .returned (.slice b xs.length cb) ∧ RowD 6 FrameOwn w' (In w.heap.size w'.heap.size) xs b) ∧ Below w.heap.size w w' := by
  have hn := len_wtR FrameD.wt xs
  have hmk := run_makeO_n (P := Try.prog) 46 76 _ _ _ Try.underlying46 infO_Frame .i64 .i64 xs.length (by omega) (by omega)
  go_enter Try.func34, Try.ntmps34
  go_wp2_with fail
  go_loopw [4] (fun x wr => ∃ (i : Nat) (cs : Array Value) (U : Nat → Nat → Prop), x = .int .i64 i ∧ i ≤ xs.length ∧ wr.heap[w.heap.size]? = some (.cells cs 76 (0, 0)) ∧ cs.size = 6 * xs.length ∧ Parts U (In (w.heap.size + 1) wr.heap.size) ∧ (∀ m (h : m < i) (h' : m < xs.length), ∃ l, FrameOwn wr (U m) xs[m] l ∧ l.length = 6 ∧ ∀ j, j < 6 → cs[6 * m + j]? = l[j]?) ∧ Below w.heap.size w wr) (fun x _ => xs.length - (intOf x).toNat)
  case atStart => exact ⟨0, _, (fun _ _ => False), rfl, Nat.zero_le _, heap_alloc_new w _, by simp [size_madeCells]; omega, Parts.none _, fun m h => absurd h (Nat.not_lt_zero _), bel_alloc w _⟩
  case round =>
    obtain ⟨i, cs, U, rfl, hil, hrow, hcs, hP, hall, hbl⟩ := hrel
    by_cases hlt : i < xs.length
    · obtain ⟨g, o, cx, rfl, _, hg, hC, _, hc⟩ := hS i hlt
      have hC1 := FrameC_keeps.below hC hbl hh
      have hC2 := hC1
      obtain ⟨ok, a_slots, c_slots, a_ups, c_ups, a_stack, c_stack, rfl, l_slots, r_slots, l_ups, r_ups, l_stack, r_stack⟩ := hC1
      have x0 := (hbl.cell (p := ⟨g, o + 6 * i + 0, none⟩) (by show g < _; omega)).trans (hc 0 (by decide))
      have x1 := (hbl.cell (p := ⟨g, o + 6 * i + 1, none⟩) (by show g < _; omega)).trans (hc 1 (by decide))
      have x2 := (hbl.cell (p := ⟨g, o + 6 * i + 2, none⟩) (by show g < _; omega)).trans (hc 2 (by decide))
      have x3 := (hbl.cell (p := ⟨g, o + 6 * i + 3, none⟩) (by show g < _; omega)).trans (hc 3 (by decide))
      have x4 := (hbl.cell (p := ⟨g, o + 6 * i + 4, none⟩) (by show g < _; omega)).trans (hc 4 (by decide))
      have x5 := (hbl.cell (p := ⟨g, o + 6 * i + 5, none⟩) (by show g < _; omega)).trans (hc 5 (by decide))
      simp only [List.getElem?_cons_zero, List.getElem?_cons_succ, Nat.add_zero] at x0 x1 x2 x3 x4 x5
      have mc : i * 6 = 6 * i := Nat.mul_comm _ _
      have hwm := wtR_mem FrameD.wt xs i hlt
      have hwr : w.heap.size < wr.heap.size := (Array.getElem?_eq_some_iff.1 hrow).1
      have HROW : Hid (wr.heap[w.heap.size]? = some (.cells cs 76 (0, 0))) := hrow
      have HALL : Hid (∀ m (h : m < i) (h' : m < xs.length), ∃ l, FrameOwn wr (U m) xs[m] l ∧ l.length = 6 ∧ ∀ j, j < 6 → cs[6 * m + j]? = l[j]?) := hall
      obtain ⟨x, hx⟩ : ∃ x, x = xs[i] := ⟨_, rfl⟩
      rw [← hx] at x0 x1 x2 x3 x4 x5 hC2 ok hwm l_slots r_slots l_ups r_ups l_stack r_stack
      have HX : Hid (x = xs[i]) := hx
      clear hc hS hrow hall hx hC
      go_wp2_with fail
      refine (owFrame_any x _ lo hi wr (Nat.le_trans hh hbl.size) (by omega) hC2).mono ?_
      rintro e w1 ⟨⟨cs', rfl, hR⟩, hb1⟩
      have hR2 := hR
      obtain ⟨ok2, V2, pv2, n_a_slots, n_c_slots, n_a_ups, n_c_ups, n_a_stack, n_c_stack, rfl, n_l_slots, n_r_slots, n_l_ups, n_r_ups, n_l_stack, n_r_stack⟩ := hR
      have r1 := (hb1.block w.heap.size hwr).trans HROW.out
      have f0 := frozen_of_row w1 w.heap.size (6 * i) _ _ r1
      have e0 := (cell_of_row w1 w.heap.size (6 * i) _ _ (0, 0) r1).trans (Array.getElem?_eq_getElem (xs := cs) (i := 6 * i) (by omega))
      have f1 := frozen_of_row w1 w.heap.size (6 * i + 1) _ _ r1
      have e1 := (cell_of_row w1 w.heap.size (6 * i + 1) _ _ (0, 0) r1).trans (Array.getElem?_eq_getElem (xs := cs) (i := 6 * i + 1) (by omega))
      have f2 := frozen_of_row w1 w.heap.size (6 * i + 2) _ _ r1
      have e2 := (cell_of_row w1 w.heap.size (6 * i + 2) _ _ (0, 0) r1).trans (Array.getElem?_eq_getElem (xs := cs) (i := 6 * i + 2) (by omega))
      have f3 := frozen_of_row w1 w.heap.size (6 * i + 3) _ _ r1
      have e3 := (cell_of_row w1 w.heap.size (6 * i + 3) _ _ (0, 0) r1).trans (Array.getElem?_eq_getElem (xs := cs) (i := 6 * i + 3) (by omega))
      have f4 := frozen_of_row w1 w.heap.size (6 * i + 4) _ _ r1
      have e4 := (cell_of_row w1 w.heap.size (6 * i + 4) _ _ (0, 0) r1).trans (Array.getElem?_eq_getElem (xs := cs) (i := 6 * i + 4) (by omega))
      have f5 := frozen_of_row w1 w.heap.size (6 * i + 5) _ _ r1
      have e5 := (cell_of_row w1 w.heap.size (6 * i + 5) _ _ (0, 0) r1).trans (Array.getElem?_eq_getElem (xs := cs) (i := 6 * i + 5) (by omega))
      have R1 : Hid (w1.heap[w.heap.size]? = some (.cells cs 76 (0, 0))) := r1
      clear r1
      go_wp2_with fail
      go_roundw
      case rel =>
        have hs1 := hb1.size
        have fr : ∀ b, w.heap.size + 1 ≤ b → ((((((w1.setCell ⟨w.heap.size, 6 * i, none⟩ (.int .i64 x.proto)).setCell ⟨w.heap.size, 6 * i + 1, none⟩ (.int .i64 x.pc)).setCell ⟨w.heap.size, 6 * i + 2, none⟩ (.slice n_a_slots x.slots.length n_c_slots)).setCell ⟨w.heap.size, 6 * i + 3, none⟩ (.slice n_a_ups x.ups.length n_c_ups)).setCell ⟨w.heap.size, 6 * i + 4, none⟩ (.slice n_a_stack x.stack.length n_c_stack)).setCell ⟨w.heap.size, 6 * i + 5, none⟩ (.bool x.guard)).heap[b]? = w1.heap[b]? := fun b h1 => (heap_setCell_other _ _ _ _ (by show b ≠ w.heap.size; omega)).trans ((heap_setCell_other _ _ _ _ (by show b ≠ w.heap.size; omega)).trans ((heap_setCell_other _ _ _ _ (by show b ≠ w.heap.size; omega)).trans ((heap_setCell_other _ _ _ _ (by show b ≠ w.heap.size; omega)).trans ((heap_setCell_other _ _ _ _ (by show b ≠ w.heap.size; omega)).trans (heap_setCell_other _ _ _ _ (by show b ≠ w.heap.size; omega))))))
        refine ⟨i + 1, _, (fun m b => (m < i ∧ U m b) ∨ (m = i ∧ In wr.heap.size w1.heap.size b)), by go_num, by omega, (heap_setCell_same _ _ _ _ _ _ (heap_setCell_same _ _ _ _ _ _ (heap_setCell_same _ _ _ _ _ _ (heap_setCell_same _ _ _ _ _ _ (heap_setCell_same _ _ _ _ _ _ (heap_setCell_same _ _ _ _ _ _ R1.out)))))), by simpa using hcs, (hP.add (by omega) hs1).wide (fun b hb => ⟨hb.1, by have := hb.2; simp; omega⟩), fun m h h' => ?_, (((((((hbl.trans (hb1.mono hbl.size)).setCell (Nat.le_refl _) _).setCell (Nat.le_refl _) _).setCell (Nat.le_refl _) _).setCell (Nat.le_refl _) _).setCell (Nat.le_refl _) _).setCell (Nat.le_refl _) _)⟩
        by_cases hm' : m = i
        · subst hm'
          rw [← HX.out]
          exact ⟨[.int .i64 x.proto, .int .i64 x.pc, .slice n_a_slots x.slots.length n_c_slots, .slice n_a_ups x.ups.length n_c_ups, .slice n_a_stack x.stack.length n_c_stack, .bool x.guard], FrameOwn_keeps _ _ _ _ _ _ (fun b hb => .inr ⟨rfl, hb⟩) (fun b hb => fr b (by have := hb.1; omega)) hR2, rfl, fun j hj => by exact sr6_new cs m _ _ _ _ _ _ j hj (by omega)⟩
        · obtain ⟨l, h1, h2, h3⟩ := HALL.out m (by omega) h'
          refine ⟨l, FrameOwn_keeps _ _ _ _ _ _ (fun b hb => .inl ⟨by omega, hb⟩) (fun b hb => (fr b (by have := (hP.within m b hb).1; omega)).trans (hb1.block b (hP.within m b hb).2)) h1, h2, fun j hj => ?_⟩
          rw [sr6_old cs i _ _ _ _ _ _ _ (by omega)]
          exact h3 j hj
      case measure => simp [intOf]; omega
    · obtain rfl : i = xs.length := by omega
      have hlt2 : w.heap.size < wr.heap.size := (Array.getElem?_eq_some_iff.1 hrow).1
      have HALL : Hid (∀ m (h : m < xs.length) (h' : m < xs.length), ∃ l, FrameOwn wr (U m) xs[m] l ∧ l.length = 6 ∧ ∀ j, j < 6 → cs[6 * m + j]? = l[j]?) := hall
      clear hS hall
      go_wp2_with fail
      go_ret
      exact ⟨⟨_, _, rfl, .inr ⟨w.heap.size, cs, _, rfl, ⟨Nat.le_refl _, hlt2⟩, hrow, by omega, U, ⟨fun i b hb => ⟨⟨by have := (hP.within i b hb).1; omega, (hP.within i b hb).2⟩, by have := (hP.within i b hb).1; omega⟩, hP.apart⟩, fun m h => HALL.out m h h⟩⟩, hbl⟩
set_option maxRecDepth 100000 in
set_option maxHeartbeats 800000 in
theorem twPair_any (x : PairD) (w : World) :
    Calls Try.prog 104 #[.agg #[.int .i64 x.key.k, .int .i64 x.key.n, .string x.key.s, .int .i64 x.val.k, .int .i64 x.val.n, .string x.val.s]] w fun e w' => e = .returned (.agg #[.int .i64 x.key.k, .int .i64 x.key.n, .string x.key.s, .int .i64 x.val.k, .int .i64 x.val.n, .string x.val.s]) ∧ Below w.heap.size w w' := by
  obtain ⟨⟨k, n, s⟩, ⟨k2, n2, s2⟩⟩ := x
  dsimp only
  go_enter Try.func104, Try.ntmps104
  go_wp2_with fail
  obtain ⟨_, rB, _, _, _⟩ := rows3 w (Obj.cells #[.int .i64 k, .int .i64 n, .string s, .int .i64 k2, .int .i64 n2, .string s2] 190) (Obj.cells #[.int .i64 0, .int .i64 0, .string ⟨#[]⟩, .int .i64 0, .int .i64 0, .string ⟨#[]⟩] 101) (Obj.cells #[.int .i64 0, .int .i64 0, .string ⟨#[]⟩, .int .i64 0, .int .i64 0, .string ⟨#[]⟩] 101)
  refine (toV_any k n s _).mono ?_
  rintro e w1 ⟨rfl, hb1⟩
  have rB1 := (hb1.block (w.heap.size + 1) (by simp <;> omega)).trans rB
  clear rB
  obtain ⟨hc1, hf1⟩ := bcell hb1
  have hz1 : w.heap.size + 1 + 1 < w1.heap.size := by have := hb1.size; simp at this; omega
  have hz1' : w.heap.size < w1.heap.size := by omega
  have B1 : Below w.heap.size w w1 := Below.trans (by repeat (first | exact Below.refl _ _ | refine Below.alloc ?_ (by simp <;> omega) _)) (hb1.mono (by simp <;> omega))
  go_wp2_with fail
  refine (toV_any k2 n2 s2 _).mono ?_
  rintro e w2 ⟨rfl, hb2⟩
  obtain ⟨hc2, hf2⟩ := bcell hb2
  have hz2 : w.heap.size + 1 + 1 < w2.heap.size := by have := hb2.size; simp at this; omega
  have rB2 := (hb2.block (w.heap.size + 1) (by simp; omega)).trans ((heap_setCell_other _ _ _ _ (by simp)).trans ((heap_setCell_other _ _ _ _ (by simp)).trans ((heap_setCell_other _ _ _ _ (by simp)).trans rB1)))
  clear rB1
  have f0 := frozen_of_row _ _ 0 _ _ rB2
  have e0 := cell_of_row _ _ 0 _ _ _ rB2
  have f1 := frozen_of_row _ _ 1 _ _ rB2
  have e1 := cell_of_row _ _ 1 _ _ _ rB2
  have f2 := frozen_of_row _ _ 2 _ _ rB2
  have e2 := cell_of_row _ _ 2 _ _ _ rB2
  have f3 := frozen_of_row _ _ 3 _ _ rB2
  have e3 := cell_of_row _ _ 3 _ _ _ rB2
  have f4 := frozen_of_row _ _ 4 _ _ rB2
  have e4 := cell_of_row _ _ 4 _ _ _ rB2
  have f5 := frozen_of_row _ _ 5 _ _ rB2
  have e5 := cell_of_row _ _ 5 _ _ _ rB2
  simp only [List.getElem?_toArray, List.getElem?_cons_zero, List.getElem?_cons_succ] at e0 e1 e2 e3 e4 e5
  have B2 : Below w.heap.size w w2 := Below.trans (by repeat (first | exact B1 | refine Below.setCell ?_ (by simp <;> omega) _)) (hb2.mono (by simp; omega))
  go_wp2_with fail
  exact bodyPost_ret (v := .agg #[.int .i64 k, .int .i64 n, .string s, .int .i64 k2, .int .i64 n2, .string s2]) (by simp [results, Try.results104, go_sem, *]) rfl ⟨rfl, by repeat (first | (with_reducible exact B2) | (with_reducible refine Below.setCell ?_ (by simp <;> omega) _))⟩
theorem infO_Pair : (Try.prog.info? 101).map (fun i => (i.zero, i.size, i.bytes)) = some (some (.agg #[.int .i64 0, .int .i64 0, .string ByteArray.empty, .int .i64 0, .int .i64 0, .string ByteArray.empty]), 6, 64) := by kernel_rfl
set_option maxRecDepth 100000 in
set_option maxHeartbeats 800000 in
theorem owPairS_any (xs : List PairD) (a : Option Addr) (ca lo hi : Nat) (w : World) (hh : hi ≤ w.heap.size) (hw : wtR PairD.wt xs ≤ 1048576) (hS : RowAt 6 PairC w lo hi xs a) :
    Calls Try.prog 79 #[.slice a xs.length ca] w fun e w' => (∃ b cb, e = .returned (.slice b xs.length cb) ∧ RowD 6 PairOwn w' (In w.heap.size w'.heap.size) xs b) ∧ Below w.heap.size w w' := by
  have hn := len_wtR PairD.wt xs
  have hmk := run_makeO_n (P := Try.prog) 99 101 _ _ _ Try.underlying99 infO_Pair .i64 .i64 xs.length (by omega) (by omega)
  go_enter Try.func79, Try.ntmps79
  go_wp2_with fail
  go_loopw [4] (fun x wr => ∃ (i : Nat) (cs : Array Value) (U : Nat → Nat → Prop), x = .int .i64 i ∧ i ≤ xs.length ∧ wr.heap[w.heap.size]? = some (.cells cs 101 (0, 0)) ∧ cs.size = 6 * xs.length ∧ Parts U (In (w.heap.size + 1) wr.heap.size) ∧ (∀ m (h : m < i) (h' : m < xs.length), ∃ l, PairOwn wr (U m) xs[m] l ∧ l.length = 6 ∧ ∀ j, j < 6 → cs[6 * m + j]? = l[j]?) ∧ Below w.heap.size w wr) (fun x _ => xs.length - (intOf x).toNat)
  case atStart => exact ⟨0, _, (fun _ _ => False), rfl, Nat.zero_le _, heap_alloc_new w _, by simp [size_madeCells]; omega, Parts.none _, fun m h => absurd h (Nat.not_lt_zero _), bel_alloc w _⟩
  case round =>
    obtain ⟨i, cs, U, rfl, hil, hrow, hcs, hP, hall, hbl⟩ := hrel
    by_cases hlt : i < xs.length
    · obtain ⟨g, o, cx, rfl, _, hg, hC, _, hc⟩ := hS i hlt
      have hC1 := PairC_keeps.below hC hbl hh
      have hC2 := hC1
      obtain ⟨ok, rfl⟩ := hC1
      have x0 := (hbl.cell (p := ⟨g, o + 6 * i + 0, none⟩) (by show g < _; omega)).trans (hc 0 (by decide))
      have x1 := (hbl.cell (p := ⟨g, o + 6 * i + 1, none⟩) (by show g < _; omega)).trans (hc 1 (by decide))
      have x2 := (hbl.cell (p := ⟨g, o + 6 * i + 2, none⟩) (by show g < _; omega)).trans (hc 2 (by decide))
      have x3 := (hbl.cell (p := ⟨g, o + 6 * i + 3, none⟩) (by show g < _; omega)).trans (hc 3 (by decide))
      have x4 := (hbl.cell (p := ⟨g, o + 6 * i + 4, none⟩) (by show g < _; omega)).trans (hc 4 (by decide))
      have x5 := (hbl.cell (p := ⟨g, o + 6 * i + 5, none⟩) (by show g < _; omega)).trans (hc 5 (by decide))
      simp only [List.getElem?_cons_zero, List.getElem?_cons_succ, Nat.add_zero] at x0 x1 x2 x3 x4 x5
      have mc : i * 6 = 6 * i := Nat.mul_comm _ _
      have hwm := wtR_mem PairD.wt xs i hlt
      have hwr : w.heap.size < wr.heap.size := (Array.getElem?_eq_some_iff.1 hrow).1
      have HROW : Hid (wr.heap[w.heap.size]? = some (.cells cs 101 (0, 0))) := hrow
      have HALL : Hid (∀ m (h : m < i) (h' : m < xs.length), ∃ l, PairOwn wr (U m) xs[m] l ∧ l.length = 6 ∧ ∀ j, j < 6 → cs[6 * m + j]? = l[j]?) := hall
      obtain ⟨x, hx⟩ : ∃ x, x = xs[i] := ⟨_, rfl⟩
      rw [← hx] at x0 x1 x2 x3 x4 x5 hC2 ok hwm
      have HX : Hid (x = xs[i]) := hx
      clear hc hS hrow hall hx hC
      go_wp2_with fail
      refine (twPair_any x wr).mono ?_
      rintro e w1 ⟨rfl, hb1⟩
      have r1 := (hb1.block w.heap.size hwr).trans HROW.out
      have f0 := frozen_of_row w1 w.heap.size (6 * i) _ _ r1
      have e0 := (cell_of_row w1 w.heap.size (6 * i) _ _ (0, 0) r1).trans (Array.getElem?_eq_getElem (xs := cs) (i := 6 * i) (by omega))
      have f1 := frozen_of_row w1 w.heap.size (6 * i + 1) _ _ r1
      have e1 := (cell_of_row w1 w.heap.size (6 * i + 1) _ _ (0, 0) r1).trans (Array.getElem?_eq_getElem (xs := cs) (i := 6 * i + 1) (by omega))
      have f2 := frozen_of_row w1 w.heap.size (6 * i + 2) _ _ r1
      have e2 := (cell_of_row w1 w.heap.size (6 * i + 2) _ _ (0, 0) r1).trans (Array.getElem?_eq_getElem (xs := cs) (i := 6 * i + 2) (by omega))
      have f3 := frozen_of_row w1 w.heap.size (6 * i + 3) _ _ r1
      have e3 := (cell_of_row w1 w.heap.size (6 * i + 3) _ _ (0, 0) r1).trans (Array.getElem?_eq_getElem (xs := cs) (i := 6 * i + 3) (by omega))
      have f4 := frozen_of_row w1 w.heap.size (6 * i + 4) _ _ r1
      have e4 := (cell_of_row w1 w.heap.size (6 * i + 4) _ _ (0, 0) r1).trans (Array.getElem?_eq_getElem (xs := cs) (i := 6 * i + 4) (by omega))
      have f5 := frozen_of_row w1 w.heap.size (6 * i + 5) _ _ r1
      have e5 := (cell_of_row w1 w.heap.size (6 * i + 5) _ _ (0, 0) r1).trans (Array.getElem?_eq_getElem (xs := cs) (i := 6 * i + 5) (by omega))
      have R1 : Hid (w1.heap[w.heap.size]? = some (.cells cs 101 (0, 0))) := r1
      clear r1
      go_wp2_with fail
      go_roundw
      case rel =>
        have hs1 := hb1.size
        refine ⟨i + 1, _, U, by go_num, by omega, (heap_setCell_same _ _ _ _ _ _ (heap_setCell_same _ _ _ _ _ _ (heap_setCell_same _ _ _ _ _ _ (heap_setCell_same _ _ _ _ _ _ (heap_setCell_same _ _ _ _ _ _ (heap_setCell_same _ _ _ _ _ _ R1.out)))))), by simpa using hcs, hP.wide (fun b hb => ⟨hb.1, by have := hb.2; simp; omega⟩), fun m h h' => ?_, (((((((hbl.trans (hb1.mono hbl.size)).setCell (Nat.le_refl _) _).setCell (Nat.le_refl _) _).setCell (Nat.le_refl _) _).setCell (Nat.le_refl _) _).setCell (Nat.le_refl _) _).setCell (Nat.le_refl _) _)⟩
        by_cases hm' : m = i
        · subst hm'
          rw [← HX.out]
          exact ⟨[.int .i64 x.key.k, .int .i64 x.key.n, .string x.key.s, .int .i64 x.val.k, .int .i64 x.val.n, .string x.val.s], ⟨ok, rfl⟩, rfl, fun j hj => by exact sr6_new cs m _ _ _ _ _ _ j hj (by omega)⟩
        · obtain ⟨l, h1, h2, h3⟩ := HALL.out m (by omega) h'
          refine ⟨l, PairOwn_flat h1, h2, fun j hj => ?_⟩
          rw [sr6_old cs i _ _ _ _ _ _ _ (by omega)]
          exact h3 j hj
      case measure => simp [intOf]; omega
    · obtain rfl : i = xs.length := by omega
      have hlt2 : w.heap.size < wr.heap.size := (Array.getElem?_eq_some_iff.1 hrow).1
      have HALL : Hid (∀ m (h : m < xs.length) (h' : m < xs.length), ∃ l, PairOwn wr (U m) xs[m] l ∧ l.length = 6 ∧ ∀ j, j < 6 → cs[6 * m + j]? = l[j]?) := hall
      clear hS hall
      go_wp2_with fail
      go_ret
      exact ⟨⟨_, _, rfl, .inr ⟨w.heap.size, cs, _, rfl, ⟨Nat.le_refl _, hlt2⟩, hrow, by omega, U, ⟨fun i b hb => ⟨⟨by have := (hP.within i b hb).1; omega, (hP.within i b hb).2⟩, by have := (hP.within i b hb).1; omega⟩, hP.apart⟩, fun m h => HALL.out m h h⟩⟩, hbl⟩
theorem infO_PairS : (Try.prog.info? 99).map (fun i => (i.zero, i.size, i.bytes)) = some (some (.slice none 0 0), 1, 24) := by kernel_rfl
set_option maxRecDepth 100000 in
set_option maxHeartbeats 800000 in
theorem owPairSS_any (xs : List (List PairD)) (a : Option Addr) (ca lo hi : Nat) (w : World) (hh : hi ≤ w.heap.size) (hw : wtR (wtR PairD.wt) xs ≤ 1048576) (hS : RowAt 1 PairSC w lo hi xs a) :
    Calls Try.prog 47 #[.slice a xs.length ca] w fun e w' => (∃ b cb, e = .returned (.slice b xs.length cb) ∧ RowD 1 PairSOwn w' (In w.heap.size w'.heap.size) xs b) ∧ Below w.heap.size w w' := by
  have hn := len_wtR (wtR PairD.wt) xs
  have hmk := run_makeO_n (P := Try.prog) 41 99 _ _ _ Try.underlying41 infO_PairS .i64 .i64 xs.length (by omega) (by omega)
  go_enter Try.func47, Try.ntmps47
  go_wp2_with fail
  go_loopw [4] (fun x wr => ∃ (i : Nat) (cs : Array Value) (U : Nat → Nat → Prop), x = .int .i64 i ∧ i ≤ xs.length ∧ wr.heap[w.heap.size]? = some (.cells cs 99 (0, 0)) ∧ cs.size = xs.length ∧ Parts U (In (w.heap.size + 1) wr.heap.size) ∧ (∀ m (h : m < i) (h' : m < xs.length), ∃ l, PairSOwn wr (U m) xs[m] l ∧ l.length = 1 ∧ ∀ j, j < 1 → cs[1 * m + j]? = l[j]?) ∧ Below w.heap.size w wr) (fun x _ => xs.length - (intOf x).toNat)
  case atStart => exact ⟨0, _, (fun _ _ => False), rfl, Nat.zero_le _, heap_alloc_new w _, by simp [size_madeCells], Parts.none _, fun m h => absurd h (Nat.not_lt_zero _), bel_alloc w _⟩
  case round =>
    obtain ⟨i, cs, U, rfl, hil, hrow, hcs, hP, hall, hbl⟩ := hrel
    by_cases hlt : i < xs.length
    · obtain ⟨g, o, cx, rfl, _, hg, hC, _, hc⟩ := hS i hlt
      have hC1 := PairSC_keeps.below hC hbl hh
      have hC2 := hC1
      obtain ⟨ok, a_p, c_p, rfl, r_p⟩ := hC1
      have x0 := (hbl.cell (p := ⟨g, o + 1 * i + 0, none⟩) (by show g < _; omega)).trans (hc 0 (by decide))
      simp only [List.getElem?_cons_zero, Nat.add_zero, Nat.one_mul] at x0
      have hwm := wtR_mem (wtR PairD.wt) xs i hlt
      have hwr : w.heap.size < wr.heap.size := (Array.getElem?_eq_some_iff.1 hrow).1
      have HROW : Hid (wr.heap[w.heap.size]? = some (.cells cs 99 (0, 0))) := hrow
      have HALL : Hid (∀ m (h : m < i) (h' : m < xs.length), ∃ l, PairSOwn wr (U m) xs[m] l ∧ l.length = 1 ∧ ∀ j, j < 1 → cs[1 * m + j]? = l[j]?) := hall
      obtain ⟨x, hx⟩ : ∃ x, x = xs[i] := ⟨_, rfl⟩
      rw [← hx] at x0 hC2 ok hwm r_p
      have HX : Hid (x = xs[i]) := hx
      clear hc hS hrow hall hx hC
      go_wp2_with fail
      refine (owPairS_any x a_p c_p lo hi wr (Nat.le_trans hh hbl.size) (by omega) r_p).mono ?_
      rintro e w1 ⟨⟨n_a_p, n_c_p, rfl, n_r_p⟩, hb1⟩
      have hR2 : PairSOwn w1 (In wr.heap.size w1.heap.size) x [.slice n_a_p x.length n_c_p] := ⟨ok, n_a_p, n_c_p, rfl, n_r_p⟩
      have r1 := (hb1.block w.heap.size hwr).trans HROW.out
      have f0 := frozen_of_row w1 w.heap.size (i) _ _ r1
      have e0 := (cell_of_row w1 w.heap.size (i) _ _ (0, 0) r1).trans (Array.getElem?_eq_getElem (xs := cs) (i := i) (by omega))
      have R1 : Hid (w1.heap[w.heap.size]? = some (.cells cs 99 (0, 0))) := r1
      clear r1
      go_wp2_with fail
      go_roundw
      case rel =>
        have hs1 := hb1.size
        have fr : ∀ b, w.heap.size + 1 ≤ b → (w1.setCell ⟨w.heap.size, i, none⟩ (.slice n_a_p x.length n_c_p)).heap[b]? = w1.heap[b]? := fun b h1 => heap_setCell_other _ _ _ _ (by show b ≠ w.heap.size; omega)
        refine ⟨i + 1, _, (fun m b => (m < i ∧ U m b) ∨ (m = i ∧ In wr.heap.size w1.heap.size b)), by go_num, by omega, (heap_setCell_same _ _ _ _ _ _ R1.out), by simpa using hcs, (hP.add (by omega) hs1).wide (fun b hb => ⟨hb.1, by have := hb.2; simp; omega⟩), fun m h h' => ?_, ((hbl.trans (hb1.mono hbl.size)).setCell (Nat.le_refl _) _)⟩
        by_cases hm' : m = i
        · subst hm'
          rw [← HX.out]
          exact ⟨[.slice n_a_p x.length n_c_p], PairSOwn_keeps _ _ _ _ _ _ (fun b hb => .inr ⟨rfl, hb⟩) (fun b hb => fr b (by have := hb.1; omega)) hR2, rfl, fun j hj => by rw [show 1 * m + j = m + j by omega]; exact sr1_new cs m _ j hj (by omega)⟩
        · obtain ⟨l, h1, h2, h3⟩ := HALL.out m (by omega) h'
          refine ⟨l, PairSOwn_keeps _ _ _ _ _ _ (fun b hb => .inl ⟨by omega, hb⟩) (fun b hb => (fr b (by have := (hP.within m b hb).1; omega)).trans (hb1.block b (hP.within m b hb).2)) h1, h2, fun j hj => ?_⟩
          rw [sr1_old cs i _ _ (by omega)]
          exact h3 j hj
      case measure => simp [intOf]; omega
    · obtain rfl : i = xs.length := by omega
      have hlt2 : w.heap.size < wr.heap.size := (Array.getElem?_eq_some_iff.1 hrow).1
      have HALL : Hid (∀ m (h : m < xs.length) (h' : m < xs.length), ∃ l, PairSOwn wr (U m) xs[m] l ∧ l.length = 1 ∧ ∀ j, j < 1 → cs[1 * m + j]? = l[j]?) := hall
      clear hS hall
      go_wp2_with fail
      go_ret
      exact ⟨⟨_, _, rfl, .inr ⟨w.heap.size, cs, _, rfl, ⟨Nat.le_refl _, hlt2⟩, hrow, by omega, U, ⟨fun i b hb => ⟨⟨by have := (hP.within i b hb).1; omega, (hP.within i b hb).2⟩, by have := (hP.within i b hb).1; omega⟩, hP.apart⟩, fun m h => HALL.out m h h⟩⟩, hbl⟩
set_option maxRecDepth 100000 in
set_option maxHeartbeats 800000 in
theorem owHeap_any (x : HeapD) (cs : List Value) (lo hi : Nat) (w : World) (hh : hi ≤ w.heap.size) (hw : x.wt ≤ 1048576) (hC : HeapC w lo hi x cs) :
    Calls Try.prog 19 #[.agg cs.toArray] w fun e w' => (∃ cs', e = .returned (.agg cs'.toArray) ∧ HeapOwn w' (In w.heap.size w'.heap.size) x cs') ∧ Below w.heap.size w w' := by
  obtain ⟨ok, a_tables, c_tables, a_cells, c_cells, rfl, l_tables, r_tables, l_cells, r_cells⟩ := hC
  unfold HeapD.wt at hw
  have hn_tables := len_wtR (wtR PairD.wt) x.tables
  have hn_cells := len_wtR Vl.wt x.cells
  go_enter Try.func19, Try.ntmps19
  go_wp2_with fail
  have B0 : ∀ A B C : Obj, Below w.heap.size w (((w.alloc A).alloc B).alloc C) := fun A B C => (rows3 w A B C).2.2.2.2
  refine (owPairSS_any x.tables a_tables c_tables lo hi _ (by simp; omega) (by omega) (r_tables.below PairSC_keeps (B0 _ _ _) hh)).mono ?_
  rintro e w1 ⟨⟨b1, d1, rfl, hU1⟩, hb1⟩
  obtain ⟨hc1, hf1⟩ := bcell hb1
  have hz1 : w.heap.size + 1 + 1 < w1.heap.size := by have := hb1.size; simp at this; omega
  have hy1 : w.heap.size + 1 < w1.heap.size := by omega
  have hx1 : w.heap.size < w1.heap.size := by omega
  have B1 : Below w.heap.size w w1 := (B0 _ _ _).trans (hb1.mono (by simp <;> omega))
  have le1 : w.heap.size + 3 ≤ w1.heap.size := by omega
  have U1_1 : RowD 1 PairSOwn w1 (In (w.heap.size + 3) w1.heap.size) x.tables b1 := hU1.later PairSOwn_keeps (fun b hb => ⟨by have := hb.1; simp at this; omega, hb.2⟩) (fun _ _ => rfl)
  go_wp2_with fail
  have S1 : Below w.heap.size w (w1.setCell ⟨w.heap.size + 1 + 1, 0, none⟩ (.slice b1 x.tables.length d1)) := (B1.setCell (by show w.heap.size ≤ w.heap.size + 1 + 1; omega) _)
  refine (owValueS_any x.cells a_cells c_cells lo hi _ (by simp; omega) (by omega) (r_cells.below ValC_keeps S1 hh)).mono ?_
  rintro e w2 ⟨⟨b2, d2, rfl, hU2⟩, hb2⟩
  obtain ⟨hc2, hf2⟩ := bcell hb2
  have hz2 : w.heap.size + 1 + 1 < w2.heap.size := by have := hb2.size; simp at this; omega
  have hy2 : w.heap.size + 1 < w2.heap.size := by omega
  have hx2 : w.heap.size < w2.heap.size := by omega
  have B2 : Below w.heap.size w w2 := S1.trans (hb2.mono S1.size)
  have le2 : w1.heap.size ≤ w2.heap.size := by have := hb2.size; simpa using this
  have U1_2 : RowD 1 PairSOwn w2 (In (w.heap.size + 3) w1.heap.size) x.tables b1 := (U1_1.set PairSOwn_keeps _ _ (fun b hb => by have := hb.1; show b ≠ w.heap.size + 1 + 1; omega)).below PairSOwn_keeps (fun b hb => by have := hb.2; simp; omega) hb2
  have U2_2 : RowD 3 ValOwn w2 (In (w1.heap.size) w2.heap.size) x.cells b2 := hU2.later ValOwn_keeps (fun b hb => ⟨by have := hb.1; simp at this; omega, hb.2⟩) (fun _ _ => rfl)
  go_wp2_with fail
  have hp : ∀ hi, w2.heap.size ≤ hi → Parts (V5 (In (w.heap.size + 3) w1.heap.size) (In (w1.heap.size) w2.heap.size) (In w2.heap.size w2.heap.size) (In w2.heap.size w2.heap.size) (In w2.heap.size w2.heap.size)) (In w.heap.size hi) := fun hi h => parts5 (by omega) (by omega) (by omega) (by omega) (by omega) (by omega) (by omega) (by omega) (by omega) (by omega) (by omega)
  exact bodyPost_ret (v := .agg #[.slice b1 x.tables.length d1, .slice b2 x.cells.length d2]) (by simp [results, Try.results19, go_sem, *]) rfl ⟨⟨[.slice b1 x.tables.length d1, .slice b2 x.cells.length d2], rfl, ok, _, hp _ (by simp), b1, d1, b2, d2, rfl, ok.tables, by show RowD 1 PairSOwn _ (In (w.heap.size + 3) w1.heap.size) x.tables b1; repeat (first | (with_reducible exact U1_2) | (with_reducible refine RowD.set PairSOwn_keeps _ _ (fun b hb => In.ne hb (by simp <;> omega)) ?_)), ok.cells, by show RowD 3 ValOwn _ (In (w1.heap.size) w2.heap.size) x.cells b2; repeat (first | (with_reducible exact U2_2) | (with_reducible refine RowD.set ValOwn_keeps _ _ (fun b hb => In.ne hb (by simp <;> omega)) ?_))⟩, by repeat (first | (with_reducible exact B2) | (with_reducible refine Below.setCell ?_ (by simp <;> omega) _))⟩
set_option maxRecDepth 100000 in
set_option maxHeartbeats 800000 in
theorem owVm_any (x : VmD) (cs : List Value) (lo hi : Nat) (w : World) (hh : hi ≤ w.heap.size) (hw : x.wt ≤ 1048576) (hC : VmC w lo hi x cs) :
    Calls Try.prog 11 #[.agg cs.toArray] w fun e w' => (∃ cs', e = .returned (.agg cs'.toArray) ∧ VmOwn w' (In w.heap.size w'.heap.size) x cs') ∧ Below w.heap.size w w' := by
  obtain ⟨ok, a_heap_tables, c_heap_tables, a_heap_cells, c_heap_cells, a_funs, c_funs, a_frames, c_frames, a_out, c_out, rfl, l_heap_tables, r_heap_tables, l_heap_cells, r_heap_cells, l_funs, r_funs, l_frames, r_frames, l_out, r_out⟩ := hC
  unfold VmD.wt at hw
  have h_heap : HeapC w lo hi x.heap [.slice a_heap_tables x.heap.tables.length c_heap_tables, .slice a_heap_cells x.heap.cells.length c_heap_cells] := ⟨ok.heap, a_heap_tables, c_heap_tables, a_heap_cells, c_heap_cells, rfl, l_heap_tables, r_heap_tables, l_heap_cells, r_heap_cells⟩
  have hn_funs := len_wtR ClosureD.wt x.funs
  have hn_frames := len_wtR FrameD.wt x.frames
  have hn_out := len_wtR ByteArray.size x.out
  go_enter Try.func11, Try.ntmps11
  go_wp2_with fail
  have B0 : ∀ A B C : Obj, Below w.heap.size w (((w.alloc A).alloc B).alloc C) := fun A B C => (rows3 w A B C).2.2.2.2
  refine (owHeap_any x.heap _ lo hi _ (by simp; omega) (by omega) (HeapC_keeps.below h_heap (B0 _ _ _) hh)).mono ?_
  rintro e w1 ⟨⟨cs1, rfl, hU1⟩, hb1⟩
  obtain ⟨hc1, hf1⟩ := bcell hb1
  have hz1 : w.heap.size + 1 + 1 < w1.heap.size := by have := hb1.size; simp at this; omega
  have hy1 : w.heap.size + 1 < w1.heap.size := by omega
  have hx1 : w.heap.size < w1.heap.size := by omega
  have B1 : Below w.heap.size w w1 := (B0 _ _ _).trans (hb1.mono (by simp <;> omega))
  have le1 : w.heap.size + 3 ≤ w1.heap.size := by omega
  have U1_10 : HeapOwn w1 (In (w.heap.size + 3) w1.heap.size) x.heap cs1 := HeapOwn_keeps _ _ _ _ _ _ (fun b hb => ⟨by have := hb.1; simp at this; omega, hb.2⟩) (fun _ _ => rfl) hU1
  have hk1 := U1_10
  obtain ⟨_, _, _, z1_a_tables, z1_c_tables, z1_a_cells, z1_c_cells, rfl, z1_l_tables, z1_r_tables, z1_l_cells, z1_r_cells⟩ := hk1
  have U1_1 : HeapOwn w1 (In (w.heap.size + 3) w1.heap.size) x.heap [.slice z1_a_tables x.heap.tables.length z1_c_tables, .slice z1_a_cells x.heap.cells.length z1_c_cells] := U1_10
  go_wp2_with fail
  have S1 : Below w.heap.size w ((w1.setCell ⟨w.heap.size + 1 + 1, 0, none⟩ (.slice z1_a_tables x.heap.tables.length z1_c_tables)).setCell ⟨w.heap.size + 1 + 1, 1, none⟩ (.slice z1_a_cells x.heap.cells.length z1_c_cells)) := ((B1.setCell (by show w.heap.size ≤ w.heap.size + 1 + 1; omega) _).setCell (by show w.heap.size ≤ w.heap.size + 1 + 1; omega) _)
  refine (owClosureS_any x.funs a_funs c_funs lo hi _ (by simp; omega) (by omega) (r_funs.below ClosureC_keeps S1 hh)).mono ?_
  rintro e w2 ⟨⟨b2, d2, rfl, hU2⟩, hb2⟩
  obtain ⟨hc2, hf2⟩ := bcell hb2
  have hz2 : w.heap.size + 1 + 1 < w2.heap.size := by have := hb2.size; simp at this; omega
  have hy2 : w.heap.size + 1 < w2.heap.size := by omega
  have hx2 : w.heap.size < w2.heap.size := by omega
  have B2 : Below w.heap.size w w2 := S1.trans (hb2.mono S1.size)
  have le2 : w1.heap.size ≤ w2.heap.size := by have := hb2.size; simpa using this
  have U1_2 : HeapOwn w2 (In (w.heap.size + 3) w1.heap.size) x.heap [.slice z1_a_tables x.heap.tables.length z1_c_tables, .slice z1_a_cells x.heap.cells.length z1_c_cells] := HeapOwn_keeps.below (fun b hb => by have := hb.2; simp; omega) hb2 (HeapOwn_keeps.set _ _ (fun b hb => by have := hb.1; show b ≠ w.heap.size + 1 + 1; omega) (HeapOwn_keeps.set _ _ (fun b hb => by have := hb.1; show b ≠ w.heap.size + 1 + 1; omega) U1_1))
  have U2_2 : RowD 2 ClosureOwn w2 (In (w1.heap.size) w2.heap.size) x.funs b2 := hU2.later ClosureOwn_keeps (fun b hb => ⟨by have := hb.1; simp at this; omega, hb.2⟩) (fun _ _ => rfl)
  go_wp2_with fail
  have S2 : Below w.heap.size w (w2.setCell ⟨w.heap.size + 1 + 1, 2, none⟩ (.slice b2 x.funs.length d2)) := (B2.setCell (by show w.heap.size ≤ w.heap.size + 1 + 1; omega) _)
  refine (owFrameS_any x.frames a_frames c_frames lo hi _ (by simp; omega) (by omega) (r_frames.below FrameC_keeps S2 hh)).mono ?_
  rintro e w3 ⟨⟨b3, d3, rfl, hU3⟩, hb3⟩
  obtain ⟨hc3, hf3⟩ := bcell hb3
  have hz3 : w.heap.size + 1 + 1 < w3.heap.size := by have := hb3.size; simp at this; omega
  have hy3 : w.heap.size + 1 < w3.heap.size := by omega
  have hx3 : w.heap.size < w3.heap.size := by omega
  have B3 : Below w.heap.size w w3 := S2.trans (hb3.mono S2.size)
  have le3 : w2.heap.size ≤ w3.heap.size := by have := hb3.size; simpa using this
  have U1_3 : HeapOwn w3 (In (w.heap.size + 3) w1.heap.size) x.heap [.slice z1_a_tables x.heap.tables.length z1_c_tables, .slice z1_a_cells x.heap.cells.length z1_c_cells] := HeapOwn_keeps.below (fun b hb => by have := hb.2; simp; omega) hb3 (HeapOwn_keeps.set _ _ (fun b hb => by have := hb.1; show b ≠ w.heap.size + 1 + 1; omega) U1_2)
  have U2_3 : RowD 2 ClosureOwn w3 (In (w1.heap.size) w2.heap.size) x.funs b2 := (U2_2.set ClosureOwn_keeps _ _ (fun b hb => by have := hb.1; show b ≠ w.heap.size + 1 + 1; omega)).below ClosureOwn_keeps (fun b hb => by have := hb.2; simp; omega) hb3
  have U3_3 : RowD 6 FrameOwn w3 (In (w2.heap.size) w3.heap.size) x.frames b3 := hU3.later FrameOwn_keeps (fun b hb => ⟨by have := hb.1; simp at this; omega, hb.2⟩) (fun _ _ => rfl)
  go_wp2_with fail
  have S3 : Below w.heap.size w (w3.setCell ⟨w.heap.size + 1 + 1, 3, none⟩ (.slice b3 x.frames.length d3)) := (B3.setCell (by show w.heap.size ≤ w.heap.size + 1 + 1; omega) _)
  refine (owStringS_any x.out a_out c_out lo hi _ (by simp; omega) (by omega) (r_out.below StrC_keeps S3 hh)).mono ?_
  rintro e w4 ⟨⟨b4, d4, rfl, hU4⟩, hb4⟩
  obtain ⟨hc4, hf4⟩ := bcell hb4
  have hz4 : w.heap.size + 1 + 1 < w4.heap.size := by have := hb4.size; simp at this; omega
  have hy4 : w.heap.size + 1 < w4.heap.size := by omega
  have hx4 : w.heap.size < w4.heap.size := by omega
  have B4 : Below w.heap.size w w4 := S3.trans (hb4.mono S3.size)
  have le4 : w3.heap.size ≤ w4.heap.size := by have := hb4.size; simpa using this
  have U1_4 : HeapOwn w4 (In (w.heap.size + 3) w1.heap.size) x.heap [.slice z1_a_tables x.heap.tables.length z1_c_tables, .slice z1_a_cells x.heap.cells.length z1_c_cells] := HeapOwn_keeps.below (fun b hb => by have := hb.2; simp; omega) hb4 (HeapOwn_keeps.set _ _ (fun b hb => by have := hb.1; show b ≠ w.heap.size + 1 + 1; omega) U1_3)
  have U2_4 : RowD 2 ClosureOwn w4 (In (w1.heap.size) w2.heap.size) x.funs b2 := (U2_3.set ClosureOwn_keeps _ _ (fun b hb => by have := hb.1; show b ≠ w.heap.size + 1 + 1; omega)).below ClosureOwn_keeps (fun b hb => by have := hb.2; simp; omega) hb4
  have U3_4 : RowD 6 FrameOwn w4 (In (w2.heap.size) w3.heap.size) x.frames b3 := (U3_3.set FrameOwn_keeps _ _ (fun b hb => by have := hb.1; show b ≠ w.heap.size + 1 + 1; omega)).below FrameOwn_keeps (fun b hb => by have := hb.2; simp; omega) hb4
  have U4_4 : RowD 1 StrOwn w4 (In (w3.heap.size) w4.heap.size) x.out b4 := hU4.later StrOwn_keeps (fun b hb => ⟨by have := hb.1; simp at this; omega, hb.2⟩) (fun _ _ => rfl)
  go_wp2_with fail
  have S4 : Below w.heap.size w (((w4.setCell ⟨w.heap.size + 1 + 1, 4, none⟩ (.slice b4 x.out.length d4)).setCell ⟨w.heap.size + 1 + 1, 5, none⟩ (.int .i64 x.steps)).setCell ⟨w.heap.size + 1 + 1, 6, none⟩ (.int .i64 x.kind)) := (((B4.setCell (by show w.heap.size ≤ w.heap.size + 1 + 1; omega) _).setCell (by show w.heap.size ≤ w.heap.size + 1 + 1; omega) _).setCell (by show w.heap.size ≤ w.heap.size + 1 + 1; omega) _)
  refine (toV_any x.value.k x.value.n x.value.s _).mono ?_
  rintro e w5 ⟨rfl, hb5⟩
  obtain ⟨hc5, hf5⟩ := bcell hb5
  have hz5 : w.heap.size + 1 + 1 < w5.heap.size := by have := hb5.size; simp at this; omega
  have hy5 : w.heap.size + 1 < w5.heap.size := by omega
  have hx5 : w.heap.size < w5.heap.size := by omega
  have B5 : Below w.heap.size w w5 := S4.trans (hb5.mono S4.size)
  have le5 : w4.heap.size ≤ w5.heap.size := by have := hb5.size; simpa using this
  have U1_5 : HeapOwn w5 (In (w.heap.size + 3) w1.heap.size) x.heap [.slice z1_a_tables x.heap.tables.length z1_c_tables, .slice z1_a_cells x.heap.cells.length z1_c_cells] := HeapOwn_keeps.below (fun b hb => by have := hb.2; simp; omega) hb5 (HeapOwn_keeps.set _ _ (fun b hb => by have := hb.1; show b ≠ w.heap.size + 1 + 1; omega) (HeapOwn_keeps.set _ _ (fun b hb => by have := hb.1; show b ≠ w.heap.size + 1 + 1; omega) (HeapOwn_keeps.set _ _ (fun b hb => by have := hb.1; show b ≠ w.heap.size + 1 + 1; omega) U1_4)))
  have U2_5 : RowD 2 ClosureOwn w5 (In (w1.heap.size) w2.heap.size) x.funs b2 := (((U2_4.set ClosureOwn_keeps _ _ (fun b hb => by have := hb.1; show b ≠ w.heap.size + 1 + 1; omega)).set ClosureOwn_keeps _ _ (fun b hb => by have := hb.1; show b ≠ w.heap.size + 1 + 1; omega)).set ClosureOwn_keeps _ _ (fun b hb => by have := hb.1; show b ≠ w.heap.size + 1 + 1; omega)).below ClosureOwn_keeps (fun b hb => by have := hb.2; simp; omega) hb5
  have U3_5 : RowD 6 FrameOwn w5 (In (w2.heap.size) w3.heap.size) x.frames b3 := (((U3_4.set FrameOwn_keeps _ _ (fun b hb => by have := hb.1; show b ≠ w.heap.size + 1 + 1; omega)).set FrameOwn_keeps _ _ (fun b hb => by have := hb.1; show b ≠ w.heap.size + 1 + 1; omega)).set FrameOwn_keeps _ _ (fun b hb => by have := hb.1; show b ≠ w.heap.size + 1 + 1; omega)).below FrameOwn_keeps (fun b hb => by have := hb.2; simp; omega) hb5
  have U4_5 : RowD 1 StrOwn w5 (In (w3.heap.size) w4.heap.size) x.out b4 := (((U4_4.set StrOwn_keeps _ _ (fun b hb => by have := hb.1; show b ≠ w.heap.size + 1 + 1; omega)).set StrOwn_keeps _ _ (fun b hb => by have := hb.1; show b ≠ w.heap.size + 1 + 1; omega)).set StrOwn_keeps _ _ (fun b hb => by have := hb.1; show b ≠ w.heap.size + 1 + 1; omega)).below StrOwn_keeps (fun b hb => by have := hb.2; simp; omega) hb5
  go_wp2_with fail
  have hp : ∀ hi, w5.heap.size ≤ hi → Parts (V5 (In (w.heap.size + 3) w1.heap.size) (In (w1.heap.size) w2.heap.size) (In (w2.heap.size) w3.heap.size) (In (w3.heap.size) w4.heap.size) (In w5.heap.size w5.heap.size)) (In w.heap.size hi) := fun hi h => parts5 (by omega) (by omega) (by omega) (by omega) (by omega) (by omega) (by omega) (by omega) (by omega) (by omega) (by omega)
  exact bodyPost_ret (v := .agg #[.slice z1_a_tables x.heap.tables.length z1_c_tables, .slice z1_a_cells x.heap.cells.length z1_c_cells, .slice b2 x.funs.length d2, .slice b3 x.frames.length d3, .slice b4 x.out.length d4, .int .i64 x.steps, .int .i64 x.kind, .int .i64 x.value.k, .int .i64 x.value.n, .string x.value.s]) (by simp [results, Try.results11, go_sem, *]) rfl ⟨⟨[.slice z1_a_tables x.heap.tables.length z1_c_tables, .slice z1_a_cells x.heap.cells.length z1_c_cells, .slice b2 x.funs.length d2, .slice b3 x.frames.length d3, .slice b4 x.out.length d4, .int .i64 x.steps, .int .i64 x.kind, .int .i64 x.value.k, .int .i64 x.value.n, .string x.value.s], rfl, ok, _, hp _ (by simp), z1_a_tables, z1_c_tables, z1_a_cells, z1_c_cells, b2, d2, b3, d3, b4, d4, rfl, by show HeapOwn _ (In (w.heap.size + 3) w1.heap.size) x.heap [.slice z1_a_tables x.heap.tables.length z1_c_tables, .slice z1_a_cells x.heap.cells.length z1_c_cells]; repeat (first | (with_reducible exact U1_5) | (with_reducible refine KeepsD.set HeapOwn_keeps _ _ (fun b hb => In.ne hb (by simp <;> omega)) ?_)), ok.funs, by show RowD 2 ClosureOwn _ (In (w1.heap.size) w2.heap.size) x.funs b2; repeat (first | (with_reducible exact U2_5) | (with_reducible refine RowD.set ClosureOwn_keeps _ _ (fun b hb => In.ne hb (by simp <;> omega)) ?_)), ok.frames, by show RowD 6 FrameOwn _ (In (w2.heap.size) w3.heap.size) x.frames b3; repeat (first | (with_reducible exact U3_5) | (with_reducible refine RowD.set FrameOwn_keeps _ _ (fun b hb => In.ne hb (by simp <;> omega)) ?_)), ok.out, by show RowD 1 StrOwn _ (In (w3.heap.size) w4.heap.size) x.out b4; repeat (first | (with_reducible exact U4_5) | (with_reducible refine RowD.set StrOwn_keeps _ _ (fun b hb => In.ne hb (by simp <;> omega)) ?_))⟩, by repeat (first | (with_reducible exact B5) | (with_reducible refine Below.setCell ?_ (by simp <;> omega) _))⟩
end Go.Proofs.Ytnbkgpmibgdlmaa
