/- A heap is copied. -/
import Derived.Test.YtbdpfmkpjeleaaaHeapS
import Derived.Test.YtbdpfmkpjeleaaaValR
import Derived.Deep.OwnRows
namespace Go.Proofs.Ytbdpfmkpjeleaaa
open Go.RowKit

theorem run_makeV_n {P : Program} (t e : TypeId) (z : Value) (size bytes : Nat) (ht : P.underlying t = some (.slice e)) (hinfo : (P.info? e).map (fun i => (i.zero, i.size, i.bytes)) = some (some z, size, bytes))
    (kl kc : IntKind) (n : Nat) (hbytes : bytes * n ≤ 281474976710656) (h63 : n ≤ 9223372036854775807) (w : World) :
    (Instr.makeSlice t (.int kl (n : Int)) (.int kc (n : Int))).run P w = .ok (.slice (some ⟨w.heap.size, 0, none⟩) n n) (w.alloc (.cells (madeCells z.cells (n * size)) e)) := by
  obtain ⟨i, hi, hzz⟩ := Option.map_eq_some_iff.1 hinfo
  simp only [Prod.mk.injEq] at hzz
  obtain ⟨hz, hs, hb⟩ := hzz
  have hb' : (i.bytes : Int) * (n : Int) ≤ 281474976710656 := by
    have h : ((i.bytes * n : Nat) : Int) ≤ 281474976710656 := by rw [hb]; omega
    rwa [Int.natCast_mul] at h
  have hr := run_make (P := P) w t e i z ht hi hz kl kc n n (by omega) (Int.le_refl _) hb' (by omega)
  simp only [Int.toNat_natCast, hs] at hr
  exact hr
theorem info_val : (Try.prog.info? 32).map (fun i => (i.zero, i.size, i.bytes)) = some (some (.agg #[.int .i64 0, .int .i64 0, .string ByteArray.empty]), 3, 32) := by kernel_rfl
theorem info_pr : (Try.prog.info? 61).map (fun i => (i.zero, i.size, i.bytes)) = some (some (.agg #[.int .i64 0, .int .i64 0, .string ByteArray.empty, .int .i64 0, .int .i64 0, .string ByteArray.empty]), 6, 64) := by kernel_rfl
theorem info_prs : (Try.prog.info? 59).map (fun i => (i.zero, i.size, i.bytes)) = some (some (.slice none 0 0), 1, 24) := by kernel_rfl
theorem set3v_old (cs : Array Value) (i : Nat) (a0 a1 a2 : Value) (m : Nat) (h : m < 3 * i) : (((cs.setIfInBounds (3 * i) a0).setIfInBounds (3 * i + 1) a1).setIfInBounds (3 * i + 2) a2)[m]? = cs[m]? := by
  simp only [Array.getElem?_setIfInBounds]
  rw [if_neg (by omega), if_neg (by omega), if_neg (by omega)]
theorem set3v_new (cs : Array Value) (i : Nat) (a0 a1 a2 : Value) (j : Nat) (h : j < 3) (hs : 3 * i + 3 ≤ cs.size) : (((cs.setIfInBounds (3 * i) a0).setIfInBounds (3 * i + 1) a1).setIfInBounds (3 * i + 2) a2)[3 * i + j]? = [a0, a1, a2][j]? := by
  simp only [Array.getElem?_setIfInBounds, Array.size_setIfInBounds]
  match j, h with
  | 0, _ => simp; omega
  | 1, _ => simp; omega
  | 2, _ => simp; omega
theorem set6v_old (cs : Array Value) (i : Nat) (a0 a1 a2 a3 a4 a5 : Value) (m : Nat) (h : m < 6 * i) : ((((((cs.setIfInBounds (6 * i) a0).setIfInBounds (6 * i + 1) a1).setIfInBounds (6 * i + 2) a2).setIfInBounds (6 * i + 3) a3).setIfInBounds (6 * i + 4) a4).setIfInBounds (6 * i + 5) a5)[m]? = cs[m]? := by
  simp only [Array.getElem?_setIfInBounds]
  rw [if_neg (by omega), if_neg (by omega), if_neg (by omega), if_neg (by omega), if_neg (by omega), if_neg (by omega)]
theorem set6v_new (cs : Array Value) (i : Nat) (a0 a1 a2 a3 a4 a5 : Value) (j : Nat) (h : j < 6) (hs : 6 * i + 6 ≤ cs.size) : ((((((cs.setIfInBounds (6 * i) a0).setIfInBounds (6 * i + 1) a1).setIfInBounds (6 * i + 2) a2).setIfInBounds (6 * i + 3) a3).setIfInBounds (6 * i + 4) a4).setIfInBounds (6 * i + 5) a5)[6 * i + j]? = [a0, a1, a2, a3, a4, a5][j]? := by
  simp only [Array.getElem?_setIfInBounds, Array.size_setIfInBounds]
  match j, h with
  | 0, _ => simp; omega
  | 1, _ => simp; omega
  | 2, _ => simp; omega
  | 3, _ => simp; omega
  | 4, _ => simp; omega
  | 5, _ => simp; omega
set_option maxRecDepth 100000 in
set_option maxHeartbeats 800000 in
theorem toP_any (p : Pr) (w : World) :
    Calls Try.prog 84 #[.agg #[.int .i64 p.key.k, .int .i64 p.key.n, .string p.key.s, .int .i64 p.val.k, .int .i64 p.val.n, .string p.val.s]] w fun e w' => e = .returned (.agg #[.int .i64 p.key.k, .int .i64 p.key.n, .string p.key.s, .int .i64 p.val.k, .int .i64 p.val.n, .string p.val.s]) ∧ Below w.heap.size w w' := by
  obtain ⟨⟨k, n, s⟩, ⟨k2, n2, s2⟩⟩ := p
  dsimp only
  go_enter Try.func84, Try.ntmps84
  go_wp2_with fail
  obtain ⟨_, rB, _, _, _⟩ := rows3 w (Obj.cells #[.int .i64 k, .int .i64 n, .string s, .int .i64 k2, .int .i64 n2, .string s2] 131) (Obj.cells #[.int .i64 0, .int .i64 0, .string ⟨#[]⟩, .int .i64 0, .int .i64 0, .string ⟨#[]⟩] 61) (Obj.cells #[.int .i64 0, .int .i64 0, .string ⟨#[]⟩, .int .i64 0, .int .i64 0, .string ⟨#[]⟩] 61)
  refine (toV_any k n s _).mono ?_
  rintro e w1 ⟨rfl, hb1⟩
  have rB1 := (hb1.block (w.heap.size + 1) (by simp <;> omega)).trans rB
  clear rB
  obtain ⟨hc1, hf1⟩ := bcell hb1
  have hz1 : w.heap.size + 1 + 1 < w1.heap.size := by have := hb1.size; simp at this; omega
  have hz1' : w.heap.size < w1.heap.size := by omega
  have B1 : Below w.heap.size w w1 := Below.trans (by repeat (first | exact Below.refl _ _ | refine Below.alloc ?_ (by simp <;> omega) _)) (hb1.mono (by simp <;> omega))
  go_wp2_with fail
  refine (toV_any k2 n2 s2 _).mono ?_
  rintro e w2 ⟨rfl, hb2⟩
  obtain ⟨hc2, hf2⟩ := bcell hb2
  have hz2 : w.heap.size + 1 + 1 < w2.heap.size := by have := hb2.size; simp at this; omega
  have rB2 := (hb2.block (w.heap.size + 1) (by simp; omega)).trans ((heap_setCell_other _ _ _ _ (by simp)).trans ((heap_setCell_other _ _ _ _ (by simp)).trans ((heap_setCell_other _ _ _ _ (by simp)).trans rB1)))
  clear rB1
  have f0 := frozen_of_row _ _ 0 _ _ rB2
  have e0 := cell_of_row _ _ 0 _ _ _ rB2
  have f1 := frozen_of_row _ _ 1 _ _ rB2
  have e1 := cell_of_row _ _ 1 _ _ _ rB2
  have f2 := frozen_of_row _ _ 2 _ _ rB2
  have e2 := cell_of_row _ _ 2 _ _ _ rB2
  have f3 := frozen_of_row _ _ 3 _ _ rB2
  have e3 := cell_of_row _ _ 3 _ _ _ rB2
  have f4 := frozen_of_row _ _ 4 _ _ rB2
  have e4 := cell_of_row _ _ 4 _ _ _ rB2
  have f5 := frozen_of_row _ _ 5 _ _ rB2
  have e5 := cell_of_row _ _ 5 _ _ _ rB2
  simp only [List.getElem?_toArray, List.getElem?_cons_zero, List.getElem?_cons_succ] at e0 e1 e2 e3 e4 e5
  have B2 : Below w.heap.size w w2 := Below.trans (by repeat (first | exact B1 | refine Below.setCell ?_ (by simp <;> omega) _)) (hb2.mono (by simp; omega))
  go_wp2_with fail
  exact bodyPost_ret (v := .agg #[.int .i64 k, .int .i64 n, .string s, .int .i64 k2, .int .i64 n2, .string s2]) (by simp [results, Try.results84, go_sem, *]) rfl ⟨rfl, by repeat (first | (with_reducible exact B2) | (with_reducible refine Below.setCell ?_ (by simp <;> omega) _))⟩
set_option maxRecDepth 100000 in
set_option maxHeartbeats 800000 in
theorem toPS_any (vs : List Pr) (a : Option Addr) (ca lo hi : Nat) (w : World) (hh : hi ≤ w.heap.size) (hn : vs.length ≤ 1048576) (hS : PAt w lo hi vs a) :
    Calls Try.prog 70 #[.slice a vs.length ca] w fun e w' => (∃ b cb, e = .returned (.slice b vs.length cb) ∧ PAt w' w.heap.size w'.heap.size vs b) ∧ Below w.heap.size w w' := by
  have hmk := run_makeV_n (P := Try.prog) 59 61 _ _ _ Try.underlying59 info_pr .i64 .i64 vs.length (by omega) (by omega)
  go_enter Try.func70, Try.ntmps70
  go_wp2_with fail
  go_loopw [4] (fun x wr => ∃ (i : Nat) (cs : Array Value), x = .int .i64 i ∧ i ≤ vs.length ∧ wr.heap[w.heap.size]? = some (.cells cs 61 (0, 0)) ∧ cs.size = 6 * vs.length ∧ (∀ m (h : m < i) (h' : m < vs.length) (j : Nat), j < 6 → cs[6 * m + j]? = vs[m].cs[j]?) ∧ Below w.heap.size w wr) (fun x _ => vs.length - (intOf x).toNat)
  case atStart => exact ⟨0, _, rfl, Nat.zero_le _, heap_alloc_new w _, by simp [size_madeCells]; omega, fun m h => absurd h (Nat.not_lt_zero _), bel_alloc w _⟩
  case round =>
    obtain ⟨i, cs, rfl, hil, hrow, hcs, hall, hbl⟩ := hrel
    by_cases hlt : i < vs.length
    · obtain ⟨hok, g, o, rfl, _, hg, hc⟩ := hS i hlt
      have x0 := (hbl.cell (p := ⟨g, o + 6 * i + 0, none⟩) (by show g < _; omega)).trans (hc 0 (by decide))
      have x1 := (hbl.cell (p := ⟨g, o + 6 * i + 1, none⟩) (by show g < _; omega)).trans (hc 1 (by decide))
      have x2 := (hbl.cell (p := ⟨g, o + 6 * i + 2, none⟩) (by show g < _; omega)).trans (hc 2 (by decide))
      have x3 := (hbl.cell (p := ⟨g, o + 6 * i + 3, none⟩) (by show g < _; omega)).trans (hc 3 (by decide))
      have x4 := (hbl.cell (p := ⟨g, o + 6 * i + 4, none⟩) (by show g < _; omega)).trans (hc 4 (by decide))
      have x5 := (hbl.cell (p := ⟨g, o + 6 * i + 5, none⟩) (by show g < _; omega)).trans (hc 5 (by decide))
      simp only [Pr.cs, List.getElem?_cons_zero, List.getElem?_cons_succ, Nat.add_zero] at x0 x1 x2 x3 x4 x5
      have mc : i * 6 = 6 * i := Nat.mul_comm _ _
      have hwr : w.heap.size < wr.heap.size := (Array.getElem?_eq_some_iff.1 hrow).1
      have HROW : Hid (wr.heap[w.heap.size]? = some (.cells cs 61 (0, 0))) := hrow
      have HALL : Hid (∀ m (h : m < i) (h' : m < vs.length) (j : Nat), j < 6 → cs[6 * m + j]? = vs[m].cs[j]?) := hall
      obtain ⟨p, hp⟩ : ∃ p, p = vs[i] := ⟨_, rfl⟩
      rw [← hp] at x0 x1 x2 x3 x4 x5 hok
      have HP : Hid (p = vs[i]) := hp
      clear hc hS hrow hall hp
      go_wp2_with fail
      refine (toP_any p wr).mono ?_
      rintro e w1 ⟨rfl, hb1⟩
      have r1 := (hb1.block w.heap.size hwr).trans HROW.out
      have f0 := frozen_of_row w1 w.heap.size (6 * i) _ _ r1
      have e0 := (cell_of_row w1 w.heap.size (6 * i) _ _ (0, 0) r1).trans (Array.getElem?_eq_getElem (xs := cs) (i := 6 * i) (by omega))
      have f1 := frozen_of_row w1 w.heap.size (6 * i + 1) _ _ r1
      have e1 := (cell_of_row w1 w.heap.size (6 * i + 1) _ _ (0, 0) r1).trans (Array.getElem?_eq_getElem (xs := cs) (i := 6 * i + 1) (by omega))
      have f2 := frozen_of_row w1 w.heap.size (6 * i + 2) _ _ r1
      have e2 := (cell_of_row w1 w.heap.size (6 * i + 2) _ _ (0, 0) r1).trans (Array.getElem?_eq_getElem (xs := cs) (i := 6 * i + 2) (by omega))
      have f3 := frozen_of_row w1 w.heap.size (6 * i + 3) _ _ r1
      have e3 := (cell_of_row w1 w.heap.size (6 * i + 3) _ _ (0, 0) r1).trans (Array.getElem?_eq_getElem (xs := cs) (i := 6 * i + 3) (by omega))
      have f4 := frozen_of_row w1 w.heap.size (6 * i + 4) _ _ r1
      have e4 := (cell_of_row w1 w.heap.size (6 * i + 4) _ _ (0, 0) r1).trans (Array.getElem?_eq_getElem (xs := cs) (i := 6 * i + 4) (by omega))
      have f5 := frozen_of_row w1 w.heap.size (6 * i + 5) _ _ r1
      have e5 := (cell_of_row w1 w.heap.size (6 * i + 5) _ _ (0, 0) r1).trans (Array.getElem?_eq_getElem (xs := cs) (i := 6 * i + 5) (by omega))
      have R1 : Hid (w1.heap[w.heap.size]? = some (.cells cs 61 (0, 0))) := r1
      clear r1
      go_wp2_with fail
      go_roundw
      case rel =>
        refine ⟨i + 1, _, by go_num, by omega, (heap_setCell_same _ _ _ _ _ _ (heap_setCell_same _ _ _ _ _ _ (heap_setCell_same _ _ _ _ _ _ (heap_setCell_same _ _ _ _ _ _ (heap_setCell_same _ _ _ _ _ _ (heap_setCell_same _ _ _ _ _ _ R1.out)))))), by simpa using hcs, fun m h h' j hj => ?_, (((((((hbl.trans (hb1.mono hbl.size)).setCell (Nat.le_refl _) _).setCell (Nat.le_refl _) _).setCell (Nat.le_refl _) _).setCell (Nat.le_refl _) _).setCell (Nat.le_refl _) _).setCell (Nat.le_refl _) _)⟩
        by_cases hm' : m = i
        · subst hm'
          rw [set6v_new cs m _ _ _ _ _ _ j hj (by omega), ← HP.out]
          rfl
        · rw [set6v_old cs i _ _ _ _ _ _ _ (by omega)]
          exact HALL.out m (by omega) h' j hj
      case measure => simp [intOf]; omega
    · obtain rfl : i = vs.length := by omega
      have HALL : Hid (∀ m (h : m < vs.length) (h' : m < vs.length) (j : Nat), j < 6 → cs[6 * m + j]? = vs[m].cs[j]?) := hall
      have hlt2 : w.heap.size < wr.heap.size := (Array.getElem?_eq_some_iff.1 hrow).1
      have HZ : Hid (∀ m (h : m < vs.length), vs[m].Ok) := fun m h => (hS m h).1
      clear hS hall
      go_wp2_with fail
      go_ret
      exact ⟨⟨_, _, rfl, fun m h => ⟨HZ.out m h, w.heap.size, 0, rfl, Nat.le_refl _, hlt2, fun j hj => by rw [cell_of_row _ _ _ _ _ _ hrow]; rw [← HALL.out m h h j hj]; congr 1; omega⟩⟩, hbl⟩
set_option maxRecDepth 100000 in
set_option maxHeartbeats 800000 in
theorem toVS_any (vs : List Vl) (a : Option Addr) (ca lo hi : Nat) (w : World) (hh : hi ≤ w.heap.size) (hn : vs.length ≤ 1048576) (hS : VAt w lo hi vs a) :
    Calls Try.prog 33 #[.slice a vs.length ca] w fun e w' => (∃ b cb, e = .returned (.slice b vs.length cb) ∧ VAt w' w.heap.size w'.heap.size vs b) ∧ Below w.heap.size w w' := by
  have hmk := run_makeV_n (P := Try.prog) 28 32 _ _ _ Try.underlying28 info_val .i64 .i64 vs.length (by omega) (by omega)
  go_enter Try.func33, Try.ntmps33
  go_wp2_with fail
  go_loopw [4] (fun x wr => ∃ (i : Nat) (cs : Array Value), x = .int .i64 i ∧ i ≤ vs.length ∧ wr.heap[w.heap.size]? = some (.cells cs 32 (0, 0)) ∧ cs.size = 3 * vs.length ∧ (∀ m (h : m < i) (h' : m < vs.length) (j : Nat), j < 3 → cs[3 * m + j]? = vs[m].cs[j]?) ∧ Below w.heap.size w wr) (fun x _ => vs.length - (intOf x).toNat)
  case atStart => exact ⟨0, _, rfl, Nat.zero_le _, heap_alloc_new w _, by simp [size_madeCells]; omega, fun m h => absurd h (Nat.not_lt_zero _), bel_alloc w _⟩
  case round =>
    obtain ⟨i, cs, rfl, hil, hrow, hcs, hall, hbl⟩ := hrel
    by_cases hlt : i < vs.length
    · obtain ⟨hok, g, o, rfl, _, hg, hc⟩ := hS i hlt
      have x0 := (hbl.cell (p := ⟨g, o + 3 * i + 0, none⟩) (by show g < _; omega)).trans (hc 0 (by decide))
      have x1 := (hbl.cell (p := ⟨g, o + 3 * i + 1, none⟩) (by show g < _; omega)).trans (hc 1 (by decide))
      have x2 := (hbl.cell (p := ⟨g, o + 3 * i + 2, none⟩) (by show g < _; omega)).trans (hc 2 (by decide))
      simp only [Vl.cs, List.getElem?_cons_zero, List.getElem?_cons_succ, Nat.add_zero] at x0 x1 x2
      have mc : i * 3 = 3 * i := Nat.mul_comm _ _
      have hwr : w.heap.size < wr.heap.size := (Array.getElem?_eq_some_iff.1 hrow).1
      have HROW : Hid (wr.heap[w.heap.size]? = some (.cells cs 32 (0, 0))) := hrow
      have HALL : Hid (∀ m (h : m < i) (h' : m < vs.length) (j : Nat), j < 3 → cs[3 * m + j]? = vs[m].cs[j]?) := hall
      obtain ⟨p, hp⟩ : ∃ p, p = vs[i] := ⟨_, rfl⟩
      rw [← hp] at x0 x1 x2 hok
      have HP : Hid (p = vs[i]) := hp
      clear hc hS hrow hall hp
      go_wp2_with fail
      refine (toV_any p.k p.n p.s wr).mono ?_
      rintro e w1 ⟨rfl, hb1⟩
      have r1 := (hb1.block w.heap.size hwr).trans HROW.out
      have f0 := frozen_of_row w1 w.heap.size (3 * i) _ _ r1
      have e0 := (cell_of_row w1 w.heap.size (3 * i) _ _ (0, 0) r1).trans (Array.getElem?_eq_getElem (xs := cs) (i := 3 * i) (by omega))
      have f1 := frozen_of_row w1 w.heap.size (3 * i + 1) _ _ r1
      have e1 := (cell_of_row w1 w.heap.size (3 * i + 1) _ _ (0, 0) r1).trans (Array.getElem?_eq_getElem (xs := cs) (i := 3 * i + 1) (by omega))
      have f2 := frozen_of_row w1 w.heap.size (3 * i + 2) _ _ r1
      have e2 := (cell_of_row w1 w.heap.size (3 * i + 2) _ _ (0, 0) r1).trans (Array.getElem?_eq_getElem (xs := cs) (i := 3 * i + 2) (by omega))
      have R1 : Hid (w1.heap[w.heap.size]? = some (.cells cs 32 (0, 0))) := r1
      clear r1
      go_wp2_with fail
      go_roundw
      case rel =>
        refine ⟨i + 1, _, by go_num, by omega, (heap_setCell_same _ _ _ _ _ _ (heap_setCell_same _ _ _ _ _ _ (heap_setCell_same _ _ _ _ _ _ R1.out))), by simpa using hcs, fun m h h' j hj => ?_, ((((hbl.trans (hb1.mono hbl.size)).setCell (Nat.le_refl _) _).setCell (Nat.le_refl _) _).setCell (Nat.le_refl _) _)⟩
        by_cases hm' : m = i
        · subst hm'
          rw [set3v_new cs m _ _ _ j hj (by omega), ← HP.out]
          rfl
        · rw [set3v_old cs i _ _ _ _ (by omega)]
          exact HALL.out m (by omega) h' j hj
      case measure => simp [intOf]; omega
    · obtain rfl : i = vs.length := by omega
      have HALL : Hid (∀ m (h : m < vs.length) (h' : m < vs.length) (j : Nat), j < 3 → cs[3 * m + j]? = vs[m].cs[j]?) := hall
      have hlt2 : w.heap.size < wr.heap.size := (Array.getElem?_eq_some_iff.1 hrow).1
      have HZ : Hid (∀ m (h : m < vs.length), vs[m].Ok) := fun m h => (hS m h).1
      clear hS hall
      go_wp2_with fail
      go_ret
      exact ⟨⟨_, _, rfl, fun m h => ⟨HZ.out m h, w.heap.size, 0, rfl, Nat.le_refl _, hlt2, fun j hj => by rw [cell_of_row _ _ _ _ _ _ hrow]; rw [← HALL.out m h h j hj]; congr 1; omega⟩⟩, hbl⟩

set_option maxRecDepth 100000 in
set_option maxHeartbeats 800000 in
theorem toT_any (ts : List (List Pr)) (a : Option Addr) (ca lo hi : Nat) (w : World) (hh : hi ≤ w.heap.size) (hn : wtT ts ≤ 1048576) (hS : TAt w lo hi ts a) :
    Calls Try.prog 32 #[.slice a ts.length ca] w fun e w' => (∃ b cb, e = .returned (.slice b ts.length cb) ∧ TAt w' w.heap.size w'.heap.size ts b) ∧ Below w.heap.size w w' := by
  have hln := len_wtT ts
  have hmk := run_makeV_n (P := Try.prog) 27 59 _ _ _ Try.underlying27 info_prs .i64 .i64 ts.length (by omega) (by omega)
  go_enter Try.func32, Try.ntmps32
  go_wp2_with fail
  go_loopw [4] (fun x wr => ∃ (i : Nat) (cs : Array Value), x = .int .i64 i ∧ i ≤ ts.length ∧ wr.heap[w.heap.size]? = some (.cells cs 59 (0, 0)) ∧ cs.size = ts.length ∧ (∀ m (h : m < i) (h' : m < ts.length), ∃ b cb, cs[m]? = some (.slice b ts[m].length cb) ∧ PAt wr (w.heap.size + 1) wr.heap.size ts[m] b) ∧ Below w.heap.size w wr) (fun x _ => ts.length - (intOf x).toNat)
  case atStart => exact ⟨0, _, rfl, Nat.zero_le _, heap_alloc_new w _, by simp [size_madeCells], fun m h => absurd h (Nat.not_lt_zero _), bel_alloc w _⟩
  case round =>
    obtain ⟨i, cs, rfl, hil, hrow, hcs, hall, hbl⟩ := hrel
    by_cases hlt : i < ts.length
    · obtain ⟨hl, g, o, b0, cb0, rfl, _, hg, hc, hP⟩ := hS i hlt
      have x0 := (hbl.cell (p := ⟨g, o + i, none⟩) (by show g < _; omega)).trans hc
      have hP' := hP.below hbl hh
      have hwm := wtT_mem ts i hlt
      have hwr : w.heap.size < wr.heap.size := (Array.getElem?_eq_some_iff.1 hrow).1
      have HROW : Hid (wr.heap[w.heap.size]? = some (.cells cs 59 (0, 0))) := hrow
      have HALL : Hid (∀ m (h : m < i) (h' : m < ts.length), ∃ b cb, cs[m]? = some (.slice b ts[m].length cb) ∧ PAt wr (w.heap.size + 1) wr.heap.size ts[m] b) := hall
      obtain ⟨t, ht⟩ : ∃ t, t = ts[i] := ⟨_, rfl⟩
      rw [← ht] at x0 hP' hwm hl
      have HT : Hid (t = ts[i]) := ht
      clear hc hS hrow hall hP ht
      go_wp2_with fail
      refine (toPS_any t b0 cb0 lo hi wr (Nat.le_trans hh hbl.size) (by omega) hP').mono ?_
      rintro e w1 ⟨⟨b1, cb1, rfl, hP1⟩, hb1⟩
      have r1 := (hb1.block w.heap.size hwr).trans HROW.out
      have f0 := frozen_of_row w1 w.heap.size i _ _ r1
      have e0 := (cell_of_row w1 w.heap.size i _ _ (0, 0) r1).trans (Array.getElem?_eq_getElem (xs := cs) (i := i) (by omega))
      have R1 : Hid (w1.heap[w.heap.size]? = some (.cells cs 59 (0, 0))) := r1
      clear r1
      go_wp2_with fail
      go_roundw
      case rel =>
        have hs1 := hb1.size
        refine ⟨i + 1, _, by go_num, by omega, heap_setCell_same _ _ _ _ _ _ R1.out, by simpa using hcs, fun m h h' => ?_, (hbl.trans (hb1.mono hbl.size)).setCell (Nat.le_refl _) _⟩
        have fr : ∀ p : Addr, w.heap.size + 1 ≤ p.block → p.block < w1.heap.size → (w1.setCell ⟨w.heap.size, i, none⟩ (.slice b1 t.length cb1)).cell? p = w1.cell? p := fun p h1 h2 => World.cell?_of_block (w := w1) (heap_setCell_other _ _ _ _ (by show p.block ≠ w.heap.size; omega))
        by_cases hm' : m = i
        · subst hm'
          rw [← HT.out]
          exact ⟨b1, cb1, by rw [Array.getElem?_setIfInBounds, if_pos rfl, if_pos (by omega)], PAt.later (Nat.le_refl _) (by simp) fr (hP1.later (by omega) (Nat.le_refl _) fun _ _ _ => rfl)⟩
        · obtain ⟨b, cb, h1, h2⟩ := HALL.out m (by omega) h'
          exact ⟨b, cb, by rw [Array.getElem?_setIfInBounds, if_neg (by omega)]; exact h1, PAt.later (Nat.le_refl _) (by simp; omega) (fun p h1 h2 => (fr p h1 (by omega)).trans (hb1.cell h2)) h2⟩
      case measure => simp [intOf]; omega
    · obtain rfl : i = ts.length := by omega
      have hlt2 : w.heap.size < wr.heap.size := (Array.getElem?_eq_some_iff.1 hrow).1
      have HZ : Hid (∀ m (h : m < ts.length), ts[m].length ≤ maxLen) := fun m h => (hS m h).1
      have HALL : Hid (∀ m (h : m < ts.length) (h' : m < ts.length), ∃ b cb, cs[m]? = some (.slice b ts[m].length cb) ∧ PAt wr (w.heap.size + 1) wr.heap.size ts[m] b) := hall
      clear hS hall
      go_wp2_with fail
      go_ret
      exact ⟨⟨_, _, rfl, fun m h => by
        obtain ⟨b, cb, h1, h2⟩ := HALL.out m h h
        exact ⟨HZ.out m h, w.heap.size, 0, b, cb, rfl, Nat.le_refl _, hlt2, by rw [cell_of_row _ _ _ _ _ _ hrow, Nat.zero_add]; exact h1, h2.later (by omega) (Nat.le_refl _) fun _ _ _ => rfl⟩⟩, hbl⟩

set_option maxRecDepth 100000 in
set_option maxHeartbeats 800000 in
theorem toH_any (h : Hp) (v : List Value) (lo hi : Nat) (w : World) (hN : HAt w lo hi h v) (hh : hi ≤ w.heap.size) (h1 : h.wt ≤ 1048576) :
    Calls Try.prog 8 #[.agg v.toArray] w fun e w' => (∃ b cb d cd, e = .returned (.agg #[.slice b h.ts.length cb, .slice d h.vs.length cd]) ∧ TAt w' w.heap.size w'.heap.size h.ts b ∧ VAt w' w.heap.size w'.heap.size h.vs d) ∧ Below w.heap.size w w' := by
  obtain ⟨a, ca, b, cb, rfl, h2, h3, hT, hV⟩ := hN
  unfold Hp.wt at h1
  obtain ⟨rA, rB, rC, hs0, B0⟩ := rows3 w (Obj.cells #[.slice a h.ts.length ca, .slice b h.vs.length cb] 25) (Obj.cells #[.slice none 0 0, .slice none 0 0] 30) (Obj.cells #[.slice none 0 0, .slice none 0 0] 30)
  go_enter Try.func8, Try.ntmps8
  go_wp2_with fail
  refine (toT_any h.ts a ca lo hi _ (by rw [hs0]; omega) (by omega) (hT.below B0 hh)).mono ?_
  rintro e w1 ⟨⟨b1, cb1, rfl, hT1⟩, hb1⟩
  rw [hs0] at hT1
  have hs1 := hb1.size
  rw [hs0] at hs1
  have B1 := B0.trans (hb1.mono (by rw [hs0]; omega))
  have rA1 := (hb1.block w.heap.size (by rw [hs0]; omega)).trans rA
  have rB1 := (hb1.block (w.heap.size + 1) (by rw [hs0]; omega)).trans rB
  have rC1 := (hb1.block (w.heap.size + 1 + 1) (by rw [hs0]; omega)).trans rC
  clear rA rB rC hb1 B0 hs0
  have a0 := cell_of_row _ _ 0 _ _ _ rA1
  have a1 := cell_of_row _ _ 1 _ _ _ rA1
  have c0 := cell_of_row _ _ 0 _ _ _ rC1
  have c1 := cell_of_row _ _ 1 _ _ _ rC1
  have f0 := frozen_of_row _ _ 0 _ _ rC1
  have f1 := frozen_of_row _ _ 1 _ _ rC1
  simp only [List.getElem?_toArray, List.getElem?_cons_zero, List.getElem?_cons_succ] at a0 a1 c0 c1
  go_wp2_with fail
  have hV1 : VAt (w1.setCell ⟨w.heap.size + 1 + 1, 0, none⟩ (.slice b1 h.ts.length cb1)) lo hi h.vs b := (hV.below B1 hh).later (Nat.le_refl _) (Nat.le_refl _) fun p h1 h2 => World.cell?_of_block (w := w1) (heap_setCell_other _ _ _ _ (by show p.block ≠ w.heap.size + 1 + 1; omega))
  refine (toVS_any h.vs b cb lo hi _ (by simp; omega) (by omega) hV1).mono ?_
  rintro e w2 ⟨⟨b2, cb2, rfl, hV2⟩, hb2⟩
  have hs2 := hb2.size
  simp at hs2
  rw [show (w1.setCell ⟨w.heap.size + 1 + 1, 0, none⟩ (.slice b1 h.ts.length cb1)).heap.size = w1.heap.size by simp] at hV2
  have rB2 := (hb2.block (w.heap.size + 1) (by simp; omega)).trans ((heap_setCell_other _ _ _ _ (by simp)).trans rB1)
  have rC2 := (hb2.block (w.heap.size + 1 + 1) (by simp; omega)).trans (heap_setCell_same _ _ 0 _ _ (.slice b1 h.ts.length cb1) rC1)
  have B2 : Below w.heap.size w w2 := (B1.setCell (show w.heap.size ≤ w.heap.size + 1 + 1 by omega) _).trans (hb2.mono (by simp; omega))
  have fr2 : ∀ p : Addr, p.block ≠ w.heap.size + 1 + 1 → p.block < w1.heap.size → w2.cell? p = w1.cell? p := fun p h1 h2 => (hb2.cell (by simpa using h2)).trans (World.cell?_of_block (w := w1) (heap_setCell_other _ _ _ _ (by show p.block ≠ w.heap.size + 1 + 1; exact h1)))
  have FR2 : Hid (∀ p : Addr, p.block ≠ w.heap.size + 1 + 1 → p.block < w1.heap.size → w2.cell? p = w1.cell? p) := fr2
  have HT1 : Hid (TAt w1 (w.heap.size + 3) w1.heap.size h.ts b1) := hT1
  have HV2 : Hid (VAt w2 w1.heap.size w2.heap.size h.vs b2) := hV2
  clear rA1 rB1 rC1 a0 a1 c0 c1 f0 f1 hb2 fr2 hT1 hV2 hV hT hV1
  have c0 := cell_of_row _ _ 0 _ _ _ rC2
  have c1 := cell_of_row _ _ 1 _ _ _ rC2
  have f0 := frozen_of_row _ _ 0 _ _ rC2
  have f1 := frozen_of_row _ _ 1 _ _ rC2
  have d0 := cell_of_row _ _ 0 _ _ _ rB2
  have d1 := cell_of_row _ _ 1 _ _ _ rB2
  have g0 := frozen_of_row _ _ 0 _ _ rB2
  have g1 := frozen_of_row _ _ 1 _ _ rB2
  simp at c0 c1 d0 d1
  go_wp2_with fail
  refine bodyPost_ret (v := .agg #[.slice b1 h.ts.length cb1, .slice b2 h.vs.length cb2]) (by simp [results, Try.results8, go_sem, *]) rfl ⟨⟨b1, cb1, b2, cb2, rfl, ?_, ?_⟩, ?_⟩
  · refine HT1.out.later (by omega) (by simp; omega) fun p h1 h2 => ?_
    refine (World.cell?_of_block (w := w2) ?_).trans (FR2.out p (by omega) h2)
    rw [heap_setCell_other _ _ _ _ (by show p.block ≠ w.heap.size + 1; omega), heap_setCell_other _ _ _ _ (by show p.block ≠ w.heap.size + 1; omega), heap_setCell_other _ _ _ _ (by show p.block ≠ w.heap.size + 1 + 1; omega)]
  · refine HV2.out.later (by omega) (by simp) fun p h1 h2 => World.cell?_of_block (w := w2) ?_
    rw [heap_setCell_other _ _ _ _ (by show p.block ≠ w.heap.size + 1; omega), heap_setCell_other _ _ _ _ (by show p.block ≠ w.heap.size + 1; omega), heap_setCell_other _ _ _ _ (by show p.block ≠ w.heap.size + 1 + 1; omega)]
  · repeat (first | (with_reducible exact B2) | (with_reducible refine Below.setCell ?_ (by simp <;> omega) _))
end Go.Proofs.Ytbdpfmkpjeleaaa
