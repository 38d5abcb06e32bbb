/- A tree is copied. -/
import Derived.Test.YtlmmomffanakiaaTreeS
import Derived.Deep.OwnRows
namespace Go.Proofs.Ytlmmomffanakiaa
open Go.RowKit

theorem run_make_n {P : Program} (t e : TypeId) (z : Value) (size bytes : Nat) (ht : P.underlying t = some (.slice e)) (hinfo : (P.info? e).map (fun i => (i.zero, i.size, i.bytes)) = some (some z, size, bytes))
    (kl kc : IntKind) (n : Nat) (hbytes : bytes * n ≤ 281474976710656) (h63 : n ≤ 9223372036854775807) (w : World) :
    (Instr.makeSlice t (.int kl (n : Int)) (.int kc (n : Int))).run P w = .ok (.slice (some ⟨w.heap.size, 0, none⟩) n n) (w.alloc (.cells (madeCells z.cells (n * size)) e)) := by
  obtain ⟨i, hi, hzz⟩ := Option.map_eq_some_iff.1 hinfo
  simp only [Prod.mk.injEq] at hzz
  obtain ⟨hz, hs, hb⟩ := hzz
  have hb' : (i.bytes : Int) * (n : Int) ≤ 281474976710656 := by
    have h : ((i.bytes * n : Nat) : Int) ≤ 281474976710656 := by rw [hb]; omega
    rwa [Int.natCast_mul] at h
  have hr := run_make (P := P) w t e i z ht hi hz kl kc n n (by omega) (Int.le_refl _) hb' (by omega)
  simp only [Int.toNat_natCast, hs] at hr
  exact hr
theorem info_str : (Try.prog.info? 9).map (fun i => (i.zero, i.size, i.bytes)) = some (some (.string ByteArray.empty), 1, 16) := by kernel_rfl
theorem info_nd : (Try.prog.info? 27).map (fun i => (i.zero, i.size, i.bytes)) = some (some (.agg #[.int .i64 0, .string ByteArray.empty, .int .i64 0, .slice none 0 0, .int .i64 0, .slice none 0 0]), 6, 88) := by kernel_rfl

set_option maxRecDepth 100000 in
set_option maxHeartbeats 800000 in
theorem toS_any (ns : List ByteArray) (a : Option Addr) (ca lo hi : Nat) (w : World) (hh : hi ≤ w.heap.size) (hn : ns.length ≤ 1048576) (hS : SAt w lo hi ns a) :
    Calls Try.prog 27 #[.slice a ns.length ca] w fun e w' => (∃ b cb, e = .returned (.slice b ns.length cb) ∧ SAt w' w.heap.size w'.heap.size ns b) ∧ Below w.heap.size w w' := by
  have hmk := run_make_n (P := Try.prog) 24 9 _ _ _ Try.underlying24 info_str .i64 .i64 ns.length (by omega) (by omega)
  go_enter Try.func27, Try.ntmps27
  go_wp2_with fail
  go_loopw [4] (fun x wr => ∃ (i : Nat) (cs : Array Value), x = .int .i64 i ∧ i ≤ ns.length ∧ wr.heap[w.heap.size]? = some (.cells cs 9 (0, 0)) ∧ cs.size = ns.length ∧ (∀ m (h : m < i) (h' : m < ns.length), cs[m]? = some (.string ns[m])) ∧ Below w.heap.size w wr) (fun x _ => ns.length - (intOf x).toNat)
  case atStart => exact ⟨0, _, rfl, Nat.zero_le _, heap_alloc_new w _, by simp [size_madeCells], fun m h => absurd h (Nat.not_lt_zero _), bel_alloc w _⟩
  case round =>
    obtain ⟨i, cs, rfl, hil, hrow, hcs, hall, hbl⟩ := hrel
    by_cases hlt : i < ns.length
    · obtain ⟨hz, g, o, rfl, _, hg, hc⟩ := hS i hlt
      have x0 := (hbl.cell (p := ⟨g, o + i, none⟩) (by show g < _; omega)).trans hc
      have o0 := Array.getElem?_eq_getElem (xs := cs) (i := i) (by omega)
      have f0 := frozen_of_row wr w.heap.size i _ _ hrow
      have e0 := (cell_of_row wr w.heap.size i _ _ (0, 0) hrow).trans o0
      have HROW : Hid (wr.heap[w.heap.size]? = some (.cells cs 9 (0, 0))) := hrow
      clear hrow
      have HS : Hid (∀ m (h : m < i + 1) (h' : m < ns.length), (cs.setIfInBounds i (.string ns[i]))[m]? = some (.string ns[m])) := by
        intro m h h'
        rw [Array.getElem?_setIfInBounds]
        by_cases hm : i = m
        · subst hm; simp; omega
        · rw [if_neg hm]; exact hall m (by omega) h'
      clear hS hc hz hall
      generalize ns[i] = s at *
      go_wp2_with fail
      go_roundw
      case rel => exact ⟨i + 1, _, by go_num, by omega, heap_setCell_same _ _ _ _ _ _ HROW.out, by simpa using hcs, HS.out, hbl.setCell (Nat.le_refl _) _⟩
      case measure => simp [intOf]; omega
    · obtain rfl : i = ns.length := by omega
      have HALL : Hid (∀ m (h : m < ns.length) (h' : m < ns.length), cs[m]? = some (.string ns[m])) := hall
      have hlt2 : w.heap.size < wr.heap.size := (Array.getElem?_eq_some_iff.1 hrow).1
      have HZ : Hid (∀ m (h : m < ns.length), ns[m].size ≤ maxLen) := fun m h => (hS m h).1
      clear hS hall
      go_wp2_with fail
      go_ret
      exact ⟨⟨_, _, rfl, fun m h => ⟨HZ.out m h, w.heap.size, 0, rfl, Nat.le_refl _, hlt2, by rw [cell_of_row _ _ _ _ _ _ hrow, Nat.zero_add]; exact HALL.out m h h⟩⟩, hbl⟩

theorem set6_old (cs : Array Value) (i : Nat) (a0 a1 a2 a3 a4 a5 : Value) (m : Nat) (h : m < 6 * i) :
    ((((((cs.setIfInBounds (6 * i) a0).setIfInBounds (6 * i + 1) a1).setIfInBounds (6 * i + 2) a2).setIfInBounds (6 * i + 3) a3).setIfInBounds (6 * i + 4) a4).setIfInBounds (6 * i + 5) a5)[m]? = cs[m]? := by
  simp only [Array.getElem?_setIfInBounds]
  rw [if_neg (by omega), if_neg (by omega), if_neg (by omega), if_neg (by omega), if_neg (by omega), if_neg (by omega)]
theorem set6_new (cs : Array Value) (i : Nat) (a0 a1 a2 a3 a4 a5 : Value) (j : Nat) (h : j < 6) (hs : 6 * i + 6 ≤ cs.size) :
    ((((((cs.setIfInBounds (6 * i) a0).setIfInBounds (6 * i + 1) a1).setIfInBounds (6 * i + 2) a2).setIfInBounds (6 * i + 3) a3).setIfInBounds (6 * i + 4) a4).setIfInBounds (6 * i + 5) a5)[6 * i + j]? = [a0, a1, a2, a3, a4, a5][j]? := by
  simp only [Array.getElem?_setIfInBounds, Array.size_setIfInBounds]
  match j, h with
  | 0, _ => simp; omega
  | 1, _ => simp; omega
  | 2, _ => simp; omega
  | 3, _ => simp; omega
  | 4, _ => simp; omega
  | 5, _ => simp; omega
theorem gr_trans {a b c : World} {row : Option Nat} (h : a.grownBy b row) (k : b.grownBy c row) : a.grownBy c row :=
  ⟨k.os.trans h.os, k.tape.trans h.tape, k.output.trans h.output, Nat.le_trans h.size k.size, fun i hi hne => (k.block i (Nat.lt_of_lt_of_le hi h.size) hne).trans (h.block i hi hne)⟩
theorem gr_set (w : World) (c j : Nat) (v : Value) : w.grownBy (w.setCell ⟨c, j, none⟩ v) (some c) :=
  ⟨rfl, rfl, rfl, by simp, fun k _ hne => heap_setCell_other w ⟨c, j, none⟩ k v (fun e => hne (by rw [e]))⟩

def ToOk (t : Nd) : Prop := ∀ (lo hi : Nat) (v : List Value) (w : World), NAt w lo hi t v → hi ≤ w.heap.size → wt t ≤ 1048576 →
    Calls Try.prog 14 #[.agg v.toArray] w fun e w' => (∃ v', e = .returned (.agg v'.toArray) ∧ NAt w' w.heap.size w'.heap.size t v') ∧ Below w.heap.size w w'

set_option maxRecDepth 100000 in
set_option maxHeartbeats 800000 in
theorem toL_any (ns : List Nd) (ih : ∀ x ∈ ns, ToOk x) (a : Option Addr) (ca lo hi : Nat) (w : World) (hh : hi ≤ w.heap.size) (hn : wtL ns ≤ 1048576) (hS : KAt w lo hi ns a 0) :
    Calls Try.prog 28 #[.slice a ns.length ca] w fun e w' => (∃ b cb, e = .returned (.slice b ns.length cb) ∧ KAt w' w.heap.size w'.heap.size ns b 0) ∧ Below w.heap.size w w' := by
  have hln := len_wtL ns
  have hmk := run_make_n (P := Try.prog) 25 27 _ _ _ Try.underlying25 info_nd .i64 .i64 ns.length (by omega) (by omega)
  go_enter Try.func28, Try.ntmps28
  go_wp2_with fail
  go_loopw [4] (fun x wr => ∃ (i : Nat) (cs : Array Value), x = .int .i64 i ∧ i ≤ ns.length ∧ wr.heap[w.heap.size]? = some (.cells cs 27 (0, 0)) ∧ cs.size = 6 * ns.length ∧ (∀ m (h : m < i) (h' : m < ns.length), ∃ v, (∀ j, j < 6 → cs[6 * m + j]? = v[j]?) ∧ NAt wr (w.heap.size + 1) wr.heap.size ns[m] v) ∧ Below w.heap.size w wr) (fun x _ => ns.length - (intOf x).toNat)
  case atStart => exact ⟨0, _, rfl, Nat.zero_le _, heap_alloc_new w _, by simp [size_madeCells]; omega, fun m h => absurd h (Nat.not_lt_zero _), bel_alloc w _⟩
  case round =>
    obtain ⟨i, cs, rfl, hil, hrow, hcs, hall, hbl⟩ := hrel
    by_cases hlt : i < ns.length
    · obtain ⟨g, o, v, rfl, _, hg, hc, hN⟩ := hS.get i hlt
      rw [Nat.zero_add] at hc
      have hm := wt_mem (List.getElem_mem hlt)
      have hok := ih _ (List.getElem_mem hlt) lo hi v wr (hN.below hbl hh) (Nat.le_trans hh hbl.size) (by omega)
      have hNi : ∀ (w' : World) (l h : Nat) (u : List Value), NAt w' l h ns[i] u → ∃ k t n ms a' ca' y b' cb' kk, u = [.int .i64 k, .string t, .int .i64 n, .slice a' ms ca', .int .i64 y, .slice b' kk cb'] := by
        intro w' l h u hu
        generalize ns[i] = x at hu
        obtain ⟨k, t, n, ms, y, kk⟩ := x
        simp only [NAt] at hu
        obtain ⟨_, a', ca', b', cb', rfl, _⟩ := hu
        exact ⟨_, _, _, _, _, _, _, _, _, _, rfl⟩
      have HNI : Hid (∀ (w' : World) (l h : Nat) (u : List Value), NAt w' l h ns[i] u → ∃ k t n ms a' ca' y b' cb' kk, u = [.int .i64 k, .string t, .int .i64 n, .slice a' ms ca', .int .i64 y, .slice b' kk cb']) := hNi
      obtain ⟨k, t, n, ms, a', ca', y, b', cb', kk, rfl⟩ := hNi _ _ _ _ hN
      have kg : g < w.heap.size := by omega
      have x0 := (hbl.cell (p := ⟨g, o + 6 * i + 0, none⟩) kg).trans (hc 0 (by decide))
      have x1 := (hbl.cell (p := ⟨g, o + 6 * i + 1, none⟩) kg).trans (hc 1 (by decide))
      have x2 := (hbl.cell (p := ⟨g, o + 6 * i + 2, none⟩) kg).trans (hc 2 (by decide))
      have x3 := (hbl.cell (p := ⟨g, o + 6 * i + 3, none⟩) kg).trans (hc 3 (by decide))
      have x4 := (hbl.cell (p := ⟨g, o + 6 * i + 4, none⟩) kg).trans (hc 4 (by decide))
      have x5 := (hbl.cell (p := ⟨g, o + 6 * i + 5, none⟩) kg).trans (hc 5 (by decide))
      simp only [List.getElem?_cons_zero, List.getElem?_cons_succ, Nat.add_zero] at x0 x1 x2 x3 x4 x5
      have m6 : i * 6 = 6 * i := Nat.mul_comm _ _
      have hwr : w.heap.size < wr.heap.size := (Array.getElem?_eq_some_iff.1 hrow).1
      have HROW : Hid (wr.heap[w.heap.size]? = some (.cells cs 27 (0, 0))) := hrow
      have HALL : Hid (∀ m (h : m < i) (h' : m < ns.length), ∃ v, (∀ j, j < 6 → cs[6 * m + j]? = v[j]?) ∧ NAt wr (w.heap.size + 1) wr.heap.size ns[m] v) := hall
      clear hc ih hS hN hrow hall hNi
      go_wp2_with fail
      refine hok.mono ?_
      rintro e w1 ⟨⟨v1, rfl, hN1⟩, hb1⟩
      have hN2 := hN1
      obtain ⟨k1, t1, n1, ms1, a1, ca1, y1, b1, cb1, kk1, rfl⟩ := HNI.out _ _ _ _ hN1
      have r1 := (hb1.block w.heap.size hwr).trans HROW.out
      have f0 := frozen_of_row w1 w.heap.size (6 * i) _ _ r1
      have e0 := (cell_of_row w1 w.heap.size (6 * i) _ _ (0, 0) r1).trans (Array.getElem?_eq_getElem (xs := cs) (i := 6 * i) (by omega))
      have f1 := frozen_of_row w1 w.heap.size (6 * i + 1) _ _ r1
      have e1 := (cell_of_row w1 w.heap.size (6 * i + 1) _ _ (0, 0) r1).trans (Array.getElem?_eq_getElem (xs := cs) (i := 6 * i + 1) (by omega))
      have f2 := frozen_of_row w1 w.heap.size (6 * i + 2) _ _ r1
      have e2 := (cell_of_row w1 w.heap.size (6 * i + 2) _ _ (0, 0) r1).trans (Array.getElem?_eq_getElem (xs := cs) (i := 6 * i + 2) (by omega))
      have f3 := frozen_of_row w1 w.heap.size (6 * i + 3) _ _ r1
      have e3 := (cell_of_row w1 w.heap.size (6 * i + 3) _ _ (0, 0) r1).trans (Array.getElem?_eq_getElem (xs := cs) (i := 6 * i + 3) (by omega))
      have f4 := frozen_of_row w1 w.heap.size (6 * i + 4) _ _ r1
      have e4 := (cell_of_row w1 w.heap.size (6 * i + 4) _ _ (0, 0) r1).trans (Array.getElem?_eq_getElem (xs := cs) (i := 6 * i + 4) (by omega))
      have f5 := frozen_of_row w1 w.heap.size (6 * i + 5) _ _ r1
      have e5 := (cell_of_row w1 w.heap.size (6 * i + 5) _ _ (0, 0) r1).trans (Array.getElem?_eq_getElem (xs := cs) (i := 6 * i + 5) (by omega))
      have R1 : Hid (w1.heap[w.heap.size]? = some (.cells cs 27 (0, 0))) := r1
      clear r1
      go_wp2_with fail
      go_roundw
      case rel =>
        have G := gr_trans (gr_trans (gr_trans (gr_trans (gr_trans (gr_set w1 w.heap.size (6 * i) (.int .i64 k1)) (gr_set _ w.heap.size (6 * i + 1) (.string t1))) (gr_set _ w.heap.size (6 * i + 2) (.int .i64 n1))) (gr_set _ w.heap.size (6 * i + 3) (.slice a1 ms1 ca1))) (gr_set _ w.heap.size (6 * i + 4) (.int .i64 y1))) (gr_set _ w.heap.size (6 * i + 5) (.slice b1 kk1 cb1))
        have hsz := G.size
        refine ⟨i + 1, _, by go_num, by omega, heap_setCell_same _ _ _ _ _ _ (heap_setCell_same _ _ _ _ _ _ (heap_setCell_same _ _ _ _ _ _ (heap_setCell_same _ _ _ _ _ _ (heap_setCell_same _ _ _ _ _ _ (heap_setCell_same _ _ _ _ _ _ R1.out))))), by simpa using hcs, fun m h h' => ?_, (((((((hbl.trans (hb1.mono hbl.size)).setCell (Nat.le_refl _) _).setCell (Nat.le_refl _) _).setCell (Nat.le_refl _) _).setCell (Nat.le_refl _) _).setCell (Nat.le_refl _) _).setCell (Nat.le_refl _) _)⟩
        have hs1 := hb1.size
        have fr : ∀ p : Addr, w.heap.size + 1 ≤ p.block → p.block < w1.heap.size → _ := fun p h1 h2 => World.cell?_of_block (w := w1) (G.block p.block h2 (fun h => by have := Option.some.inj h; omega))
        by_cases hm' : m = i
        · subst hm'
          exact ⟨_, fun j hj => set6_new cs m _ _ _ _ _ _ j hj (by omega), NAt.later (Nat.le_refl _) hsz fr (hN2.later (by omega) (Nat.le_refl _) fun _ _ _ => rfl)⟩
        · obtain ⟨v, hv, hNv⟩ := HALL.out m (by omega) h'
          refine ⟨v, fun j hj => (set6_old cs i _ _ _ _ _ _ _ (by omega)).trans (hv j hj), NAt.later (Nat.le_refl _) (Nat.le_trans hs1 hsz) (fun p h1 h2 => ?_) hNv⟩
          exact (fr p h1 (by omega)).trans (hb1.cell h2)
      case measure => simp [intOf]; omega
    · obtain rfl : i = ns.length := by omega
      have HALL : Hid (∀ m (h : m < ns.length) (h' : m < ns.length), ∃ v, (∀ j, j < 6 → cs[6 * m + j]? = v[j]?) ∧ NAt wr (w.heap.size + 1) wr.heap.size ns[m] v) := hall
      have hlt2 : w.heap.size < wr.heap.size := (Array.getElem?_eq_some_iff.1 hrow).1
      clear hS hall ih
      go_wp2_with fail
      go_ret
      exact ⟨⟨_, _, rfl, KAt.mk fun m h => by
        obtain ⟨v, hv, hNv⟩ := HALL.out m h h
        exact ⟨w.heap.size, 0, v, rfl, Nat.le_refl _, hlt2, fun j hj => by rw [cell_of_row _ _ _ _ _ _ hrow]; rw [← hv j hj]; congr 1; omega, hNv.later (by omega) (Nat.le_refl _) fun p _ _ => rfl⟩⟩, hbl⟩

set_option maxRecDepth 100000 in
set_option maxHeartbeats 800000 in
theorem to_any (x : Nd) : ToOk x := by
  induction x using nd_ind with
  | h k t n ns l ks ih =>
    intro lo hi v w hN hh h1
    simp only [NAt] at hN
    obtain ⟨hz, a, ca, b, cb, rfl, hn, hk, hS, hK⟩ := hN
    have hwt : wt (.mk k t n ns l ks) = ns.length + wtL ks := by simp [wt]
    go_enter Try.func14, Try.ntmps14
    go_wp2_with fail
    refine (toS_any ns a ca lo hi _ (by simp; omega) (by omega) (hS.below (((bel_alloc w _).trans ((bel_alloc _ _).mono (by simp))).trans ((bel_alloc _ _).mono (by simp; omega))) hh)).mono ?_
    rintro e w1 ⟨⟨b1, cb1, rfl, hS1⟩, hb1⟩
    obtain ⟨hA, hB, hC, hbw, hsz⟩ := three_alloc hb1
    have hcA : ∀ j, w1.cell? ⟨w.heap.size, j, none⟩ = _ := fun j => cell_of_row _ _ j _ _ _ hA
    have hcC : ∀ j, w1.cell? ⟨w.heap.size + 1 + 1, j, none⟩ = _ := fun j => cell_of_row _ _ j _ _ _ hC
    have hfC : ∀ j, w1.frozen? ⟨w.heap.size + 1 + 1, j, none⟩ = _ := fun j => frozen_of_row _ _ j _ _ hC
    have a4 := hcA 4
    have a5 := hcA 5
    have c3 := hcC 3
    have c4 := hcC 4
    have c5 := hcC 5
    have f3 := hfC 3
    have f4 := hfC 4
    have f5 := hfC 5
    simp only [List.getElem?_toArray, List.getElem?_cons_zero, List.getElem?_cons_succ] at a4 a5 c3 c4 c5
    clear hcA hcC hfC
    go_wp2_with fail
    have hbw4 := (hbw.setCell (p := ⟨w.heap.size + 1 + 1, 3, none⟩) (show w.heap.size ≤ w.heap.size + 1 + 1 by omega) (.slice b1 ns.length cb1)).setCell (p := ⟨w.heap.size + 1 + 1, 4, none⟩) (show w.heap.size ≤ w.heap.size + 1 + 1 by omega) (.int .i64 l)
    refine (toL_any ks ih b cb lo hi _ (by have := hbw4.size; omega) (by omega) (hK.below hbw4 hh)).mono ?_
    rintro e w2 ⟨⟨b2, cb2, rfl, hK2⟩, hb2⟩
    have hs4 : ((w1.setCell ⟨w.heap.size + 1 + 1, 3, none⟩ (.slice b1 ns.length cb1)).setCell ⟨w.heap.size + 1 + 1, 4, none⟩ (.int .i64 l)).heap.size = w1.heap.size := by simp
    have hC2 := (hb2.block (w.heap.size + 1 + 1) (by omega)).trans (heap_setCell_same _ _ _ _ _ _ (heap_setCell_same _ _ _ _ _ _ hC))
    have hB2 := (hb2.block (w.heap.size + 1) (by omega)).trans (((gr_trans (gr_set w1 (w.heap.size + 1 + 1) 3 (.slice b1 ns.length cb1)) (gr_set _ (w.heap.size + 1 + 1) 4 (.int .i64 l))).block (w.heap.size + 1) (by omega) (fun h => by have := Option.some.inj h; omega)).trans hB)
    have hcC : ∀ j, w2.cell? ⟨w.heap.size + 1 + 1, j, none⟩ = _ := fun j => cell_of_row _ _ j _ _ _ hC2
    have hfC : ∀ j, w2.frozen? ⟨w.heap.size + 1 + 1, j, none⟩ = _ := fun j => frozen_of_row _ _ j _ _ hC2
    have hcB : ∀ j, w2.cell? ⟨w.heap.size + 1, j, none⟩ = _ := fun j => cell_of_row _ _ j _ _ _ hB2
    have hfB : ∀ j, w2.frozen? ⟨w.heap.size + 1, j, none⟩ = _ := fun j => frozen_of_row _ _ j _ _ hB2
    clear a4 a5 c3 c4 c5 f3 f4 f5
    have c0 := hcC 0
    have c1 := hcC 1
    have c2 := hcC 2
    have c3 := hcC 3
    have c4 := hcC 4
    have c5 := hcC 5
    have f5 := hfC 5
    have d0 := hcB 0
    have d1 := hcB 1
    have d2 := hcB 2
    have d3 := hcB 3
    have d4 := hcB 4
    have d5 := hcB 5
    have g0 := hfB 0
    have g1 := hfB 1
    have g2 := hfB 2
    have g3 := hfB 3
    have g4 := hfB 4
    have g5 := hfB 5
    simp at c0 c1 c2 c3 c4 c5 d0 d1 d2 d3 d4 d5
    have HS1 : Hid (SAt w1 _ w1.heap.size ns b1) := hS1
    have HK2 : Hid (KAt w2 _ w2.heap.size ks b2 0) := hK2
    clear hcB hfB hcC hfC hS1 hK2
    go_wp2_with fail
    refine bodyPost_ret (v := .agg #[.int .i64 k, .string t, .int .i64 n, .slice b1 ns.length cb1, .int .i64 l, .slice b2 ks.length cb2]) (by simp [results, Try.results14, go_sem, *]) rfl ⟨⟨[.int .i64 k, .string t, .int .i64 n, .slice b1 ns.length cb1, .int .i64 l, .slice b2 ks.length cb2], rfl, ?_⟩, ?_⟩
    · simp only [NAt]
      refine ⟨hz, b1, cb1, b2, cb2, rfl, hn, hk, ?_, ?_⟩
      · have hw12 : w1.heap.size ≤ w2.heap.size := by have := hb2.size; omega
        refine HS1.out.later (by simp; omega) (by simp; omega) (fun p h1 h2 => ?_)
        simp at h1
        refine (World.cell?_of_block (w := w1) ?_)
        repeat rw [heap_setCell_other _ _ _ _ (by show p.block ≠ w.heap.size + 1; omega)]
        rw [heap_setCell_other _ _ _ _ (by show p.block ≠ w.heap.size + 1 + 1; omega)]
        rw [hb2.block _ (by omega)]
        repeat rw [heap_setCell_other _ _ _ _ (by show p.block ≠ w.heap.size + 1 + 1; omega)]
      · refine HK2.out.later (by simp; omega) (by simp) (fun p h1 h2 => ?_)
        simp at h1
        refine (World.cell?_of_block (w := w2) ?_)
        repeat rw [heap_setCell_other _ _ _ _ (by show p.block ≠ w.heap.size + 1; omega)]
        rw [heap_setCell_other _ _ _ _ (by show p.block ≠ w.heap.size + 1 + 1; omega)]
    · have hb' : Below w.heap.size w w2 := hbw4.trans (hb2.mono hbw4.size)
      have q1 : w.heap.size ≤ w.heap.size + 1 := by omega
      have q2 : w.heap.size ≤ w.heap.size + 1 + 1 := by omega
      exact Below.setCell (Below.setCell (Below.setCell (Below.setCell (Below.setCell (Below.setCell (Below.setCell hb' q2 _) q1 _) q1 _) q1 _) q1 _) q1 _) q1 _
end Go.Proofs.Ytlmmomffanakiaa
