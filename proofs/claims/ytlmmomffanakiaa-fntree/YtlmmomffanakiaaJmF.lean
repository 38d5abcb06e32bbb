/- How many kids a node wants; the words of a tree as one text, where the words are given. -/
import Derived.Test.YtlmmomffanakiaaJmD
import Derived.Test.YtlmmomffanakiaaJmE
namespace Go.Proofs.Ytlmmomffanakiaa
open Go.RowKit

theorem ws_cell {w : World} {B : Nat} {a : Option Addr} {n c : Nat} {ss : List ByteArray} (h : Ws w B (.slice a n c) ss) (i : Nat) (hi : i < ss.length) : ∃ g, a = some ⟨g, 0, none⟩ ∧ w.cell? ⟨g, i, none⟩ = some (.string ss[i]) := by
  obtain ⟨g, cap, e, _⟩ := own_some h (by omega)
  simp only [Value.slice.injEq] at e
  obtain ⟨rfl, _, _⟩ := e
  have := World.ownsRow.cells h rfl i (.string ss[i]) (by simp [hi])
  have hadd : (⟨g, 0, none⟩ : Addr).add i = ⟨g, i, none⟩ := by unfold Addr.add; split <;> simp_all
  rw [hadd] at this
  exact ⟨g, rfl, this⟩
/-- How many kids a node of a kind has at least. -/
def lst (k : Int) : Nat := if k = 2 ∨ k = 8 ∨ k = 16 ∨ k = 18 ∨ k = 20 then 1 else if k = 3 ∨ k = 4 ∨ k = 7 ∨ k = 17 ∨ k = 19 then 2 else 0

set_option maxRecDepth 100000 in
set_option maxHeartbeats 1600000 in
theorem least_any (k : Int) (w : World) : Calls Try.prog 58 #[.int .i64 k] w fun e w' => e = .returned (.int .i64 (lst k : Nat)) ∧ w' = w := by
  by_cases h : k = 2 ∨ k = 8 ∨ k = 16 ∨ k = 18 ∨ k = 20 ∨ k = 3 ∨ k = 4 ∨ k = 7 ∨ k = 17 ∨ k = 19
  · rcases h with rfl | rfl | rfl | rfl | rfl | rfl | rfl | rfl | rfl | rfl
    all_goals
      go_enter Try.func58, Try.ntmps58
      go_wp2_with fail
      go_ret
      exact ⟨rfl, rfl⟩
  · simp only [not_or] at h
    obtain ⟨h1, h2, h3, h4, h5, h6, h7, h8, h9, h10⟩ := h
    have hk : lst k = 0 := by simp [lst, h1, h2, h3, h4, h5, h6, h7, h8, h9, h10]
    rw [hk]
    clear hk
    go_enter Try.func58, Try.ntmps58
    go_wp2_with fail
    go_ret
    exact ⟨rfl, rfl⟩

theorem szW (l : Array UInt8) : (⟨l⟩ : ByteArray).size = l.size := rfl
/-- The words of a tree. -/
def WdOk (m : Nat) : Prop := ∀ (t : Nd) (lo hi : Nat) (v : List Value) (z : Int) (w : World), z = (m : Int) + 30 → Flat m t → Sm t → NAt w lo hi t v → hi ≤ w.heap.size → wt t ≤ 8000 →
    Calls Try.prog 47 #[.agg v.toArray, .int .i64 z] w fun e w' => ∃ u ss, e = .returned u ∧ Ws w' w.heap.size u ss ∧ ss.length ≤ 20 + 24 * wt t ∧ (∀ s ∈ ss, s.size ≤ 9000) ∧ Below w.heap.size w w'

set_option maxRecDepth 100000 in
set_option maxHeartbeats 1600000 in
theorem plain_any (H : WdOk 30) (t : Nd) (lo hi : Nat) (v : List Value) (w : World) (hF : Flat 30 t) (hS : Sm t) (hN : NAt w lo hi t v) (hh : hi ≤ w.heap.size) (hw : wt t ≤ 8000) :
    Calls Try.prog 35 #[.agg v.toArray] w fun e w' => ∃ u ss, e = .returned u ∧ Ws w' w.heap.size u ss ∧ ss.length ≤ 200000 ∧ (∀ s ∈ ss, s.size ≤ 9000) ∧ Below w.heap.size w w' := by
  have hok := fun (W : World) (hb : Below w.heap.size w W) => H t lo hi v 60 W rfl hF hS (hN.below hb hh) (by have := hb.size; omega) hw
  obtain ⟨k1, t1, n1, m1, a1, ca1, y1, b1, cb1, q1, rfl⟩ := nd_cells hN
  clear hN H
  go_enter Try.func35, Try.ntmps35
  go_wp2_with fail
  refine (hok _ (bel_alloc _ _)).mono ?_
  rintro e w1 ⟨u, ss, rfl, hW, hl, hs, hb1⟩
  obtain ⟨a, c, rfl⟩ := ws_len hW
  have hW' : Ws w1 w.heap.size (.slice a ss.length c) ss := ⟨hW.1, hW.2.imp id fun ⟨g, cap, cur, e1, e2, e3⟩ => ⟨g, cap, cur, e1, by rw [size_alloc] at e2; omega, e3⟩⟩
  go_wp2_with fail
  go_ret
  exact ⟨_, ss, rfl, hW', by omega, hs, (bel_alloc w _).trans (hb1.mono (by simp))⟩

set_option maxRecDepth 100000 in
set_option maxHeartbeats 1600000 in
theorem show_any (H : WdOk 30) (t : Nd) (lo hi : Nat) (v : List Value) (w : World) (hF : Flat 30 t) (hS : Sm t) (hN : NAt w lo hi t v) (hh : hi ≤ w.heap.size) (hw : wt t ≤ 8000) :
    Calls Try.prog 20 #[.agg v.toArray] w fun e w' => ∃ s : ByteArray, e = .returned (.string s) ∧ s.size ≤ 2000000000 ∧ Below w.heap.size w w' := by
  have hok := fun (W : World) (hb : Below w.heap.size w W) => plain_any H t lo hi v W hF hS (hN.below hb hh) (by have := hb.size; omega) hw
  obtain ⟨k1, t1, n1, m1, a1, ca1, y1, b1, cb1, q1, rfl⟩ := nd_cells hN
  clear hN H
  go_enter Try.func20, Try.ntmps20
  go_wp2_with fail
  refine (hok _ (bel_alloc _ _)).mono ?_
  rintro e w1 ⟨u, ss, rfl, hW, hl, hs, hb1⟩
  have hB : Below w.heap.size w w1 := (bel_alloc w _).trans (hb1.mono (by simp))
  obtain ⟨a, c, rfl⟩ := ws_len hW
  have hc := fun i hi => ws_cell hW i hi
  clear hW hb1 hok
  go_wp2_with fail
  go_loopw [3, 5] (fun x y wr => ∃ (u : ByteArray) (i : Nat), x = .string u ∧ y = .int .i64 i ∧ i ≤ ss.length ∧ u.size ≤ 9001 * i ∧ wr = w1) (fun _ y _ => ss.length - (intOf y).toNat)
  case atStart => exact ⟨⟨#[]⟩, 0, rfl, rfl, Nat.zero_le _, by simp [ByteArray.size], rfl⟩
  case round =>
    obtain ⟨u, i, rfl, rfl, hi, hu, rfl⟩ := hrel
    by_cases hlt : i < ss.length
    · obtain ⟨g, rfl, hx⟩ := hc i hlt
      have hsi := hs _ (List.getElem_mem hlt)
      clear hc
      generalize ss[i] = s at *
      by_cases h0 : 0 < i
      · have h0' : ((0 : Int) < (i : Int)) := by omega
        go_wp2_with fail
        go_roundw
        case rel => exact ⟨_, i + 1, rfl, by go_num, by omega, by simp only [ByteArray.size_append, szW, List.size_toArray, List.length_cons, List.length_nil]; omega, trivial⟩
        case measure => simp [intOf]; omega
      · have h0' : ¬ ((0 : Int) < (i : Int)) := by omega
        go_wp2_with fail
        go_roundw
        case rel => exact ⟨_, i + 1, rfl, by go_num, by omega, by simp only [ByteArray.size_append]; omega, trivial⟩
        case measure => simp [intOf]; omega
    · obtain rfl : i = ss.length := by omega
      go_wp2_with fail
      go_ret
      exact ⟨u, rfl, by omega, hB⟩
end Go.Proofs.Ytlmmomffanakiaa
namespace Go.Proofs.Ytlmmomffanakiaa
open Go.RowKit

/-- A call answers a row of at most n texts of its own. -/
def Says (w : World) (n : Nat) (e : Ending) (w' : World) : Prop :=
  ∃ u ss, e = .returned u ∧ Ws w' w.heap.size u ss ∧ ss.length ≤ n ∧ (∀ s ∈ ss, s.size ≤ 9000) ∧ Below w.heap.size w w'
theorem ws_base {w : World} {B B' : Nat} {u : Value} {ss : List ByteArray} (h : Ws w B u ss) (hb : B' ≤ B) : Ws w B' u ss :=
  ⟨h.1, h.2.imp id fun ⟨g, cap, cur, e1, e2, e3⟩ => ⟨g, cap, cur, e1, Nat.le_trans hb e2, e3⟩⟩

/-- A row more: w is the function's own beginning. -/
theorem ws_app2 {w wr w2 : World} {v : Value} {ss s2 : List ByteArray} {n m : Nat} {b2 : Option Addr} {c2 : Nat} (hn : ss.length = n) (hm : s2.length = m) (hW : Ws wr w.heap.size v ss) (hB : Below w.heap.size w wr) (own : w2.ownsRow w.heap.size 9 1 (.slice b2 (n + m) c2) (n + m) (ss.map Value.string ++ s2.map Value.string)) (gr : wr.grownBy w2 v.ownBlock) : Ws w2 w.heap.size (.slice b2 (n + m) c2) (ss ++ s2) ∧ Below w.heap.size w w2 :=
  ⟨ws_app (by rw [hn, hm]) own, ws_grow (w0 := w) hB gr (fun k hk => (World.ownsRow.lt hW k hk).1)⟩
/-- What a kid's words give, the node's own bound one more. -/
theorem says_kid {m : Nat} (H : WdOk m) {k n y z : Int} {tx : ByteArray} {ns : List ByteArray} {ks : List Nd} {b : Option Addr} {lo hi : Nat} {w : World} (hz : z = (m : Int) + 31) (hF : Flat (m + 1) (.mk k tx n ns y ks)) (hS : Sm (.mk k tx n ns y ks)) (hK : KAt w lo hi ks b 0) (hh : hi ≤ w.heap.size) (hw : wtL ks ≤ 8000) (i : Nat) (hi' : i < ks.length) :
    ∃ (g o : Nat) (v : List Value), b = some ⟨g, o, none⟩ ∧ g < hi ∧ v.length = 6 ∧ (∀ W, Below w.heap.size w W → ∀ j, j < 6 → W.cell? ⟨g, o + 6 * i + j, none⟩ = v[j]?) ∧ ∀ W, Below w.heap.size w W → Calls Try.prog 47 #[.agg v.toArray, .int .i64 (z - 1)] W fun e w' => Says W (20 + 24 * wt ks[i]) e w' := by
  obtain ⟨g, o, v, e, _, hg, hc, hN⟩ := hK.get i hi'
  rw [Nat.zero_add] at hc
  have hm := wt_mem (List.getElem_mem hi')
  simp only [Flat] at hF
  simp only [Sm] at hS
  have h6 : v.length = 6 := by
    obtain ⟨k, t, n, ms, a', ca', y, b', cb', kk, rfl⟩ := nd_cells hN
    rfl
  refine ⟨g, o, v, e, hg, h6, fun W hb j hj => (hb.cell (p := ⟨g, o + 6 * i + j, none⟩) (by show g < _; omega)).trans (hc j hj), fun W hb => ?_⟩
  exact H ks[i] lo hi v (z - 1) W (by omega) (hF _ (List.getElem_mem hi')) ((SmL_iff ks).1 hS.2.2 _ (List.getElem_mem hi')) (hN.below hb hh) (by have := hb.size; omega) (by omega)

set_option maxRecDepth 100000 in
set_option maxHeartbeats 1600000 in
theorem base_any (n : Nat) (hn : n ≤ 900000) (k x y z : Int) (t : ByteArray) (a b : Option Addr) (m ca q cb : Nat) (w : World)
    (hok : ∀ W : World, Below w.heap.size w W → Calls Try.prog 47 #[.agg #[.int .i64 k, .string t, .int .i64 x, .slice a m ca, .int .i64 y, .slice b q cb], .int .i64 z] W fun e w' => Says W n e w') :
    Calls Try.prog 71 #[.agg #[.int .i64 k, .string t, .int .i64 x, .slice a m ca, .int .i64 y, .slice b q cb], .int .i64 z] w fun e w' => Says w (n + 2) e w' := by
  have B0 := bel_alloc w (.cells #[.int .i64 k, .string t, .int .i64 x, .slice a m ca, .int .i64 y, .slice b q cb] 27)
  have r0 := heap_alloc_new w (.cells #[.int .i64 k, .string t, .int .i64 x, .slice a m ca, .int .i64 y, .slice b q cb] 27)
  have s0 : w.heap.size < (w.alloc (.cells #[.int .i64 k, .string t, .int .i64 x, .slice a m ca, .int .i64 y, .slice b q cb] 27)).heap.size := by simp
  have EN := hok _ B0
  clear hok
  by_cases h : k = 14 ∨ k = 17 ∨ k = 18 ∨ k = 19 ∨ k = 20
  · rcases h with rfl | rfl | rfl | rfl | rfl
    all_goals
      go_enter Try.func71, Try.ntmps71
      go_wp2_with fail
      refine EN.mono ?_
      rintro e w1 ⟨u, ss, rfl, hW, hl, hs, hb1⟩
      have r1 := (hb1.block w.heap.size s0).trans r0
      have c0 := cell_of_row _ _ 0 _ _ _ r1
      simp only [List.getElem?_toArray, List.getElem?_cons_zero] at c0
      go_wp2_with fail
      go_ret
      exact ⟨u, ss, rfl, ws_base hW (Nat.le_of_lt s0), by omega, hs, B0.trans (hb1.mono (Nat.le_of_lt s0))⟩
  · simp only [not_or] at h
    obtain ⟨h1, h2, h3, h4, h5⟩ := h
    have e1 : (k == 14) = false := beq_eq_false_iff_ne.2 h1
    have e2 : (k == 17) = false := beq_eq_false_iff_ne.2 h2
    have e3 : (k == 18) = false := beq_eq_false_iff_ne.2 h3
    have e4 : (k == 19) = false := beq_eq_false_iff_ne.2 h4
    have e5 : (k == 20) = false := beq_eq_false_iff_ne.2 h5
    clear h1 h2 h3 h4 h5
    go_enter Try.func71, Try.ntmps71
    go_wp2_with fail
    refine EN.mono ?_
    rintro e w1 ⟨u, ss, rfl, hW, hl, hs, hb1⟩
    have r1 := (hb1.block w.heap.size s0).trans r0
    have c0 := cell_of_row _ _ 0 _ _ _ r1
    simp only [List.getElem?_toArray, List.getElem?_cons_zero] at c0
    go_wp2_with fail
    refine (wrap_any u ss _ w1 hW (by omega)).mono ?_
    rintro e w2 ⟨u2, rfl, hW2, hb2⟩
    have B1 := B0.trans (hb1.mono (Nat.le_of_lt s0))
    go_wp2_with fail
    go_ret
    exact ⟨u2, _, rfl, ws_base hW2 B1.size, by simp; omega, fun s hm => by
      simp only [List.mem_append, List.mem_singleton] at hm
      rcases hm with (rfl | hm) | rfl
      · decide
      · exact hs s hm
      · decide, B1.trans (hb2.mono B1.size)⟩
end Go.Proofs.Ytlmmomffanakiaa
namespace Go.Proofs.Ytlmmomffanakiaa
open Go.RowKit

/-- A row of k texts of one's own, k no more than n. -/
def Rw (w wr : World) (v : Value) (k n : Nat) : Prop :=
  ∃ ss : List ByteArray, ss.length = k ∧ Ws wr w.heap.size v ss ∧ k ≤ n ∧ (∀ s ∈ ss, s.size ≤ 9000) ∧ Below w.heap.size w wr
/-- m texts that lie at a place, in no block below B. -/
def Nw (B : Nat) (W : World) (b : Option Addr) (m q : Nat) : Prop :=
  ∃ ss : List ByteArray, ss.length = m ∧ (∀ j (hj : j < ss.length), ∃ g, b = some ⟨g, 0, none⟩ ∧ B ≤ g ∧ g < W.heap.size ∧ W.cell? ⟨g, j, none⟩ = some (.string ss[j])) ∧ m ≤ q ∧ ∀ s ∈ ss, s.size ≤ 9000
theorem Rw.bel {w wr : World} {v : Value} {k n : Nat} (h : Rw w wr v k n) : Below w.heap.size w wr := by
  obtain ⟨_, _, _, _, _, h⟩ := h
  exact h
theorem Rw.below {w wr w2 : World} {v : Value} {k n : Nat} (h : Rw w wr v k n) (hb : Below wr.heap.size wr w2) : Rw w w2 v k n := by
  obtain ⟨ss, hk, hW, hn, hs, hB⟩ := h
  exact ⟨ss, hk, ws_below hW hb, hn, hs, hB.trans (hb.mono hB.size)⟩
theorem Rw.alloc {w wr : World} {v : Value} {k n : Nat} (h : Rw w wr v k n) (o : Obj) : Rw w (wr.alloc o) v k n := h.below (bel_alloc wr o)
theorem Rw.drew {w wr : World} {v : Value} {k n : Nat} (h : Rw w wr v k n) : Rw w wr.drew v k n := h.below ((Below.refl _ _).drew)
theorem Rw.more {w wr : World} {v : Value} {k n n' : Nat} (h : Rw w wr v k n) (hn : n ≤ n') : Rw w wr v k n' := by
  obtain ⟨ss, hk, hW, h1, hs, hB⟩ := h
  exact ⟨ss, hk, hW, Nat.le_trans h1 hn, hs, hB⟩
theorem Rw.says {w w0 w' : World} {v : Value} {k n : Nat} (h : Rw w0 w' v k n) (hb : Below w.heap.size w w0) : Says w n (.returned v) w' := by
  obtain ⟨ss, rfl, hW, h1, hs, hB⟩ := h
  exact ⟨v, ss, rfl, ws_base hW hb.size, h1, hs, hb.trans (hB.mono hb.size)⟩
theorem Nw.below {B : Nat} {W W2 : World} {b : Option Addr} {m q : Nat} (h : Nw B W b m q) (hb : Below W.heap.size W W2) : Nw B W2 b m q := by
  obtain ⟨ss, hm, hc, hq, hs⟩ := h
  refine ⟨ss, hm, fun j hj => ?_, hq, hs⟩
  obtain ⟨g, e, h1, h2, h3⟩ := hc j hj
  exact ⟨g, e, h1, Nat.lt_of_lt_of_le h2 hb.size, (hb.cell (p := ⟨g, j, none⟩) h2).trans h3⟩
theorem Nw.alloc {B : Nat} {W : World} {b : Option Addr} {m q : Nat} (h : Nw B W b m q) (o : Obj) : Nw B (W.alloc o) b m q := h.below (bel_alloc W o)
theorem Nw.drew {B : Nat} {W : World} {b : Option Addr} {m q : Nat} (h : Nw B W b m q) : Nw B W.drew b m q := h.below ((Below.refl _ _).drew)
theorem Nw.grown {w W0 W w' : World} {v : Value} {k n B m q : Nat} {b : Option Addr} (hN : Nw B W b m q) (hg : W.grownBy w' v.ownBlock) (hR : Rw w W0 v k n) (hB : W0.heap.size ≤ B) : Nw B w' b m q := by
  obtain ⟨ss, hm, hc, hq, hs⟩ := hN
  obtain ⟨s0, _, hW, _⟩ := hR
  refine ⟨ss, hm, fun j hj => ?_, hq, hs⟩
  obtain ⟨g, e, h1, h2, h3⟩ := hc j hj
  exact ⟨g, e, h1, Nat.lt_of_lt_of_le h2 hg.size, (World.cell?_of_block (w := W) (hg.block g h2 (fun e => by have := (World.ownsRow.lt hW g e.symm).2; omega))).trans h3⟩
theorem nw_lit1 {B : Nat} (W : World) (s : ByteArray) (hs : s.size ≤ 9000) (hB : B ≤ W.heap.size) : Nw B (W.alloc (.cells #[.string s] 9)) (some ⟨W.heap.size, 0, none⟩) 1 1 := by
  refine ⟨[s], rfl, fun j hj => ?_, Nat.le_refl _, fun t ht => by rw [List.mem_singleton.1 ht]; exact hs⟩
  obtain rfl : j = 0 := by simp at hj; omega
  refine ⟨_, rfl, hB, by simp, ?_⟩
  rw [cell_of_row _ _ 0 _ _ _ (heap_alloc_new W _)]
  rfl
theorem rw_lit {w W : World} (ss : List ByteArray) (hB : Below w.heap.size w W) (hl : ss.length ≤ 1000) (hs : ∀ s ∈ ss, s.size ≤ 9000) : Rw w (W.alloc (.cells (ss.map Value.string).toArray 9)) (.slice (some ⟨W.heap.size, 0, none⟩) ss.length ss.length) ss.length ss.length :=
  ⟨ss, rfl, ws_lit W w.heap.size ss hB.size hl, Nat.le_refl _, hs, hB.trans ((bel_alloc W _).mono hB.size)⟩
theorem rw_lit1 {w W : World} (s : ByteArray) (hB : Below w.heap.size w W) (hs : s.size ≤ 9000) : Rw w (W.alloc (.cells #[.string s] 9)) (.slice (some ⟨W.heap.size, 0, none⟩) 1 1) 1 1 :=
  rw_lit [s] hB (by simp) (fun t ht => by rw [List.mem_singleton.1 ht]; exact hs)
theorem rw_lit2 {w W : World} (s t : ByteArray) (hB : Below w.heap.size w W) (hs : s.size ≤ 9000) (ht : t.size ≤ 9000) : Rw w (W.alloc (.cells #[.string s, .string t] 9)) (.slice (some ⟨W.heap.size, 0, none⟩) 2 2) 2 2 :=
  rw_lit [s, t] hB (by simp) (fun u hu => by simp at hu; rcases hu with rfl | rfl <;> assumption)
theorem rw_lit3 {w W : World} (s t x : ByteArray) (hB : Below w.heap.size w W) (hs : s.size ≤ 9000) (ht : t.size ≤ 9000) (hx : x.size ≤ 9000) : Rw w (W.alloc (.cells #[.string s, .string t, .string x] 9)) (.slice (some ⟨W.heap.size, 0, none⟩) 3 3) 3 3 :=
  rw_lit [s, t, x] hB (by simp) (fun u hu => by simp at hu; rcases hu with rfl | rfl | rfl <;> assumption)
theorem rw_lit0 {w W : World} (hB : Below w.heap.size w W) : Rw w (W.alloc (.cells #[] 9)) (.slice (some ⟨W.heap.size, 0, none⟩) 0 0) 0 0 :=
  rw_lit [] hB (by decide) (fun u hu => absurd hu (by simp))
/-- What a call answers: a row of one's own, and texts that can be appended. -/
theorem says_row {w W W' : World} {n : Nat} {e : Ending} (hB : Below w.heap.size w W) (h : Says W n e W') : ∃ a k c, e = .returned (.slice a k c) ∧ Rw w W' (.slice a k c) k n ∧ Nw W.heap.size W' a k n ∧ Below W.heap.size W W' := by
  obtain ⟨u, ss, rfl, hW, hl, hs, hb⟩ := h
  obtain ⟨a, c, rfl⟩ := ws_len hW
  refine ⟨a, ss.length, c, rfl, ⟨ss, rfl, ws_base hW hB.size, hl, hs, hB.trans (hb.mono hB.size)⟩, ⟨ss, rfl, fun j hj => ?_, hl, hs⟩, hb⟩
  obtain ⟨g, rfl, hc⟩ := ws_cell hW j hj
  obtain ⟨h1, h2⟩ := World.ownsRow.lt hW g rfl
  exact ⟨g, rfl, h1, h2, hc⟩

theorem wpList_rw {ops : Array Oper} {rest : List Oper} {o : Oper} {a : Act} {Q : Exit → Act → World → Prop} (hgd : o.guard = none) (s x : Operand)
    (ho : o.op = .call { callee := .builtin .append, args := #[s, x], argTypes := #[24, 24] })
    {w W : World} {v : Value} {k n : Nat} (hs : a.eval s = v) (hR : Rw w W v k n)
    (b : Option Addr) (m c : Nat) {B q : Nat} (hx : a.eval x = .slice b m c) (hN : Nw B W b m q) (hl : n + q ≤ 1000000)
    (h : ∀ b' cap w', Rw w w' (.slice b' (k + m) cap) (k + m) (n + q) → W.grownBy w' v.ownBlock → wpList Try.prog ops Q rest (a.put o.dst (.slice b' (k + m) cap)) w') : wpList Try.prog ops Q (o :: rest) a W := by
  obtain ⟨i0, hi0, hz0, hz1, hz2⟩ := info_parts info_str
  obtain ⟨ss, hk, hW, hn, hsz, hB⟩ := hR
  obtain ⟨s2, hm, hc, hq, hs2⟩ := hN
  refine wpList_append_any W hgd s x 24 ho w.heap.size 9 i0 (.string ByteArray.empty) 1 16 Try.underlying24 hi0 hz0 hz1 hz2 rfl (by decide) v k (ss.map Value.string) hs (by rw [← hk]; exact hW) b m c (s2.map Value.string) hx (by simp [hm]) (fun j u hu => ?_) (ws_one _) (by unfold maxLen; omega) (by omega) hB.size W.heap.size rfl ?_
  · have hj : j < s2.length := by
      have := (List.getElem?_eq_some_iff.1 hu).1
      simpa using this
    obtain ⟨g, e, _, _, h3⟩ := hc j hj
    have hadd : (⟨g, 0, none⟩ : Addr).add j = ⟨g, j, none⟩ := by unfold Addr.add; split <;> simp_all
    refine ⟨_, e, ?_⟩
    rw [hadd, h3]
    simp [List.getElem?_map, List.getElem?_eq_getElem hj] at hu
    rw [hu]
  · intro b' c' w' own gr _
    exact h b' c' w' ⟨ss ++ s2, by simp [hk, hm], ws_app (by rw [hk, hm]) own, by omega, fun t ht => (List.mem_append.1 ht).elim (hsz t) (hs2 t), ws_grow (w0 := w) hB gr (fun k hk => (World.ownsRow.lt hW k hk).1)⟩ gr
theorem step_rw {ops : Array Oper} {o : Oper} {a : Act} {K : Act → World → Prop} {Q : Exit → Act → World → Prop} {E : Prop} (hgd : o.guard = none) (s x : Operand)
    (ho : o.op = .call { callee := .builtin .append, args := #[s, x], argTypes := #[24, 24] })
    {w W : World} {v : Value} {k n : Nat} (hs : a.eval s = v) (hR : Rw w W v k n)
    (b : Option Addr) (m c : Nat) {B q : Nat} (hx : a.eval x = .slice b m c) (hN : Nw B W b m q) (hl : n + q ≤ 1000000)
    (h : ∀ b' cap w', Rw w w' (.slice b' (k + m) cap) (k + m) (n + q) → W.grownBy w' v.ownBlock → K (a.put o.dst (.slice b' (k + m) cap)) w') :
    if Region.wanted o (yielded ops a.tmps) = true then Oper.wp Try.prog o a W K Q else E := by
  obtain ⟨i0, hi0, hz0, hz1, hz2⟩ := info_parts info_str
  obtain ⟨ss, hk, hW, hn, hsz, hB⟩ := hR
  obtain ⟨s2, hm, hc, hq, hs2⟩ := hN
  refine step_append_any W hgd s x 24 ho w.heap.size 9 i0 (.string ByteArray.empty) 1 16 Try.underlying24 hi0 hz0 hz1 hz2 rfl (by decide) v k (ss.map Value.string) hs (by rw [← hk]; exact hW) b m c (s2.map Value.string) hx (by simp [hm]) (fun j u hu => ?_) (ws_one _) (by unfold maxLen; omega) (by omega) hB.size W.heap.size rfl ?_
  · have hj : j < s2.length := by
      have := (List.getElem?_eq_some_iff.1 hu).1
      simpa using this
    obtain ⟨g, e, _, _, h3⟩ := hc j hj
    have hadd : (⟨g, 0, none⟩ : Addr).add j = ⟨g, j, none⟩ := by unfold Addr.add; split <;> simp_all
    refine ⟨_, e, ?_⟩
    rw [hadd, h3]
    simp [List.getElem?_map, List.getElem?_eq_getElem hj] at hu
    rw [hu]
  · intro b' c' w' own gr _
    exact h b' c' w' ⟨ss ++ s2, by simp [hk, hm], ws_app (by rw [hk, hm]) own, by omega, fun t ht => (List.mem_append.1 ht).elim (hsz t) (hs2 t), ws_grow (w0 := w) hB gr (fun k hk => (World.ownsRow.lt hW k hk).1)⟩ gr
theorem rw_wrap {w W : World} {a : Option Addr} {k c n : Nat} (h : Rw w W (.slice a k c) k n) (hn : n ≤ 1000000) :
    Calls Try.prog 72 #[.slice a k c] W fun e w' => ∃ a' k' c', e = .returned (.slice a' k' c') ∧ Rw w w' (.slice a' k' c') k' (n + 2) := by
  obtain ⟨ss, hk, hW, h1, hs, hB⟩ := h
  refine (wrap_any _ ss _ W hW (by omega)).mono ?_
  rintro e w2 ⟨u2, rfl, hW2, hb2⟩
  obtain ⟨a', c', rfl⟩ := ws_len hW2
  refine ⟨a', _, c', rfl, _, rfl, ws_base hW2 hB.size, by simp; omega, fun s hm => ?_, hB.trans (hb2.mono hB.size)⟩
  simp only [List.mem_append, List.mem_singleton] at hm
  rcases hm with (rfl | hm) | rfl
  · decide
  · exact hs s hm
  · decide
end Go.Proofs.Ytlmmomffanakiaa
