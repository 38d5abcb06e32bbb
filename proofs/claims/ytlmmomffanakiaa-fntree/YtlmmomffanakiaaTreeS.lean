/- How great a tree is, as the law reckons it. -/
import Derived.Test.YtlmmomffanakiaaTreeP
namespace Go.Proofs.Ytlmmomffanakiaa
open Go.RowKit

set_option maxRecDepth 100000 in
set_option maxHeartbeats 800000 in
theorem szS_any (ns : List ByteArray) (a : Option Addr) (ca lo hi : Nat) (left : Int) (w : World) (hh : hi ≤ w.heap.size) (hn : ns.length ≤ maxLen) (hS : SAt w lo hi ns a) (h0 : 0 ≤ left) (h1 : left ≤ 1048576) :
    Calls Try.prog 25 #[.slice a ns.length ca, .int .i64 left] w fun e w' => (∃ r : Int, e = .returned (.int .i64 r) ∧ (r = -1 ∨ (0 ≤ r ∧ r + ns.length ≤ left))) ∧ Below w.heap.size w w' := by
  have hm : ns.length ≤ 9223372036854775807 := by unfold maxLen at hn; omega
  by_cases hb : left - ns.length < 0
  · go_enter Try.func25, Try.ntmps25
    go_wp2_with fail
    go_ret
    exact ⟨⟨-1, rfl, Or.inl rfl⟩, Below.refl _ _⟩
  · go_enter Try.func25, Try.ntmps25
    go_wp2_with fail
    go_loopw [1, 5] (fun l a wr => ∃ (i : Nat) (r : Int), l = .int .i64 r ∧ a = .int .i64 i ∧ i ≤ ns.length ∧ 0 ≤ r ∧ r + ns.length ≤ left ∧ Below w.heap.size w wr) (fun _ a _ => ns.length - (intOf a).toNat)
    case atStart => exact ⟨0, left - ns.length, rfl, rfl, Nat.zero_le _, by omega, by omega, Below.refl _ _⟩
    case round =>
      obtain ⟨i, r, rfl, rfl, hi, hr0, hr1, hbl⟩ := hrel
      by_cases hlt : i < ns.length
      · obtain ⟨hz, g, o, rfl, _, hg, hc⟩ := hS i hlt
        have hz' : ns[i].size ≤ 9223372036854775807 := by unfold maxLen at hz; omega
        have x0 := (hbl.cell (p := ⟨g, o + i, none⟩) (by show g < _; omega)).trans hc
        clear hS hc hz
        generalize ns[i] = s at *
        by_cases hneg : r - s.size < 0
        · go_wp2_with fail
          go_ret
          exact ⟨⟨-1, rfl, Or.inl rfl⟩, hbl⟩
        · go_wp2_with fail
          go_roundw
          case rel => exact ⟨i + 1, r - s.size, rfl, by go_num, by omega, by omega, by omega, hbl⟩
          case measure => simp [intOf]; omega
      · obtain rfl : i = ns.length := by omega
        clear hS
        go_wp2_with fail
        go_ret
        exact ⟨⟨r, rfl, Or.inr ⟨hr0, hr1⟩⟩, hbl⟩

def SzOk (t : Nd) : Prop := ∀ (lo hi : Nat) (v : List Value) (left : Int) (w : World), NAt w lo hi t v → hi ≤ w.heap.size → 0 ≤ left → left ≤ 1048576 →
    Calls Try.prog 13 #[.agg v.toArray, .int .i64 left] w fun e w' => (∃ r : Int, e = .returned (.int .i64 r) ∧ (r = -1 ∨ (0 ≤ r ∧ r + wt t ≤ left))) ∧ Below w.heap.size w w'

set_option maxRecDepth 100000 in
set_option maxHeartbeats 800000 in
theorem szL_any (ks : List Nd) (ih : ∀ x ∈ ks, SzOk x) (b : Option Addr) (cb lo hi : Nat) (left : Int) (w : World) (hh : hi ≤ w.heap.size) (hn : ks.length ≤ maxLen) (hK : KAt w lo hi ks b 0) (h0 : 0 ≤ left) (h1 : left ≤ 1048576) :
    Calls Try.prog 26 #[.slice b ks.length cb, .int .i64 left] w fun e w' => (∃ r : Int, e = .returned (.int .i64 r) ∧ (r = -1 ∨ (0 ≤ r ∧ r + wtL ks ≤ left))) ∧ Below w.heap.size w w' := by
  have hm : ks.length ≤ 9223372036854775807 := by unfold maxLen at hn; omega
  by_cases hb : left - ks.length < 0
  · go_enter Try.func26, Try.ntmps26
    go_wp2_with fail
    go_ret
    exact ⟨⟨-1, rfl, Or.inl rfl⟩, Below.refl _ _⟩
  · go_enter Try.func26, Try.ntmps26
    go_wp2_with fail
    go_loopw [1, 5] (fun l a wr => ∃ (i : Nat) (r : Int), l = .int .i64 r ∧ a = .int .i64 i ∧ i ≤ ks.length ∧ 0 ≤ r ∧ r + wtL (ks.take i) + (ks.length - i : Nat) ≤ left ∧ Below w.heap.size w wr) (fun _ a _ => ks.length - (intOf a).toNat)
    case atStart => exact ⟨0, left - ks.length, rfl, rfl, Nat.zero_le _, by omega, by simp [wtL], Below.refl _ _⟩
    case round =>
      obtain ⟨i, r, rfl, rfl, hil, hr0, hr1, hbl⟩ := hrel
      by_cases hlt : i < ks.length
      · obtain ⟨g, o, v, rfl, _, hg, hc, hN⟩ := hK.get i hlt
        rw [Nat.zero_add] at hc
        have hN' := hN.below hbl hh
        have hok := ih _ (List.getElem_mem hlt) lo hi v r wr hN' (Nat.le_trans hh hbl.size) hr0 (by omega)
        have ht := wtL_take ks i hlt
        generalize ks[i] = x at *
        obtain ⟨k, t, n, ns, l, kk⟩ := x
        simp only [NAt] at hN
        obtain ⟨_, a, ca, b', cb', rfl, _⟩ := hN
        have kg : g < w.heap.size := by omega
        have x0 := (hbl.cell (p := ⟨g, o + 6 * i + 0, none⟩) kg).trans (hc 0 (by decide))
        have x1 := (hbl.cell (p := ⟨g, o + 6 * i + 1, none⟩) kg).trans (hc 1 (by decide))
        have x2 := (hbl.cell (p := ⟨g, o + 6 * i + 2, none⟩) kg).trans (hc 2 (by decide))
        have x3 := (hbl.cell (p := ⟨g, o + 6 * i + 3, none⟩) kg).trans (hc 3 (by decide))
        have x4 := (hbl.cell (p := ⟨g, o + 6 * i + 4, none⟩) kg).trans (hc 4 (by decide))
        have x5 := (hbl.cell (p := ⟨g, o + 6 * i + 5, none⟩) kg).trans (hc 5 (by decide))
        simp only [List.getElem?_cons_zero, List.getElem?_cons_succ, Nat.add_zero] at x0 x1 x2 x3 x4 x5
        have m6 : i * 6 = 6 * i := Nat.mul_comm _ _
        clear hc ih hK hN'
        go_wp2_with fail
        refine hok.mono ?_
        rintro e w1 ⟨⟨r', rfl, hr⟩, hb1⟩
        by_cases hneg : r' < 0
        · go_wp2_with fail
          go_ret
          exact ⟨⟨-1, rfl, Or.inl rfl⟩, hbl.trans (hb1.mono hbl.size)⟩
        · go_wp2_with fail
          go_roundw
          case rel => exact ⟨i + 1, r', rfl, by go_num, by omega, by omega, by rcases hr with rfl | hr <;> omega, hbl.trans (hb1.mono hbl.size)⟩
          case measure => simp [intOf]; omega
      · obtain rfl : i = ks.length := by omega
        clear hK ih
        go_wp2_with fail
        go_ret
        exact ⟨⟨r, rfl, Or.inr ⟨hr0, by simpa using hr1⟩⟩, hbl⟩

set_option maxRecDepth 100000 in
set_option maxHeartbeats 800000 in
theorem sz_any (x : Nd) : SzOk x := by
  induction x using nd_ind with
  | h k t n ns l ks ih =>
    intro lo hi v left w hN hh h0 h1
    simp only [NAt] at hN
    obtain ⟨hz, a, ca, b, cb, rfl, hn, hk, hS, hK⟩ := hN
    have hz' : t.size ≤ 9223372036854775807 := by unfold maxLen at hz; omega
    have hwt : wt (.mk k t n ns l ks) = ns.length + wtL ks := by simp [wt]
    by_cases hneg : left - t.size < 0
    · go_enter Try.func13, Try.ntmps13
      go_wp2_with fail
      go_ret
      exact ⟨⟨-1, rfl, Or.inl rfl⟩, bel_alloc _ _⟩
    · go_enter Try.func13, Try.ntmps13
      go_wp2_with fail
      have hh0 : hi ≤ (w.alloc (Obj.cells #[Value.int IntKind.i64 k, Value.string t, Value.int IntKind.i64 n, Value.slice a ns.length ca, Value.int IntKind.i64 l, Value.slice b ks.length cb] 35)).heap.size := by rw [size_alloc]; omega
      have hS0 := hS.below (bel_alloc w (Obj.cells #[Value.int IntKind.i64 k, Value.string t, Value.int IntKind.i64 n, Value.slice a ns.length ca, Value.int IntKind.i64 l, Value.slice b ks.length cb] 35)) hh
      refine (szS_any ns a ca lo hi _ _ hh0 hn hS0 (by omega) (by omega)).mono ?_
      rintro e w1 ⟨⟨r1, rfl, hr1⟩, hb1'⟩
      have hb1 : Below w.heap.size w w1 := (bel_alloc w _).trans (hb1'.mono (by rw [size_alloc]; omega))
      have c5 := st_cell hb1' 5
      simp only [List.getElem?_toArray, List.getElem?_cons_zero, List.getElem?_cons_succ] at c5
      by_cases hneg1 : r1 < 0
      · go_wp2_with fail
        go_ret
        exact ⟨⟨-1, rfl, Or.inl rfl⟩, hb1⟩
      · go_wp2_with fail
        refine (szL_any ks ih b cb lo hi _ w1 (Nat.le_trans hh hb1.size) hk (hK.below hb1 hh) (by omega) (by omega)).mono ?_
        rintro e w2 ⟨⟨r2, rfl, hr2⟩, hb2⟩
        have hb12 := hb1.trans (hb2.mono hb1.size)
        by_cases hneg2 : r2 < 0
        · go_wp2_with fail
          go_ret
          exact ⟨⟨-1, rfl, Or.inl rfl⟩, hb12⟩
        · go_wp2_with fail
          go_ret
          exact ⟨⟨r2, rfl, Or.inr ⟨by omega, by rw [hwt]; omega⟩⟩, hb12⟩
end Go.Proofs.Ytlmmomffanakiaa
