/- How great a machine is, as the law reckons it. -/
import Derived.Test.YtnbkgpmibgdlmaaVmP
import Derived.Test.YtnbkgpmibgdlmaaValB
namespace Go.Proofs.Ytnbkgpmibgdlmaa
open Go.RowKit

set_option maxRecDepth 100000 in
set_option maxHeartbeats 800000 in
theorem szIntS_any (xs : List Int) (a : Option Addr) (ca lo hi : Nat) (left : Int) (w : World) (_hh : hi ≤ w.heap.size) (hn : xs.length ≤ maxLen) (_hS : RowAt 1 IntC w lo hi xs a) (h0 : 0 ≤ left) (h1 : left ≤ 1048576) :
    Calls Try.prog 90 #[.slice a xs.length ca, .int .i64 left] w fun e w' => (∃ r : Int, e = .returned (.int .i64 r) ∧ (r = -1 ∨ (0 ≤ r ∧ r + xs.length ≤ left))) ∧ Below w.heap.size w w' := by
  have hm : xs.length ≤ 9223372036854775807 := by unfold maxLen at hn; omega
  by_cases hb : left - xs.length < 0
  · go_enter Try.func90, Try.ntmps90
    go_wp2_with fail
    go_ret
    exact ⟨⟨-1, rfl, Or.inl rfl⟩, Below.refl _ _⟩
  · go_enter Try.func90, Try.ntmps90
    go_wp2_with fail
    go_ret
    exact ⟨⟨_, rfl, Or.inr ⟨by omega, by omega⟩⟩, Below.refl _ _⟩
set_option maxRecDepth 100000 in
set_option maxHeartbeats 800000 in
theorem szStringS_any (xs : List ByteArray) (a : Option Addr) (ca lo hi : Nat) (left : Int) (w : World) (hh : hi ≤ w.heap.size) (hn : xs.length ≤ maxLen) (hS : RowAt 1 StrC w lo hi xs a) (h0 : 0 ≤ left) (h1 : left ≤ 1048576) :
    Calls Try.prog 30 #[.slice a xs.length ca, .int .i64 left] w fun e w' => (∃ r : Int, e = .returned (.int .i64 r) ∧ (r = -1 ∨ (0 ≤ r ∧ r + wtR ByteArray.size xs ≤ left))) ∧ Below w.heap.size w w' := by
  have hm : xs.length ≤ 9223372036854775807 := by unfold maxLen at hn; omega
  by_cases hb : left - xs.length < 0
  · go_enter Try.func30, Try.ntmps30
    go_wp2_with fail
    go_ret
    exact ⟨⟨-1, rfl, Or.inl rfl⟩, Below.refl _ _⟩
  · go_enter Try.func30, Try.ntmps30
    go_wp2_with fail
    go_loopw [1, 5] (fun l a wr => ∃ (i : Nat) (r : Int), l = .int .i64 r ∧ a = .int .i64 i ∧ i ≤ xs.length ∧ 0 ≤ r ∧ r + wtR ByteArray.size (xs.take i) + (xs.length - i : Nat) ≤ left ∧ Below w.heap.size w wr) (fun _ a _ => xs.length - (intOf a).toNat)
    case atStart => exact ⟨0, left - xs.length, rfl, rfl, Nat.zero_le _, by omega, by simp [wtR], Below.refl _ _⟩
    case round =>
      obtain ⟨i, r, rfl, rfl, hil, hr0, hr1, hbl⟩ := hrel
      by_cases hlt : i < xs.length
      · obtain ⟨g, o, cs, rfl, _, hg, hC, _, hc⟩ := hS i hlt
        have ht := wtR_take ByteArray.size xs i hlt
        have hC1 := StrC_keeps.below hC hbl hh
        have hC2 := hC1
        obtain ⟨ok, rfl⟩ := hC1
        have x0 := (hbl.cell (p := ⟨g, o + 1 * i + 0, none⟩) (by show g < _; omega)).trans (hc 0 (by decide))
        simp only [List.getElem?_cons_zero, Nat.add_zero, Nat.one_mul] at x0
        clear hS hc hC
        generalize xs[i] = x at *
        have hz' : x.size ≤ 9223372036854775807 := by unfold maxLen at ok; omega
        by_cases hneg : r - x.size < 0
        · go_wp2_with fail
          go_ret
          exact ⟨⟨-1, rfl, Or.inl rfl⟩, hbl⟩
        · go_wp2_with fail
          go_roundw
          case rel => exact ⟨i + 1, r - x.size, rfl, by go_num, by omega, by omega, by omega, hbl⟩
          case measure => simp [intOf]; omega
      · obtain rfl : i = xs.length := by omega
        clear hS
        go_wp2_with fail
        go_ret
        exact ⟨⟨r, rfl, Or.inr ⟨hr0, by simpa using hr1⟩⟩, hbl⟩
set_option maxRecDepth 100000 in
set_option maxHeartbeats 800000 in
theorem szValueS_any (xs : List Vl) (a : Option Addr) (ca lo hi : Nat) (left : Int) (w : World) (hh : hi ≤ w.heap.size) (hn : xs.length ≤ maxLen) (hS : RowAt 3 ValC w lo hi xs a) (h0 : 0 ≤ left) (h1 : left ≤ 1048576) :
    Calls Try.prog 43 #[.slice a xs.length ca, .int .i64 left] w fun e w' => (∃ r : Int, e = .returned (.int .i64 r) ∧ (r = -1 ∨ (0 ≤ r ∧ r + wtR Vl.wt xs ≤ left))) ∧ Below w.heap.size w w' := by
  have hm : xs.length ≤ 9223372036854775807 := by unfold maxLen at hn; omega
  by_cases hb : left - xs.length < 0
  · go_enter Try.func43, Try.ntmps43
    go_wp2_with fail
    go_ret
    exact ⟨⟨-1, rfl, Or.inl rfl⟩, Below.refl _ _⟩
  · go_enter Try.func43, Try.ntmps43
    go_wp2_with fail
    go_loopw [1, 5] (fun l a wr => ∃ (i : Nat) (r : Int), l = .int .i64 r ∧ a = .int .i64 i ∧ i ≤ xs.length ∧ 0 ≤ r ∧ r + wtR Vl.wt (xs.take i) + (xs.length - i : Nat) ≤ left ∧ Below w.heap.size w wr) (fun _ a _ => xs.length - (intOf a).toNat)
    case atStart => exact ⟨0, left - xs.length, rfl, rfl, Nat.zero_le _, by omega, by simp [wtR], Below.refl _ _⟩
    case round =>
      obtain ⟨i, r, rfl, rfl, hil, hr0, hr1, hbl⟩ := hrel
      by_cases hlt : i < xs.length
      · obtain ⟨g, o, cs, rfl, _, hg, hC, _, hc⟩ := hS i hlt
        have ht := wtR_take Vl.wt xs i hlt
        have hC1 := ValC_keeps.below hC hbl hh
        have hC2 := hC1
        obtain ⟨ok, rfl⟩ := hC1
        have x0 := (hbl.cell (p := ⟨g, o + 3 * i + 0, none⟩) (by show g < _; omega)).trans (hc 0 (by decide))
        have x1 := (hbl.cell (p := ⟨g, o + 3 * i + 1, none⟩) (by show g < _; omega)).trans (hc 1 (by decide))
        have x2 := (hbl.cell (p := ⟨g, o + 3 * i + 2, none⟩) (by show g < _; omega)).trans (hc 2 (by decide))
        simp only [List.getElem?_cons_zero, List.getElem?_cons_succ, Nat.add_zero] at x0 x1 x2
        have mc : i * 3 = 3 * i := Nat.mul_comm _ _
        clear hS hc hC
        generalize xs[i] = x at *
        go_wp2_with fail
        refine (szV_any x.k x.n x.s r wr ok.ok.s1 hr0 (by omega)).mono ?_
        rintro e w1 ⟨⟨r', rfl, hr⟩, hb1⟩
        have B1 := hbl.trans (hb1.mono hbl.size)
        by_cases hneg : r' < 0
        · go_wp2_with fail
          go_ret
          exact ⟨⟨-1, rfl, Or.inl rfl⟩, B1⟩
        · go_wp2_with fail
          have hvw : Vl.wt x = x.s.size := rfl
          go_roundw
          case rel => exact ⟨i + 1, r', rfl, by go_num, by omega, by omega, by omega, B1⟩
          case measure => simp [intOf]; omega
      · obtain rfl : i = xs.length := by omega
        clear hS
        go_wp2_with fail
        go_ret
        exact ⟨⟨r, rfl, Or.inr ⟨hr0, by simpa using hr1⟩⟩, hbl⟩
set_option maxRecDepth 100000 in
set_option maxHeartbeats 800000 in
theorem szClosure_any (x : ClosureD) (cs : List Value) (lo hi : Nat) (left : Int) (w : World) (hh : hi ≤ w.heap.size) (hC : ClosureC w lo hi x cs) (h0 : 0 ≤ left) (h1 : left ≤ 1048576) :
    Calls Try.prog 59 #[.agg cs.toArray, .int .i64 left] w fun e w' => (∃ r : Int, e = .returned (.int .i64 r) ∧ (r = -1 ∨ (0 ≤ r ∧ r + x.wt ≤ left))) ∧ Below w.heap.size w w' := by
  obtain ⟨ok, a_ups, c_ups, rfl, l_ups, r_ups⟩ := hC
  have q_ups := r_ups.below IntC_keeps (bel_alloc w (Obj.cells #[.int .i64 x.proto, .slice a_ups x.ups.length c_ups] 125)) hh
  go_enter Try.func59, Try.ntmps59
  go_wp2_with fail
  refine (szIntS_any x.ups a_ups c_ups lo hi left _ (by simp; omega) l_ups q_ups (by omega) (by omega)).mono ?_
  rintro e w1 ⟨⟨s1, rfl, hs1⟩, hb1⟩
  have B1 : Below w.heap.size w w1 := boxed hb1
  have hsz1 : w.heap.size < w1.heap.size := by have := hb1.size; simp at this; omega
  by_cases g0 : s1 < 0
  · go_wp2_with fail
    go_ret
    exact ⟨⟨-1, rfl, .inl rfl⟩, B1⟩
  · skip
    go_wp2_with fail
    go_ret
    exact ⟨⟨_, rfl, .inr ⟨by omega, by unfold ClosureD.wt; omega⟩⟩, B1⟩
set_option maxRecDepth 100000 in
set_option maxHeartbeats 800000 in
theorem szClosureS_any (xs : List ClosureD) (a : Option Addr) (ca lo hi : Nat) (left : Int) (w : World) (hh : hi ≤ w.heap.size) (hn : xs.length ≤ maxLen) (hS : RowAt 2 ClosureC w lo hi xs a) (h0 : 0 ≤ left) (h1 : left ≤ 1048576) :
    Calls Try.prog 28 #[.slice a xs.length ca, .int .i64 left] w fun e w' => (∃ r : Int, e = .returned (.int .i64 r) ∧ (r = -1 ∨ (0 ≤ r ∧ r + wtR ClosureD.wt xs ≤ left))) ∧ Below w.heap.size w w' := by
  have hm : xs.length ≤ 9223372036854775807 := by unfold maxLen at hn; omega
  by_cases hb : left - xs.length < 0
  · go_enter Try.func28, Try.ntmps28
    go_wp2_with fail
    go_ret
    exact ⟨⟨-1, rfl, Or.inl rfl⟩, Below.refl _ _⟩
  · go_enter Try.func28, Try.ntmps28
    go_wp2_with fail
    go_loopw [1, 5] (fun l a wr => ∃ (i : Nat) (r : Int), l = .int .i64 r ∧ a = .int .i64 i ∧ i ≤ xs.length ∧ 0 ≤ r ∧ r + wtR ClosureD.wt (xs.take i) + (xs.length - i : Nat) ≤ left ∧ Below w.heap.size w wr) (fun _ a _ => xs.length - (intOf a).toNat)
    case atStart => exact ⟨0, left - xs.length, rfl, rfl, Nat.zero_le _, by omega, by simp [wtR], Below.refl _ _⟩
    case round =>
      obtain ⟨i, r, rfl, rfl, hil, hr0, hr1, hbl⟩ := hrel
      by_cases hlt : i < xs.length
      · obtain ⟨g, o, cs, rfl, _, hg, hC, _, hc⟩ := hS i hlt
        have ht := wtR_take ClosureD.wt xs i hlt
        have hC1 := ClosureC_keeps.below hC hbl hh
        have hC2 := hC1
        obtain ⟨ok, a_ups, c_ups, rfl, l_ups, r_ups⟩ := hC1
        have x0 := (hbl.cell (p := ⟨g, o + 2 * i + 0, none⟩) (by show g < _; omega)).trans (hc 0 (by decide))
        have x1 := (hbl.cell (p := ⟨g, o + 2 * i + 1, none⟩) (by show g < _; omega)).trans (hc 1 (by decide))
        simp only [List.getElem?_cons_zero, List.getElem?_cons_succ, Nat.add_zero] at x0 x1
        have mc : i * 2 = 2 * i := Nat.mul_comm _ _
        clear hS hc hC
        generalize xs[i] = x at *
        go_wp2_with fail
        refine (szClosure_any x _ lo hi r wr (Nat.le_trans hh hbl.size) hC2 hr0 (by omega)).mono ?_
        rintro e w1 ⟨⟨r', rfl, hr⟩, hb1⟩
        have B1 := hbl.trans (hb1.mono hbl.size)
        by_cases hneg : r' < 0
        · go_wp2_with fail
          go_ret
          exact ⟨⟨-1, rfl, Or.inl rfl⟩, B1⟩
        · go_wp2_with fail
          go_roundw
          case rel => exact ⟨i + 1, r', rfl, by go_num, by omega, by omega, by omega, B1⟩
          case measure => simp [intOf]; omega
      · obtain rfl : i = xs.length := by omega
        clear hS
        go_wp2_with fail
        go_ret
        exact ⟨⟨r, rfl, Or.inr ⟨hr0, by simpa using hr1⟩⟩, hbl⟩
set_option maxRecDepth 100000 in
set_option maxHeartbeats 800000 in
theorem szFrame_any (x : FrameD) (cs : List Value) (lo hi : Nat) (left : Int) (w : World) (hh : hi ≤ w.heap.size) (hC : FrameC w lo hi x cs) (h0 : 0 ≤ left) (h1 : left ≤ 1048576) :
    Calls Try.prog 60 #[.agg cs.toArray, .int .i64 left] w fun e w' => (∃ r : Int, e = .returned (.int .i64 r) ∧ (r = -1 ∨ (0 ≤ r ∧ r + x.wt ≤ left))) ∧ Below w.heap.size w w' := by
  obtain ⟨ok, a_slots, c_slots, a_ups, c_ups, a_stack, c_stack, rfl, l_slots, r_slots, l_ups, r_ups, l_stack, r_stack⟩ := hC
  have q_slots := r_slots.below IntC_keeps (bel_alloc w (Obj.cells #[.int .i64 x.proto, .int .i64 x.pc, .slice a_slots x.slots.length c_slots, .slice a_ups x.ups.length c_ups, .slice a_stack x.stack.length c_stack, .bool x.guard] 128)) hh
  have q_ups := r_ups.below IntC_keeps (bel_alloc w (Obj.cells #[.int .i64 x.proto, .int .i64 x.pc, .slice a_slots x.slots.length c_slots, .slice a_ups x.ups.length c_ups, .slice a_stack x.stack.length c_stack, .bool x.guard] 128)) hh
  have q_stack := r_stack.below ValC_keeps (bel_alloc w (Obj.cells #[.int .i64 x.proto, .int .i64 x.pc, .slice a_slots x.slots.length c_slots, .slice a_ups x.ups.length c_ups, .slice a_stack x.stack.length c_stack, .bool x.guard] 128)) hh
  go_enter Try.func60, Try.ntmps60
  go_wp2_with fail
  refine (szIntS_any x.slots a_slots c_slots lo hi left _ (by simp; omega) l_slots q_slots (by omega) (by omega)).mono ?_
  rintro e w1 ⟨⟨s1, rfl, hs1⟩, hb1⟩
  have B1 : Below w.heap.size w w1 := boxed hb1
  have hsz1 : w.heap.size < w1.heap.size := by have := hb1.size; simp at this; omega
  have c3 := st_cell hb1 3
  have c4 := st_cell hb1 4
  simp only [List.getElem?_toArray, List.getElem?_cons_zero, List.getElem?_cons_succ] at c3 c4
  by_cases g0 : s1 < 0
  · go_wp2_with fail
    go_ret
    exact ⟨⟨-1, rfl, .inl rfl⟩, B1⟩
  · skip
    go_wp2_with fail
    refine (szIntS_any x.ups a_ups c_ups lo hi s1 w1 (Nat.le_trans hh B1.size) l_ups (r_ups.below IntC_keeps B1 hh) (by omega) (by omega)).mono ?_
    rintro e w2 ⟨⟨s2, rfl, hs2⟩, hb2⟩
    have B2 := B1.trans (hb2.mono B1.size)
    have hsz2 : w.heap.size < w2.heap.size := Nat.lt_of_lt_of_le hsz1 hb2.size
    have c4 := (hb2.cell (p := ⟨w.heap.size, 4, none⟩) hsz1).trans c4
    by_cases g1 : s2 < 0
    · go_wp2_with fail
      go_ret
      exact ⟨⟨-1, rfl, .inl rfl⟩, B2⟩
    · skip
      go_wp2_with fail
      refine (szValueS_any x.stack a_stack c_stack lo hi s2 w2 (Nat.le_trans hh B2.size) l_stack (r_stack.below ValC_keeps B2 hh) (by omega) (by omega)).mono ?_
      rintro e w3 ⟨⟨s3, rfl, hs3⟩, hb3⟩
      have B3 := B2.trans (hb3.mono B2.size)
      have hsz3 : w.heap.size < w3.heap.size := Nat.lt_of_lt_of_le hsz2 hb3.size
      by_cases g2 : s3 < 0
      · go_wp2_with fail
        go_ret
        exact ⟨⟨-1, rfl, .inl rfl⟩, B3⟩
      · skip
        go_wp2_with fail
        go_ret
        exact ⟨⟨_, rfl, .inr ⟨by omega, by unfold FrameD.wt; omega⟩⟩, B3⟩
set_option maxRecDepth 100000 in
set_option maxHeartbeats 800000 in
theorem szFrameS_any (xs : List FrameD) (a : Option Addr) (ca lo hi : Nat) (left : Int) (w : World) (hh : hi ≤ w.heap.size) (hn : xs.length ≤ maxLen) (hS : RowAt 6 FrameC w lo hi xs a) (h0 : 0 ≤ left) (h1 : left ≤ 1048576) :
    Calls Try.prog 29 #[.slice a xs.length ca, .int .i64 left] w fun e w' => (∃ r : Int, e = .returned (.int .i64 r) ∧ (r = -1 ∨ (0 ≤ r ∧ r + wtR FrameD.wt xs ≤ left))) ∧ Below w.heap.size w w' := by
  have hm : xs.length ≤ 9223372036854775807 := by unfold maxLen at hn; omega
  by_cases hb : left - xs.length < 0
  · go_enter Try.func29, Try.ntmps29
    go_wp2_with fail
    go_ret
    exact ⟨⟨-1, rfl, Or.inl rfl⟩, Below.refl _ _⟩
  · go_enter Try.func29, Try.ntmps29
    go_wp2_with fail
    go_loopw [1, 5] (fun l a wr => ∃ (i : Nat) (r : Int), l = .int .i64 r ∧ a = .int .i64 i ∧ i ≤ xs.length ∧ 0 ≤ r ∧ r + wtR FrameD.wt (xs.take i) + (xs.length - i : Nat) ≤ left ∧ Below w.heap.size w wr) (fun _ a _ => xs.length - (intOf a).toNat)
    case atStart => exact ⟨0, left - xs.length, rfl, rfl, Nat.zero_le _, by omega, by simp [wtR], Below.refl _ _⟩
    case round =>
      obtain ⟨i, r, rfl, rfl, hil, hr0, hr1, hbl⟩ := hrel
      by_cases hlt : i < xs.length
      · obtain ⟨g, o, cs, rfl, _, hg, hC, _, hc⟩ := hS i hlt
        have ht := wtR_take FrameD.wt xs i hlt
        have hC1 := FrameC_keeps.below hC hbl hh
        have hC2 := hC1
        obtain ⟨ok, a_slots, c_slots, a_ups, c_ups, a_stack, c_stack, rfl, l_slots, r_slots, l_ups, r_ups, l_stack, r_stack⟩ := hC1
        have x0 := (hbl.cell (p := ⟨g, o + 6 * i + 0, none⟩) (by show g < _; omega)).trans (hc 0 (by decide))
        have x1 := (hbl.cell (p := ⟨g, o + 6 * i + 1, none⟩) (by show g < _; omega)).trans (hc 1 (by decide))
        have x2 := (hbl.cell (p := ⟨g, o + 6 * i + 2, none⟩) (by show g < _; omega)).trans (hc 2 (by decide))
        have x3 := (hbl.cell (p := ⟨g, o + 6 * i + 3, none⟩) (by show g < _; omega)).trans (hc 3 (by decide))
        have x4 := (hbl.cell (p := ⟨g, o + 6 * i + 4, none⟩) (by show g < _; omega)).trans (hc 4 (by decide))
        have x5 := (hbl.cell (p := ⟨g, o + 6 * i + 5, none⟩) (by show g < _; omega)).trans (hc 5 (by decide))
        simp only [List.getElem?_cons_zero, List.getElem?_cons_succ, Nat.add_zero] at x0 x1 x2 x3 x4 x5
        have mc : i * 6 = 6 * i := Nat.mul_comm _ _
        clear hS hc hC
        generalize xs[i] = x at *
        go_wp2_with fail
        refine (szFrame_any x _ lo hi r wr (Nat.le_trans hh hbl.size) hC2 hr0 (by omega)).mono ?_
        rintro e w1 ⟨⟨r', rfl, hr⟩, hb1⟩
        have B1 := hbl.trans (hb1.mono hbl.size)
        by_cases hneg : r' < 0
        · go_wp2_with fail
          go_ret
          exact ⟨⟨-1, rfl, Or.inl rfl⟩, B1⟩
        · go_wp2_with fail
          go_roundw
          case rel => exact ⟨i + 1, r', rfl, by go_num, by omega, by omega, by omega, B1⟩
          case measure => simp [intOf]; omega
      · obtain rfl : i = xs.length := by omega
        clear hS
        go_wp2_with fail
        go_ret
        exact ⟨⟨r, rfl, Or.inr ⟨hr0, by simpa using hr1⟩⟩, hbl⟩
set_option maxRecDepth 100000 in
set_option maxHeartbeats 800000 in
theorem szPair_any (x : PairD) (cs : List Value) (lo hi : Nat) (left : Int) (w : World) (_hh : hi ≤ w.heap.size) (hC : PairC w lo hi x cs) (h0 : 0 ≤ left) (h1 : left ≤ 1048576) :
    Calls Try.prog 103 #[.agg cs.toArray, .int .i64 left] w fun e w' => (∃ r : Int, e = .returned (.int .i64 r) ∧ (r = -1 ∨ (0 ≤ r ∧ r + x.wt ≤ left))) ∧ Below w.heap.size w w' := by
  obtain ⟨ok, rfl⟩ := hC
  have hz_key := ok.key.ok.s1
  have hz_val := ok.val.ok.s1
  go_enter Try.func103, Try.ntmps103
  go_wp2_with fail
  refine (szV_any x.key.k x.key.n x.key.s left _ hz_key (by omega) (by omega)).mono ?_
  rintro e w1 ⟨⟨s1, rfl, hs1⟩, hb1⟩
  have B1 : Below w.heap.size w w1 := boxed hb1
  have hsz1 : w.heap.size < w1.heap.size := by have := hb1.size; simp at this; omega
  have c3 := st_cell hb1 3
  have c4 := st_cell hb1 4
  have c5 := st_cell hb1 5
  simp only [List.getElem?_toArray, List.getElem?_cons_zero, List.getElem?_cons_succ] at c3 c4 c5
  by_cases g0 : s1 < 0
  · go_wp2_with fail
    go_ret
    exact ⟨⟨-1, rfl, .inl rfl⟩, B1⟩
  · skip
    go_wp2_with fail
    refine (szV_any x.val.k x.val.n x.val.s s1 w1 hz_val (by omega) (by omega)).mono ?_
    rintro e w2 ⟨⟨s2, rfl, hs2⟩, hb2⟩
    have B2 := B1.trans (hb2.mono B1.size)
    have hsz2 : w.heap.size < w2.heap.size := Nat.lt_of_lt_of_le hsz1 hb2.size
    by_cases g1 : s2 < 0
    · go_wp2_with fail
      go_ret
      exact ⟨⟨-1, rfl, .inl rfl⟩, B2⟩
    · skip
      go_wp2_with fail
      go_ret
      exact ⟨⟨_, rfl, .inr ⟨by omega, by unfold PairD.wt; omega⟩⟩, B2⟩
set_option maxRecDepth 100000 in
set_option maxHeartbeats 800000 in
theorem szPairS_any (xs : List PairD) (a : Option Addr) (ca lo hi : Nat) (left : Int) (w : World) (hh : hi ≤ w.heap.size) (hn : xs.length ≤ maxLen) (hS : RowAt 6 PairC w lo hi xs a) (h0 : 0 ≤ left) (h1 : left ≤ 1048576) :
    Calls Try.prog 77 #[.slice a xs.length ca, .int .i64 left] w fun e w' => (∃ r : Int, e = .returned (.int .i64 r) ∧ (r = -1 ∨ (0 ≤ r ∧ r + wtR PairD.wt xs ≤ left))) ∧ Below w.heap.size w w' := by
  have hm : xs.length ≤ 9223372036854775807 := by unfold maxLen at hn; omega
  by_cases hb : left - xs.length < 0
  · go_enter Try.func77, Try.ntmps77
    go_wp2_with fail
    go_ret
    exact ⟨⟨-1, rfl, Or.inl rfl⟩, Below.refl _ _⟩
  · go_enter Try.func77, Try.ntmps77
    go_wp2_with fail
    go_loopw [1, 5] (fun l a wr => ∃ (i : Nat) (r : Int), l = .int .i64 r ∧ a = .int .i64 i ∧ i ≤ xs.length ∧ 0 ≤ r ∧ r + wtR PairD.wt (xs.take i) + (xs.length - i : Nat) ≤ left ∧ Below w.heap.size w wr) (fun _ a _ => xs.length - (intOf a).toNat)
    case atStart => exact ⟨0, left - xs.length, rfl, rfl, Nat.zero_le _, by omega, by simp [wtR], Below.refl _ _⟩
    case round =>
      obtain ⟨i, r, rfl, rfl, hil, hr0, hr1, hbl⟩ := hrel
      by_cases hlt : i < xs.length
      · obtain ⟨g, o, cs, rfl, _, hg, hC, _, hc⟩ := hS i hlt
        have ht := wtR_take PairD.wt xs i hlt
        have hC1 := PairC_keeps.below hC hbl hh
        have hC2 := hC1
        obtain ⟨ok, rfl⟩ := hC1
        have x0 := (hbl.cell (p := ⟨g, o + 6 * i + 0, none⟩) (by show g < _; omega)).trans (hc 0 (by decide))
        have x1 := (hbl.cell (p := ⟨g, o + 6 * i + 1, none⟩) (by show g < _; omega)).trans (hc 1 (by decide))
        have x2 := (hbl.cell (p := ⟨g, o + 6 * i + 2, none⟩) (by show g < _; omega)).trans (hc 2 (by decide))
        have x3 := (hbl.cell (p := ⟨g, o + 6 * i + 3, none⟩) (by show g < _; omega)).trans (hc 3 (by decide))
        have x4 := (hbl.cell (p := ⟨g, o + 6 * i + 4, none⟩) (by show g < _; omega)).trans (hc 4 (by decide))
        have x5 := (hbl.cell (p := ⟨g, o + 6 * i + 5, none⟩) (by show g < _; omega)).trans (hc 5 (by decide))
        simp only [List.getElem?_cons_zero, List.getElem?_cons_succ, Nat.add_zero] at x0 x1 x2 x3 x4 x5
        have mc : i * 6 = 6 * i := Nat.mul_comm _ _
        clear hS hc hC
        generalize xs[i] = x at *
        go_wp2_with fail
        refine (szPair_any x _ lo hi r wr (Nat.le_trans hh hbl.size) hC2 hr0 (by omega)).mono ?_
        rintro e w1 ⟨⟨r', rfl, hr⟩, hb1⟩
        have B1 := hbl.trans (hb1.mono hbl.size)
        by_cases hneg : r' < 0
        · go_wp2_with fail
          go_ret
          exact ⟨⟨-1, rfl, Or.inl rfl⟩, B1⟩
        · go_wp2_with fail
          go_roundw
          case rel => exact ⟨i + 1, r', rfl, by go_num, by omega, by omega, by omega, B1⟩
          case measure => simp [intOf]; omega
      · obtain rfl : i = xs.length := by omega
        clear hS
        go_wp2_with fail
        go_ret
        exact ⟨⟨r, rfl, Or.inr ⟨hr0, by simpa using hr1⟩⟩, hbl⟩
set_option maxRecDepth 100000 in
set_option maxHeartbeats 800000 in
theorem szPairSS_any (xs : List (List PairD)) (a : Option Addr) (ca lo hi : Nat) (left : Int) (w : World) (hh : hi ≤ w.heap.size) (hn : xs.length ≤ maxLen) (hS : RowAt 1 PairSC w lo hi xs a) (h0 : 0 ≤ left) (h1 : left ≤ 1048576) :
    Calls Try.prog 42 #[.slice a xs.length ca, .int .i64 left] w fun e w' => (∃ r : Int, e = .returned (.int .i64 r) ∧ (r = -1 ∨ (0 ≤ r ∧ r + wtR (wtR PairD.wt) xs ≤ left))) ∧ Below w.heap.size w w' := by
  have hm : xs.length ≤ 9223372036854775807 := by unfold maxLen at hn; omega
  by_cases hb : left - xs.length < 0
  · go_enter Try.func42, Try.ntmps42
    go_wp2_with fail
    go_ret
    exact ⟨⟨-1, rfl, Or.inl rfl⟩, Below.refl _ _⟩
  · go_enter Try.func42, Try.ntmps42
    go_wp2_with fail
    go_loopw [1, 5] (fun l a wr => ∃ (i : Nat) (r : Int), l = .int .i64 r ∧ a = .int .i64 i ∧ i ≤ xs.length ∧ 0 ≤ r ∧ r + wtR (wtR PairD.wt) (xs.take i) + (xs.length - i : Nat) ≤ left ∧ Below w.heap.size w wr) (fun _ a _ => xs.length - (intOf a).toNat)
    case atStart => exact ⟨0, left - xs.length, rfl, rfl, Nat.zero_le _, by omega, by simp [wtR], Below.refl _ _⟩
    case round =>
      obtain ⟨i, r, rfl, rfl, hil, hr0, hr1, hbl⟩ := hrel
      by_cases hlt : i < xs.length
      · obtain ⟨g, o, cs, rfl, _, hg, hC, _, hc⟩ := hS i hlt
        have ht := wtR_take (wtR PairD.wt) xs i hlt
        have hC1 := PairSC_keeps.below hC hbl hh
        obtain ⟨ok, a_p, c_p, rfl, r_p⟩ := hC1
        have x0 := (hbl.cell (p := ⟨g, o + 1 * i + 0, none⟩) (by show g < _; omega)).trans (hc 0 (by decide))
        simp only [List.getElem?_cons_zero, Nat.add_zero, Nat.one_mul] at x0
        clear hS hc hC
        generalize xs[i] = x at *
        go_wp2_with fail
        refine (szPairS_any x a_p c_p lo hi r wr (Nat.le_trans hh hbl.size) ok r_p hr0 (by omega)).mono ?_
        rintro e w1 ⟨⟨r', rfl, hr⟩, hb1⟩
        have B1 := hbl.trans (hb1.mono hbl.size)
        by_cases hneg : r' < 0
        · go_wp2_with fail
          go_ret
          exact ⟨⟨-1, rfl, Or.inl rfl⟩, B1⟩
        · go_wp2_with fail
          go_roundw
          case rel => exact ⟨i + 1, r', rfl, by go_num, by omega, by omega, by omega, B1⟩
          case measure => simp [intOf]; omega
      · obtain rfl : i = xs.length := by omega
        clear hS
        go_wp2_with fail
        go_ret
        exact ⟨⟨r, rfl, Or.inr ⟨hr0, by simpa using hr1⟩⟩, hbl⟩
set_option maxRecDepth 100000 in
set_option maxHeartbeats 800000 in
theorem szHeap_any (x : HeapD) (cs : List Value) (lo hi : Nat) (left : Int) (w : World) (hh : hi ≤ w.heap.size) (hC : HeapC w lo hi x cs) (h0 : 0 ≤ left) (h1 : left ≤ 1048576) :
    Calls Try.prog 16 #[.agg cs.toArray, .int .i64 left] w fun e w' => (∃ r : Int, e = .returned (.int .i64 r) ∧ (r = -1 ∨ (0 ≤ r ∧ r + x.wt ≤ left))) ∧ Below w.heap.size w w' := by
  obtain ⟨ok, a_tables, c_tables, a_cells, c_cells, rfl, l_tables, r_tables, l_cells, r_cells⟩ := hC
  have q_tables := r_tables.below PairSC_keeps (bel_alloc w (Obj.cells #[.slice a_tables x.tables.length c_tables, .slice a_cells x.cells.length c_cells] 26)) hh
  have q_cells := r_cells.below ValC_keeps (bel_alloc w (Obj.cells #[.slice a_tables x.tables.length c_tables, .slice a_cells x.cells.length c_cells] 26)) hh
  go_enter Try.func16, Try.ntmps16
  go_wp2_with fail
  refine (szPairSS_any x.tables a_tables c_tables lo hi left _ (by simp; omega) l_tables q_tables (by omega) (by omega)).mono ?_
  rintro e w1 ⟨⟨s1, rfl, hs1⟩, hb1⟩
  have B1 : Below w.heap.size w w1 := boxed hb1
  have hsz1 : w.heap.size < w1.heap.size := by have := hb1.size; simp at this; omega
  have c1 := st_cell hb1 1
  simp only [List.getElem?_toArray, List.getElem?_cons_zero, List.getElem?_cons_succ] at c1
  by_cases g0 : s1 < 0
  · go_wp2_with fail
    go_ret
    exact ⟨⟨-1, rfl, .inl rfl⟩, B1⟩
  · skip
    go_wp2_with fail
    refine (szValueS_any x.cells a_cells c_cells lo hi s1 w1 (Nat.le_trans hh B1.size) l_cells (r_cells.below ValC_keeps B1 hh) (by omega) (by omega)).mono ?_
    rintro e w2 ⟨⟨s2, rfl, hs2⟩, hb2⟩
    have B2 := B1.trans (hb2.mono B1.size)
    have hsz2 : w.heap.size < w2.heap.size := Nat.lt_of_lt_of_le hsz1 hb2.size
    by_cases g1 : s2 < 0
    · go_wp2_with fail
      go_ret
      exact ⟨⟨-1, rfl, .inl rfl⟩, B2⟩
    · skip
      go_wp2_with fail
      go_ret
      exact ⟨⟨_, rfl, .inr ⟨by omega, by unfold HeapD.wt; omega⟩⟩, B2⟩
set_option maxRecDepth 100000 in
set_option maxHeartbeats 800000 in
theorem szVm_any (x : VmD) (cs : List Value) (lo hi : Nat) (left : Int) (w : World) (hh : hi ≤ w.heap.size) (hC : VmC w lo hi x cs) (h0 : 0 ≤ left) (h1 : left ≤ 1048576) :
    Calls Try.prog 8 #[.agg cs.toArray, .int .i64 left] w fun e w' => (∃ r : Int, e = .returned (.int .i64 r) ∧ (r = -1 ∨ (0 ≤ r ∧ r + x.wt ≤ left))) ∧ Below w.heap.size w w' := by
  obtain ⟨ok, a_heap_tables, c_heap_tables, a_heap_cells, c_heap_cells, a_funs, c_funs, a_frames, c_frames, a_out, c_out, rfl, l_heap_tables, r_heap_tables, l_heap_cells, r_heap_cells, l_funs, r_funs, l_frames, r_frames, l_out, r_out⟩ := hC
  have h_heap : HeapC w lo hi x.heap [.slice a_heap_tables x.heap.tables.length c_heap_tables, .slice a_heap_cells x.heap.cells.length c_heap_cells] := ⟨ok.heap, a_heap_tables, c_heap_tables, a_heap_cells, c_heap_cells, rfl, l_heap_tables, r_heap_tables, l_heap_cells, r_heap_cells⟩
  have q_heap := HeapC_keeps.below h_heap (bel_alloc w (Obj.cells #[.slice a_heap_tables x.heap.tables.length c_heap_tables, .slice a_heap_cells x.heap.cells.length c_heap_cells, .slice a_funs x.funs.length c_funs, .slice a_frames x.frames.length c_frames, .slice a_out x.out.length c_out, .int .i64 x.steps, .int .i64 x.kind, .int .i64 x.value.k, .int .i64 x.value.n, .string x.value.s] 33)) hh
  have q_funs := r_funs.below ClosureC_keeps (bel_alloc w (Obj.cells #[.slice a_heap_tables x.heap.tables.length c_heap_tables, .slice a_heap_cells x.heap.cells.length c_heap_cells, .slice a_funs x.funs.length c_funs, .slice a_frames x.frames.length c_frames, .slice a_out x.out.length c_out, .int .i64 x.steps, .int .i64 x.kind, .int .i64 x.value.k, .int .i64 x.value.n, .string x.value.s] 33)) hh
  have q_frames := r_frames.below FrameC_keeps (bel_alloc w (Obj.cells #[.slice a_heap_tables x.heap.tables.length c_heap_tables, .slice a_heap_cells x.heap.cells.length c_heap_cells, .slice a_funs x.funs.length c_funs, .slice a_frames x.frames.length c_frames, .slice a_out x.out.length c_out, .int .i64 x.steps, .int .i64 x.kind, .int .i64 x.value.k, .int .i64 x.value.n, .string x.value.s] 33)) hh
  have q_out := r_out.below StrC_keeps (bel_alloc w (Obj.cells #[.slice a_heap_tables x.heap.tables.length c_heap_tables, .slice a_heap_cells x.heap.cells.length c_heap_cells, .slice a_funs x.funs.length c_funs, .slice a_frames x.frames.length c_frames, .slice a_out x.out.length c_out, .int .i64 x.steps, .int .i64 x.kind, .int .i64 x.value.k, .int .i64 x.value.n, .string x.value.s] 33)) hh
  have hz_value := ok.value.ok.s1
  go_enter Try.func8, Try.ntmps8
  go_wp2_with fail
  refine (szHeap_any x.heap _ lo hi left _ (by simp; omega) q_heap (by omega) (by omega)).mono ?_
  rintro e w1 ⟨⟨s1, rfl, hs1⟩, hb1⟩
  have B1 : Below w.heap.size w w1 := boxed hb1
  have hsz1 : w.heap.size < w1.heap.size := by have := hb1.size; simp at this; omega
  have c2 := st_cell hb1 2
  have c3 := st_cell hb1 3
  have c4 := st_cell hb1 4
  have c7 := st_cell hb1 7
  have c8 := st_cell hb1 8
  have c9 := st_cell hb1 9
  simp only [List.getElem?_toArray, List.getElem?_cons_zero, List.getElem?_cons_succ] at c2 c3 c4 c7 c8 c9
  by_cases g0 : s1 < 0
  · go_wp2_with fail
    go_ret
    exact ⟨⟨-1, rfl, .inl rfl⟩, B1⟩
  · skip
    go_wp2_with fail
    refine (szClosureS_any x.funs a_funs c_funs lo hi s1 w1 (Nat.le_trans hh B1.size) l_funs (r_funs.below ClosureC_keeps B1 hh) (by omega) (by omega)).mono ?_
    rintro e w2 ⟨⟨s2, rfl, hs2⟩, hb2⟩
    have B2 := B1.trans (hb2.mono B1.size)
    have hsz2 : w.heap.size < w2.heap.size := Nat.lt_of_lt_of_le hsz1 hb2.size
    have c3 := (hb2.cell (p := ⟨w.heap.size, 3, none⟩) hsz1).trans c3
    have c4 := (hb2.cell (p := ⟨w.heap.size, 4, none⟩) hsz1).trans c4
    have c7 := (hb2.cell (p := ⟨w.heap.size, 7, none⟩) hsz1).trans c7
    have c8 := (hb2.cell (p := ⟨w.heap.size, 8, none⟩) hsz1).trans c8
    have c9 := (hb2.cell (p := ⟨w.heap.size, 9, none⟩) hsz1).trans c9
    by_cases g1 : s2 < 0
    · go_wp2_with fail
      go_ret
      exact ⟨⟨-1, rfl, .inl rfl⟩, B2⟩
    · skip
      go_wp2_with fail
      refine (szFrameS_any x.frames a_frames c_frames lo hi s2 w2 (Nat.le_trans hh B2.size) l_frames (r_frames.below FrameC_keeps B2 hh) (by omega) (by omega)).mono ?_
      rintro e w3 ⟨⟨s3, rfl, hs3⟩, hb3⟩
      have B3 := B2.trans (hb3.mono B2.size)
      have hsz3 : w.heap.size < w3.heap.size := Nat.lt_of_lt_of_le hsz2 hb3.size
      have c4 := (hb3.cell (p := ⟨w.heap.size, 4, none⟩) hsz2).trans c4
      have c7 := (hb3.cell (p := ⟨w.heap.size, 7, none⟩) hsz2).trans c7
      have c8 := (hb3.cell (p := ⟨w.heap.size, 8, none⟩) hsz2).trans c8
      have c9 := (hb3.cell (p := ⟨w.heap.size, 9, none⟩) hsz2).trans c9
      by_cases g2 : s3 < 0
      · go_wp2_with fail
        go_ret
        exact ⟨⟨-1, rfl, .inl rfl⟩, B3⟩
      · skip
        go_wp2_with fail
        refine (szStringS_any x.out a_out c_out lo hi s3 w3 (Nat.le_trans hh B3.size) l_out (r_out.below StrC_keeps B3 hh) (by omega) (by omega)).mono ?_
        rintro e w4 ⟨⟨s4, rfl, hs4⟩, hb4⟩
        have B4 := B3.trans (hb4.mono B3.size)
        have hsz4 : w.heap.size < w4.heap.size := Nat.lt_of_lt_of_le hsz3 hb4.size
        have c7 := (hb4.cell (p := ⟨w.heap.size, 7, none⟩) hsz3).trans c7
        have c8 := (hb4.cell (p := ⟨w.heap.size, 8, none⟩) hsz3).trans c8
        have c9 := (hb4.cell (p := ⟨w.heap.size, 9, none⟩) hsz3).trans c9
        by_cases g3 : s4 < 0
        · go_wp2_with fail
          go_ret
          exact ⟨⟨-1, rfl, .inl rfl⟩, B4⟩
        · skip
          go_wp2_with fail
          refine (szV_any x.value.k x.value.n x.value.s s4 w4 hz_value (by omega) (by omega)).mono ?_
          rintro e w5 ⟨⟨s5, rfl, hs5⟩, hb5⟩
          have B5 := B4.trans (hb5.mono B4.size)
          have hsz5 : w.heap.size < w5.heap.size := Nat.lt_of_lt_of_le hsz4 hb5.size
          by_cases g4 : s5 < 0
          · go_wp2_with fail
            go_ret
            exact ⟨⟨-1, rfl, .inl rfl⟩, B5⟩
          · skip
            go_wp2_with fail
            go_ret
            exact ⟨⟨_, rfl, .inr ⟨by omega, by unfold VmD.wt; omega⟩⟩, B5⟩
end Go.Proofs.Ytnbkgpmibgdlmaa
