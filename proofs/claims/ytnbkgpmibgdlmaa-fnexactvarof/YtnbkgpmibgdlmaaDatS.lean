/- How great code is, as the law reckons it. -/
import Derived.Test.YtnbkgpmibgdlmaaDatQ
import Derived.Test.YtnbkgpmibgdlmaaValB
namespace Go.Proofs.Ytnbkgpmibgdlmaa
open Go.RowKit

set_option maxRecDepth 100000 in
set_option maxHeartbeats 800000 in
theorem szUpS_any (xs : List UpD) (a : Option Addr) (ca lo hi : Nat) (left : Int) (w : World) (_hh : hi ≤ w.heap.size) (hn : xs.length ≤ maxLen) (_hS : RowAt 2 UpC w lo hi xs a) (h0 : 0 ≤ left) (h1 : left ≤ 1048576) :
    Calls Try.prog 56 #[.slice a xs.length ca, .int .i64 left] w fun e w' => (∃ r : Int, e = .returned (.int .i64 r) ∧ (r = -1 ∨ (0 ≤ r ∧ r + xs.length ≤ left))) ∧ Below w.heap.size w w' := by
  have hm : xs.length ≤ 9223372036854775807 := by unfold maxLen at hn; omega
  by_cases hb : left - xs.length < 0
  · go_enter Try.func56, Try.ntmps56
    go_wp2_with fail
    go_ret
    exact ⟨⟨-1, rfl, Or.inl rfl⟩, Below.refl _ _⟩
  · go_enter Try.func56, Try.ntmps56
    go_wp2_with fail
    go_ret
    exact ⟨⟨_, rfl, Or.inr ⟨by omega, by omega⟩⟩, Below.refl _ _⟩
set_option maxRecDepth 100000 in
set_option maxHeartbeats 800000 in
theorem szInstr_any (x : InstrD) (cs : List Value) (lo hi : Nat) (left : Int) (w : World) (_hh : hi ≤ w.heap.size) (hC : InstrC w lo hi x cs) (h0 : 0 ≤ left) (h1 : left ≤ 1048576) :
    Calls Try.prog 88 #[.agg cs.toArray, .int .i64 left] w fun e w' => (∃ r : Int, e = .returned (.int .i64 r) ∧ (r = -1 ∨ (0 ≤ r ∧ r + x.wt ≤ left))) ∧ Below w.heap.size w w' := by
  obtain ⟨ok, rfl⟩ := hC
  have hz_v := ok.v.ok.s1
  have hz_s : x.s.size ≤ 9223372036854775807 := by have := ok.s; unfold maxLen at this; omega
  go_enter Try.func88, Try.ntmps88
  go_wp2_with fail
  refine (szV_any x.v.k x.v.n x.v.s left _ hz_v (by omega) (by omega)).mono ?_
  rintro e w1 ⟨⟨s1, rfl, hs1⟩, hb1⟩
  have B1 : Below w.heap.size w w1 := boxed hb1
  have hsz1 : w.heap.size < w1.heap.size := by have := hb1.size; simp at this; omega
  have c5 := st_cell hb1 5
  simp only [List.getElem?_toArray, List.getElem?_cons_zero, List.getElem?_cons_succ] at c5
  by_cases g0 : s1 < 0
  · go_wp2_with fail
    go_ret
    exact ⟨⟨-1, rfl, .inl rfl⟩, B1⟩
  · skip
    by_cases g1 : s1 - x.s.size < 0
    · skip
      go_wp2_with fail
      go_ret
      exact ⟨⟨-1, rfl, .inl rfl⟩, B1⟩
    · skip
      go_wp2_with fail
      go_ret
      exact ⟨⟨_, rfl, .inr ⟨by omega, by unfold InstrD.wt; omega⟩⟩, B1⟩
set_option maxRecDepth 100000 in
set_option maxHeartbeats 800000 in
theorem szInstrS_any (xs : List InstrD) (a : Option Addr) (ca lo hi : Nat) (left : Int) (w : World) (hh : hi ≤ w.heap.size) (hn : xs.length ≤ maxLen) (hS : RowAt 7 InstrC w lo hi xs a) (h0 : 0 ≤ left) (h1 : left ≤ 1048576) :
    Calls Try.prog 57 #[.slice a xs.length ca, .int .i64 left] w fun e w' => (∃ r : Int, e = .returned (.int .i64 r) ∧ (r = -1 ∨ (0 ≤ r ∧ r + wtR InstrD.wt xs ≤ left))) ∧ Below w.heap.size w w' := by
  have hm : xs.length ≤ 9223372036854775807 := by unfold maxLen at hn; omega
  by_cases hb : left - xs.length < 0
  · go_enter Try.func57, Try.ntmps57
    go_wp2_with fail
    go_ret
    exact ⟨⟨-1, rfl, Or.inl rfl⟩, Below.refl _ _⟩
  · go_enter Try.func57, Try.ntmps57
    go_wp2_with fail
    go_loopw [1, 5] (fun l a wr => ∃ (i : Nat) (r : Int), l = .int .i64 r ∧ a = .int .i64 i ∧ i ≤ xs.length ∧ 0 ≤ r ∧ r + wtR InstrD.wt (xs.take i) + (xs.length - i : Nat) ≤ left ∧ Below w.heap.size w wr) (fun _ a _ => xs.length - (intOf a).toNat)
    case atStart => exact ⟨0, left - xs.length, rfl, rfl, Nat.zero_le _, by omega, by simp [wtR], Below.refl _ _⟩
    case round =>
      obtain ⟨i, r, rfl, rfl, hil, hr0, hr1, hbl⟩ := hrel
      by_cases hlt : i < xs.length
      · obtain ⟨g, o, cs, rfl, _, hg, hC, _, hc⟩ := hS i hlt
        have ht := wtR_take InstrD.wt xs i hlt
        have hC1 := InstrC_keeps.below hC hbl hh
        have hC2 := hC1
        obtain ⟨ok, rfl⟩ := hC1
        have x0 := (hbl.cell (p := ⟨g, o + 7 * i + 0, none⟩) (by show g < _; omega)).trans (hc 0 (by decide))
        have x1 := (hbl.cell (p := ⟨g, o + 7 * i + 1, none⟩) (by show g < _; omega)).trans (hc 1 (by decide))
        have x2 := (hbl.cell (p := ⟨g, o + 7 * i + 2, none⟩) (by show g < _; omega)).trans (hc 2 (by decide))
        have x3 := (hbl.cell (p := ⟨g, o + 7 * i + 3, none⟩) (by show g < _; omega)).trans (hc 3 (by decide))
        have x4 := (hbl.cell (p := ⟨g, o + 7 * i + 4, none⟩) (by show g < _; omega)).trans (hc 4 (by decide))
        have x5 := (hbl.cell (p := ⟨g, o + 7 * i + 5, none⟩) (by show g < _; omega)).trans (hc 5 (by decide))
        have x6 := (hbl.cell (p := ⟨g, o + 7 * i + 6, none⟩) (by show g < _; omega)).trans (hc 6 (by decide))
        simp only [List.getElem?_cons_zero, List.getElem?_cons_succ, Nat.add_zero] at x0 x1 x2 x3 x4 x5 x6
        have mc : i * 7 = 7 * i := Nat.mul_comm _ _
        clear hS hc hC
        generalize xs[i] = x at *
        go_wp2_with fail
        refine (szInstr_any x _ lo hi r wr (Nat.le_trans hh hbl.size) hC2 hr0 (by omega)).mono ?_
        rintro e w1 ⟨⟨r', rfl, hr⟩, hb1⟩
        have B1 := hbl.trans (hb1.mono hbl.size)
        by_cases hneg : r' < 0
        · go_wp2_with fail
          go_ret
          exact ⟨⟨-1, rfl, Or.inl rfl⟩, B1⟩
        · go_wp2_with fail
          go_roundw
          case rel => exact ⟨i + 1, r', rfl, by go_num, by omega, by omega, by omega, B1⟩
          case measure => simp [intOf]; omega
      · obtain rfl : i = xs.length := by omega
        clear hS
        go_wp2_with fail
        go_ret
        exact ⟨⟨r, rfl, Or.inr ⟨hr0, by simpa using hr1⟩⟩, hbl⟩
set_option maxRecDepth 100000 in
set_option maxHeartbeats 800000 in
theorem szName_any (x : NameD) (cs : List Value) (lo hi : Nat) (left : Int) (w : World) (_hh : hi ≤ w.heap.size) (hC : NameC w lo hi x cs) (h0 : 0 ≤ left) (h1 : left ≤ 1048576) :
    Calls Try.prog 89 #[.agg cs.toArray, .int .i64 left] w fun e w' => (∃ r : Int, e = .returned (.int .i64 r) ∧ (r = -1 ∨ (0 ≤ r ∧ r + x.wt ≤ left))) ∧ Below w.heap.size w w' := by
  obtain ⟨ok, rfl⟩ := hC
  have hz_text : x.text.size ≤ 9223372036854775807 := by have := ok.text; unfold maxLen at this; omega
  by_cases g0 : left - x.text.size < 0
  · go_enter Try.func89, Try.ntmps89
    go_wp2_with fail
    go_ret
    exact ⟨⟨-1, rfl, .inl rfl⟩, bel_alloc _ _⟩
  · skip
    go_enter Try.func89, Try.ntmps89
    go_wp2_with fail
    go_ret
    exact ⟨⟨_, rfl, .inr ⟨by omega, by unfold NameD.wt; omega⟩⟩, bel_alloc _ _⟩
set_option maxRecDepth 100000 in
set_option maxHeartbeats 800000 in
theorem szNameS_any (xs : List NameD) (a : Option Addr) (ca lo hi : Nat) (left : Int) (w : World) (hh : hi ≤ w.heap.size) (hn : xs.length ≤ maxLen) (hS : RowAt 4 NameC w lo hi xs a) (h0 : 0 ≤ left) (h1 : left ≤ 1048576) :
    Calls Try.prog 58 #[.slice a xs.length ca, .int .i64 left] w fun e w' => (∃ r : Int, e = .returned (.int .i64 r) ∧ (r = -1 ∨ (0 ≤ r ∧ r + wtR NameD.wt xs ≤ left))) ∧ Below w.heap.size w w' := by
  have hm : xs.length ≤ 9223372036854775807 := by unfold maxLen at hn; omega
  by_cases hb : left - xs.length < 0
  · go_enter Try.func58, Try.ntmps58
    go_wp2_with fail
    go_ret
    exact ⟨⟨-1, rfl, Or.inl rfl⟩, Below.refl _ _⟩
  · go_enter Try.func58, Try.ntmps58
    go_wp2_with fail
    go_loopw [1, 5] (fun l a wr => ∃ (i : Nat) (r : Int), l = .int .i64 r ∧ a = .int .i64 i ∧ i ≤ xs.length ∧ 0 ≤ r ∧ r + wtR NameD.wt (xs.take i) + (xs.length - i : Nat) ≤ left ∧ Below w.heap.size w wr) (fun _ a _ => xs.length - (intOf a).toNat)
    case atStart => exact ⟨0, left - xs.length, rfl, rfl, Nat.zero_le _, by omega, by simp [wtR], Below.refl _ _⟩
    case round =>
      obtain ⟨i, r, rfl, rfl, hil, hr0, hr1, hbl⟩ := hrel
      by_cases hlt : i < xs.length
      · obtain ⟨g, o, cs, rfl, _, hg, hC, _, hc⟩ := hS i hlt
        have ht := wtR_take NameD.wt xs i hlt
        have hC1 := NameC_keeps.below hC hbl hh
        have hC2 := hC1
        obtain ⟨ok, rfl⟩ := hC1
        have x0 := (hbl.cell (p := ⟨g, o + 4 * i + 0, none⟩) (by show g < _; omega)).trans (hc 0 (by decide))
        have x1 := (hbl.cell (p := ⟨g, o + 4 * i + 1, none⟩) (by show g < _; omega)).trans (hc 1 (by decide))
        have x2 := (hbl.cell (p := ⟨g, o + 4 * i + 2, none⟩) (by show g < _; omega)).trans (hc 2 (by decide))
        have x3 := (hbl.cell (p := ⟨g, o + 4 * i + 3, none⟩) (by show g < _; omega)).trans (hc 3 (by decide))
        simp only [List.getElem?_cons_zero, List.getElem?_cons_succ, Nat.add_zero] at x0 x1 x2 x3
        have mc : i * 4 = 4 * i := Nat.mul_comm _ _
        clear hS hc hC
        generalize xs[i] = x at *
        go_wp2_with fail
        refine (szName_any x _ lo hi r wr (Nat.le_trans hh hbl.size) hC2 hr0 (by omega)).mono ?_
        rintro e w1 ⟨⟨r', rfl, hr⟩, hb1⟩
        have B1 := hbl.trans (hb1.mono hbl.size)
        by_cases hneg : r' < 0
        · go_wp2_with fail
          go_ret
          exact ⟨⟨-1, rfl, Or.inl rfl⟩, B1⟩
        · go_wp2_with fail
          go_roundw
          case rel => exact ⟨i + 1, r', rfl, by go_num, by omega, by omega, by omega, B1⟩
          case measure => simp [intOf]; omega
      · obtain rfl : i = xs.length := by omega
        clear hS
        go_wp2_with fail
        go_ret
        exact ⟨⟨r, rfl, Or.inr ⟨hr0, by simpa using hr1⟩⟩, hbl⟩
set_option maxRecDepth 100000 in
set_option maxHeartbeats 800000 in
theorem szProto_any (x : ProtoD) (cs : List Value) (lo hi : Nat) (left : Int) (w : World) (hh : hi ≤ w.heap.size) (hC : ProtoC w lo hi x cs) (h0 : 0 ≤ left) (h1 : left ≤ 1048576) :
    Calls Try.prog 27 #[.agg cs.toArray, .int .i64 left] w fun e w' => (∃ r : Int, e = .returned (.int .i64 r) ∧ (r = -1 ∨ (0 ≤ r ∧ r + x.wt ≤ left))) ∧ Below w.heap.size w w' := by
  obtain ⟨ok, a_ups, c_ups, a_code, c_code, a_names, c_names, rfl, l_ups, r_ups, l_code, r_code, l_names, r_names⟩ := hC
  have q_ups := r_ups.below UpC_keeps (bel_alloc w (Obj.cells #[.int .i64 x.params, .int .i64 x.slots, .slice a_ups x.ups.length c_ups, .slice a_code x.code.length c_code, .slice a_names x.names.length c_names] 68)) hh
  have q_code := r_code.below InstrC_keeps (bel_alloc w (Obj.cells #[.int .i64 x.params, .int .i64 x.slots, .slice a_ups x.ups.length c_ups, .slice a_code x.code.length c_code, .slice a_names x.names.length c_names] 68)) hh
  have q_names := r_names.below NameC_keeps (bel_alloc w (Obj.cells #[.int .i64 x.params, .int .i64 x.slots, .slice a_ups x.ups.length c_ups, .slice a_code x.code.length c_code, .slice a_names x.names.length c_names] 68)) hh
  go_enter Try.func27, Try.ntmps27
  go_wp2_with fail
  refine (szUpS_any x.ups a_ups c_ups lo hi left _ (by simp; omega) l_ups q_ups (by omega) (by omega)).mono ?_
  rintro e w1 ⟨⟨s1, rfl, hs1⟩, hb1⟩
  have B1 : Below w.heap.size w w1 := boxed hb1
  have hsz1 : w.heap.size < w1.heap.size := by have := hb1.size; simp at this; omega
  have c3 := st_cell hb1 3
  have c4 := st_cell hb1 4
  simp only [List.getElem?_toArray, List.getElem?_cons_zero, List.getElem?_cons_succ] at c3 c4
  by_cases g0 : s1 < 0
  · go_wp2_with fail
    go_ret
    exact ⟨⟨-1, rfl, .inl rfl⟩, B1⟩
  · skip
    go_wp2_with fail
    refine (szInstrS_any x.code a_code c_code lo hi s1 w1 (Nat.le_trans hh B1.size) l_code (r_code.below InstrC_keeps B1 hh) (by omega) (by omega)).mono ?_
    rintro e w2 ⟨⟨s2, rfl, hs2⟩, hb2⟩
    have B2 := B1.trans (hb2.mono B1.size)
    have hsz2 : w.heap.size < w2.heap.size := Nat.lt_of_lt_of_le hsz1 hb2.size
    have c4 := (hb2.cell (p := ⟨w.heap.size, 4, none⟩) hsz1).trans c4
    by_cases g1 : s2 < 0
    · go_wp2_with fail
      go_ret
      exact ⟨⟨-1, rfl, .inl rfl⟩, B2⟩
    · skip
      go_wp2_with fail
      refine (szNameS_any x.names a_names c_names lo hi s2 w2 (Nat.le_trans hh B2.size) l_names (r_names.below NameC_keeps B2 hh) (by omega) (by omega)).mono ?_
      rintro e w3 ⟨⟨s3, rfl, hs3⟩, hb3⟩
      have B3 := B2.trans (hb3.mono B2.size)
      have hsz3 : w.heap.size < w3.heap.size := Nat.lt_of_lt_of_le hsz2 hb3.size
      by_cases g2 : s3 < 0
      · go_wp2_with fail
        go_ret
        exact ⟨⟨-1, rfl, .inl rfl⟩, B3⟩
      · skip
        go_wp2_with fail
        go_ret
        exact ⟨⟨_, rfl, .inr ⟨by omega, by unfold ProtoD.wt; omega⟩⟩, B3⟩
set_option maxRecDepth 100000 in
set_option maxHeartbeats 800000 in
theorem szProtoS_any (xs : List ProtoD) (a : Option Addr) (ca lo hi : Nat) (left : Int) (w : World) (hh : hi ≤ w.heap.size) (hn : xs.length ≤ maxLen) (hS : RowAt 5 ProtoC w lo hi xs a) (h0 : 0 ≤ left) (h1 : left ≤ 1048576) :
    Calls Try.prog 7 #[.slice a xs.length ca, .int .i64 left] w fun e w' => (∃ r : Int, e = .returned (.int .i64 r) ∧ (r = -1 ∨ (0 ≤ r ∧ r + wtR ProtoD.wt xs ≤ left))) ∧ Below w.heap.size w w' := by
  have hm : xs.length ≤ 9223372036854775807 := by unfold maxLen at hn; omega
  by_cases hb : left - xs.length < 0
  · go_enter Try.func7, Try.ntmps7
    go_wp2_with fail
    go_ret
    exact ⟨⟨-1, rfl, Or.inl rfl⟩, Below.refl _ _⟩
  · go_enter Try.func7, Try.ntmps7
    go_wp2_with fail
    go_loopw [1, 5] (fun l a wr => ∃ (i : Nat) (r : Int), l = .int .i64 r ∧ a = .int .i64 i ∧ i ≤ xs.length ∧ 0 ≤ r ∧ r + wtR ProtoD.wt (xs.take i) + (xs.length - i : Nat) ≤ left ∧ Below w.heap.size w wr) (fun _ a _ => xs.length - (intOf a).toNat)
    case atStart => exact ⟨0, left - xs.length, rfl, rfl, Nat.zero_le _, by omega, by simp [wtR], Below.refl _ _⟩
    case round =>
      obtain ⟨i, r, rfl, rfl, hil, hr0, hr1, hbl⟩ := hrel
      by_cases hlt : i < xs.length
      · obtain ⟨g, o, cs, rfl, _, hg, hC, _, hc⟩ := hS i hlt
        have ht := wtR_take ProtoD.wt xs i hlt
        have hC1 := ProtoC_keeps.below hC hbl hh
        have hC2 := hC1
        obtain ⟨ok, a_ups, c_ups, a_code, c_code, a_names, c_names, rfl, l_ups, r_ups, l_code, r_code, l_names, r_names⟩ := hC1
        have x0 := (hbl.cell (p := ⟨g, o + 5 * i + 0, none⟩) (by show g < _; omega)).trans (hc 0 (by decide))
        have x1 := (hbl.cell (p := ⟨g, o + 5 * i + 1, none⟩) (by show g < _; omega)).trans (hc 1 (by decide))
        have x2 := (hbl.cell (p := ⟨g, o + 5 * i + 2, none⟩) (by show g < _; omega)).trans (hc 2 (by decide))
        have x3 := (hbl.cell (p := ⟨g, o + 5 * i + 3, none⟩) (by show g < _; omega)).trans (hc 3 (by decide))
        have x4 := (hbl.cell (p := ⟨g, o + 5 * i + 4, none⟩) (by show g < _; omega)).trans (hc 4 (by decide))
        simp only [List.getElem?_cons_zero, List.getElem?_cons_succ, Nat.add_zero] at x0 x1 x2 x3 x4
        have mc : i * 5 = 5 * i := Nat.mul_comm _ _
        clear hS hc hC
        generalize xs[i] = x at *
        go_wp2_with fail
        refine (szProto_any x _ lo hi r wr (Nat.le_trans hh hbl.size) hC2 hr0 (by omega)).mono ?_
        rintro e w1 ⟨⟨r', rfl, hr⟩, hb1⟩
        have B1 := hbl.trans (hb1.mono hbl.size)
        by_cases hneg : r' < 0
        · go_wp2_with fail
          go_ret
          exact ⟨⟨-1, rfl, Or.inl rfl⟩, B1⟩
        · go_wp2_with fail
          go_roundw
          case rel => exact ⟨i + 1, r', rfl, by go_num, by omega, by omega, by omega, B1⟩
          case measure => simp [intOf]; omega
      · obtain rfl : i = xs.length := by omega
        clear hS
        go_wp2_with fail
        go_ret
        exact ⟨⟨r, rfl, Or.inr ⟨hr0, by simpa using hr1⟩⟩, hbl⟩
end Go.Proofs.Ytnbkgpmibgdlmaa
