/- How great a heap is, as the law reckons it. -/
import Derived.Test.YtbdpfmkpjeleaaaHeapP
import Derived.Test.YtbdpfmkpjeleaaaValN
namespace Go.Proofs.Ytbdpfmkpjeleaaa
open Go.RowKit

set_option maxRecDepth 100000 in
set_option maxHeartbeats 800000 in
theorem szP_any (p : Pr) (left : Int) (w : World) (hp : p.Ok) (h0 : 0 ≤ left) (h1 : left ≤ 1048576) :
    Calls Try.prog 83 #[.agg #[.int .i64 p.key.k, .int .i64 p.key.n, .string p.key.s, .int .i64 p.val.k, .int .i64 p.val.n, .string p.val.s], .int .i64 left] w fun e w' => (∃ r : Int, e = .returned (.int .i64 r) ∧ (r = -1 ∨ (0 ≤ r ∧ r ≤ left ∧ p.Sm))) ∧ Below w.heap.size w w' := by
  obtain ⟨⟨k, n, s⟩, ⟨k2, n2, s2⟩⟩ := p
  have hs := hp.key.ok.s1
  have hs2 := hp.val.ok.s1
  dsimp only at hs hs2 ⊢
  go_enter Try.func83, Try.ntmps83
  go_wp2_with fail
  refine (szV_any k n s left _ hs h0 h1).mono ?_
  rintro e w1 ⟨⟨r, rfl, hr⟩, hb1⟩
  obtain ⟨hc1, hf1⟩ := bcell hb1
  have B1 := boxed hb1
  have hz1 : w.heap.size < w1.heap.size := by have := hb1.size; simp at this; omega
  by_cases hneg : r < 0
  · go_wp2_with fail
    go_ret
    exact ⟨⟨-1, rfl, .inl rfl⟩, B1⟩
  · go_wp2_with fail
    refine (szV_any k2 n2 s2 r _ hs2 (by omega) (by omega)).mono ?_
    rintro e w2 ⟨⟨r2, rfl, hr2⟩, hb2⟩
    have B2 := B1.trans (hb2.mono B1.size)
    by_cases hneg2 : r2 < 0
    · go_wp2_with fail
      go_ret
      exact ⟨⟨-1, rfl, .inl rfl⟩, B2⟩
    · go_wp2_with fail
      go_ret
      exact ⟨⟨r2, rfl, .inr ⟨by omega, by omega, ⟨by show s.size ≤ _; omega, by show s2.size ≤ _; omega⟩⟩⟩, B2⟩
set_option maxRecDepth 100000 in
set_option maxHeartbeats 800000 in
theorem szPS_any (vs : List Pr) (a : Option Addr) (ca lo hi : Nat) (left : Int) (w : World) (hh : hi ≤ w.heap.size) (hn : vs.length ≤ maxLen) (hS : PAt w lo hi vs a) (h0 : 0 ≤ left) (h1 : left ≤ 1048576) :
    Calls Try.prog 69 #[.slice a vs.length ca, .int .i64 left] w fun e w' => (∃ r : Int, e = .returned (.int .i64 r) ∧ (r = -1 ∨ (0 ≤ r ∧ r + vs.length ≤ left ∧ ∀ m (h : m < vs.length), vs[m].Sm))) ∧ Below w.heap.size w w' := by
  have hm : vs.length ≤ 9223372036854775807 := by unfold maxLen at hn; omega
  by_cases hb : left - vs.length < 0
  · go_enter Try.func69, Try.ntmps69
    go_wp2_with fail
    go_ret
    exact ⟨⟨-1, rfl, Or.inl rfl⟩, Below.refl _ _⟩
  · go_enter Try.func69, Try.ntmps69
    go_wp2_with fail
    go_loopw [1, 5] (fun l a wr => ∃ (i : Nat) (r : Int), l = .int .i64 r ∧ a = .int .i64 i ∧ i ≤ vs.length ∧ 0 ≤ r ∧ r + vs.length ≤ left ∧ Below w.heap.size w wr ∧ ∀ m (h : m < i) (h' : m < vs.length), vs[m].Sm) (fun _ a _ => vs.length - (intOf a).toNat)
    case atStart => exact ⟨0, left - vs.length, rfl, rfl, Nat.zero_le _, by omega, by omega, Below.refl _ _, fun m h => absurd h (Nat.not_lt_zero _)⟩
    case round =>
      obtain ⟨i, r, rfl, rfl, hi, hr0, hr1, hbl, hsm⟩ := hrel
      have HSM : Hid (∀ m (h : m < i) (h' : m < vs.length), vs[m].Sm) := hsm
      clear hsm
      by_cases hlt : i < vs.length
      · obtain ⟨hok, g, o, rfl, _, hg, hc⟩ := hS i hlt
        have x0 := (hbl.cell (p := ⟨g, o + 6 * i + 0, none⟩) (by show g < _; omega)).trans (hc 0 (by decide))
        have x1 := (hbl.cell (p := ⟨g, o + 6 * i + 1, none⟩) (by show g < _; omega)).trans (hc 1 (by decide))
        have x2 := (hbl.cell (p := ⟨g, o + 6 * i + 2, none⟩) (by show g < _; omega)).trans (hc 2 (by decide))
        have x3 := (hbl.cell (p := ⟨g, o + 6 * i + 3, none⟩) (by show g < _; omega)).trans (hc 3 (by decide))
        have x4 := (hbl.cell (p := ⟨g, o + 6 * i + 4, none⟩) (by show g < _; omega)).trans (hc 4 (by decide))
        have x5 := (hbl.cell (p := ⟨g, o + 6 * i + 5, none⟩) (by show g < _; omega)).trans (hc 5 (by decide))
        simp only [Pr.cs, List.getElem?_cons_zero, List.getElem?_cons_succ, Nat.add_zero] at x0 x1 x2 x3 x4 x5
        have mc : i * 6 = 6 * i := Nat.mul_comm _ _
        clear hS hc
        obtain ⟨p, hp⟩ : ∃ p, p = vs[i] := ⟨_, rfl⟩
        rw [← hp] at x0 x1 x2 x3 x4 x5 hok
        have HP : Hid (p = vs[i]) := hp
        clear hp
        go_wp2_with fail
        refine (szP_any p r wr hok hr0 (by omega)).mono ?_
        rintro e w1 ⟨⟨r', rfl, hr⟩, hb1⟩
        have B1 := hbl.trans (hb1.mono hbl.size)
        by_cases hneg : r' < 0
        · go_wp2_with fail
          go_ret
          exact ⟨⟨-1, rfl, Or.inl rfl⟩, B1⟩
        · go_wp2_with fail
          go_roundw
          case rel => exact ⟨i + 1, r', rfl, by go_num, by omega, by omega, by omega, B1, fun m h h' => by
            by_cases hm : m = i
            · subst hm; rw [← HP.out]; exact (by rcases hr with h | h; exact absurd h (by omega); exact h.2.2)
            · exact HSM.out m (by omega) h'⟩
          case measure => simp [intOf]; omega
      · obtain rfl : i = vs.length := by omega
        clear hS
        go_wp2_with fail
        go_ret
        exact ⟨⟨r, rfl, Or.inr ⟨hr0, hr1, fun m h => HSM.out m h h⟩⟩, hbl⟩
set_option maxRecDepth 100000 in
set_option maxHeartbeats 800000 in
theorem szVS_any (vs : List Vl) (a : Option Addr) (ca lo hi : Nat) (left : Int) (w : World) (hh : hi ≤ w.heap.size) (hn : vs.length ≤ maxLen) (hS : VAt w lo hi vs a) (h0 : 0 ≤ left) (h1 : left ≤ 1048576) :
    Calls Try.prog 30 #[.slice a vs.length ca, .int .i64 left] w fun e w' => (∃ r : Int, e = .returned (.int .i64 r) ∧ (r = -1 ∨ (0 ≤ r ∧ r + vs.length ≤ left ∧ ∀ m (h : m < vs.length), vs[m].Sm))) ∧ Below w.heap.size w w' := by
  have hm : vs.length ≤ 9223372036854775807 := by unfold maxLen at hn; omega
  by_cases hb : left - vs.length < 0
  · go_enter Try.func30, Try.ntmps30
    go_wp2_with fail
    go_ret
    exact ⟨⟨-1, rfl, Or.inl rfl⟩, Below.refl _ _⟩
  · go_enter Try.func30, Try.ntmps30
    go_wp2_with fail
    go_loopw [1, 5] (fun l a wr => ∃ (i : Nat) (r : Int), l = .int .i64 r ∧ a = .int .i64 i ∧ i ≤ vs.length ∧ 0 ≤ r ∧ r + vs.length ≤ left ∧ Below w.heap.size w wr ∧ ∀ m (h : m < i) (h' : m < vs.length), vs[m].Sm) (fun _ a _ => vs.length - (intOf a).toNat)
    case atStart => exact ⟨0, left - vs.length, rfl, rfl, Nat.zero_le _, by omega, by omega, Below.refl _ _, fun m h => absurd h (Nat.not_lt_zero _)⟩
    case round =>
      obtain ⟨i, r, rfl, rfl, hi, hr0, hr1, hbl, hsm⟩ := hrel
      have HSM : Hid (∀ m (h : m < i) (h' : m < vs.length), vs[m].Sm) := hsm
      clear hsm
      by_cases hlt : i < vs.length
      · obtain ⟨hok, g, o, rfl, _, hg, hc⟩ := hS i hlt
        have x0 := (hbl.cell (p := ⟨g, o + 3 * i + 0, none⟩) (by show g < _; omega)).trans (hc 0 (by decide))
        have x1 := (hbl.cell (p := ⟨g, o + 3 * i + 1, none⟩) (by show g < _; omega)).trans (hc 1 (by decide))
        have x2 := (hbl.cell (p := ⟨g, o + 3 * i + 2, none⟩) (by show g < _; omega)).trans (hc 2 (by decide))
        simp only [Vl.cs, List.getElem?_cons_zero, List.getElem?_cons_succ, Nat.add_zero] at x0 x1 x2
        have mc : i * 3 = 3 * i := Nat.mul_comm _ _
        clear hS hc
        obtain ⟨p, hp⟩ : ∃ p, p = vs[i] := ⟨_, rfl⟩
        rw [← hp] at x0 x1 x2 hok
        have HP : Hid (p = vs[i]) := hp
        clear hp
        go_wp2_with fail
        refine (szV_any p.k p.n p.s r wr hok.ok.s1 hr0 (by omega)).mono ?_
        rintro e w1 ⟨⟨r', rfl, hr⟩, hb1⟩
        have B1 := hbl.trans (hb1.mono hbl.size)
        by_cases hneg : r' < 0
        · go_wp2_with fail
          go_ret
          exact ⟨⟨-1, rfl, Or.inl rfl⟩, B1⟩
        · go_wp2_with fail
          go_roundw
          case rel => exact ⟨i + 1, r', rfl, by go_num, by omega, by omega, by omega, B1, fun m h h' => by
            by_cases hm : m = i
            · subst hm; rw [← HP.out]; exact (by show p.s.size ≤ 1048576; omega)
            · exact HSM.out m (by omega) h'⟩
          case measure => simp [intOf]; omega
      · obtain rfl : i = vs.length := by omega
        clear hS
        go_wp2_with fail
        go_ret
        exact ⟨⟨r, rfl, Or.inr ⟨hr0, hr1, fun m h => HSM.out m h h⟩⟩, hbl⟩
set_option maxRecDepth 100000 in
set_option maxHeartbeats 800000 in
theorem szT_any (ts : List (List Pr)) (a : Option Addr) (ca lo hi : Nat) (left : Int) (w : World) (hh : hi ≤ w.heap.size) (hn : ts.length ≤ maxLen) (hS : TAt w lo hi ts a) (h0 : 0 ≤ left) (h1 : left ≤ 1048576) :
    Calls Try.prog 29 #[.slice a ts.length ca, .int .i64 left] w fun e w' => (∃ r : Int, e = .returned (.int .i64 r) ∧ (r = -1 ∨ (0 ≤ r ∧ r + wtT ts ≤ left ∧ ∀ q (h : q < ts.length) m (h' : m < ts[q].length), ts[q][m].Sm))) ∧ Below w.heap.size w w' := by
  have hm : ts.length ≤ 9223372036854775807 := by unfold maxLen at hn; omega
  by_cases hb : left - ts.length < 0
  · go_enter Try.func29, Try.ntmps29
    go_wp2_with fail
    go_ret
    exact ⟨⟨-1, rfl, Or.inl rfl⟩, Below.refl _ _⟩
  · go_enter Try.func29, Try.ntmps29
    go_wp2_with fail
    go_loopw [1, 5] (fun l a wr => ∃ (i : Nat) (r : Int), l = .int .i64 r ∧ a = .int .i64 i ∧ i ≤ ts.length ∧ 0 ≤ r ∧ r + wtT (ts.take i) + (ts.length - i : Nat) ≤ left ∧ Below w.heap.size w wr ∧ ∀ q (hq : q < i) (h : q < ts.length) m (h' : m < ts[q].length), ts[q][m].Sm) (fun _ a _ => ts.length - (intOf a).toNat)
    case atStart => exact ⟨0, left - ts.length, rfl, rfl, Nat.zero_le _, by omega, by simp [wtT], Below.refl _ _, fun q hq => absurd hq (Nat.not_lt_zero _)⟩
    case round =>
      obtain ⟨i, r, rfl, rfl, hil, hr0, hr1, hbl, hsm⟩ := hrel
      have HSM : Hid (∀ q (hq : q < i) (h : q < ts.length) m (h' : m < ts[q].length), ts[q][m].Sm) := hsm
      clear hsm
      by_cases hlt : i < ts.length
      · obtain ⟨hl, g, o, b, cb, rfl, _, hg, hc, hP⟩ := hS i hlt
        have x0 := (hbl.cell (p := ⟨g, o + i, none⟩) (by show g < _; omega)).trans hc
        have hP' := hP.below hbl hh
        have ht := wtT_take ts i hlt
        clear hS hc hP
        obtain ⟨t, htt⟩ : ∃ t, t = ts[i] := ⟨_, rfl⟩
        rw [← htt] at x0 hl hP' ht
        have HT : Hid (t = ts[i]) := htt
        clear htt
        go_wp2_with fail
        refine (szPS_any t b cb lo hi r wr (Nat.le_trans hh hbl.size) hl hP' hr0 (by omega)).mono ?_
        rintro e w1 ⟨⟨r', rfl, hr⟩, hb1⟩
        have B1 := hbl.trans (hb1.mono hbl.size)
        by_cases hneg : r' < 0
        · go_wp2_with fail
          go_ret
          exact ⟨⟨-1, rfl, Or.inl rfl⟩, B1⟩
        · go_wp2_with fail
          go_roundw
          case rel => exact ⟨i + 1, r', rfl, by go_num, by omega, by omega, by omega, B1, fun q hq h m h' => by
            by_cases hm : q = i
            · subst hm
              have hx := (show ∀ m (h : m < t.length), t[m].Sm by rcases hr with h | h; exact absurd h (by omega); exact h.2.2)
              have e := HT.out
              subst e
              exact hx m h'
            · exact HSM.out q (by omega) h m h'⟩
          case measure => simp [intOf]; omega
      · obtain rfl : i = ts.length := by omega
        clear hS
        go_wp2_with fail
        go_ret
        exact ⟨⟨r, rfl, Or.inr ⟨hr0, by simpa using hr1, fun q h m h' => HSM.out q h h m h'⟩⟩, hbl⟩

def Hp.wt (h : Hp) : Nat := wtT h.ts + h.vs.length
structure Hp.Sm (h : Hp) : Prop where
  ts : ∀ q (hq : q < h.ts.length) m (h' : m < h.ts[q].length), h.ts[q][m].Sm
  vs : ∀ m (hm : m < h.vs.length), h.vs[m].Sm
set_option maxRecDepth 100000 in
set_option maxHeartbeats 800000 in
theorem szH_any (h : Hp) (v : List Value) (lo hi : Nat) (left : Int) (w : World) (hh : hi ≤ w.heap.size) (hN : HAt w lo hi h v) (h0 : 0 ≤ left) (h1 : left ≤ 1048576) :
    Calls Try.prog 6 #[.agg v.toArray, .int .i64 left] w fun e w' => (∃ r : Int, e = .returned (.int .i64 r) ∧ (r = -1 ∨ (0 ≤ r ∧ r + h.wt ≤ left ∧ h.Sm))) ∧ Below w.heap.size w w' := by
  obtain ⟨a, ca, b, cb, rfl, h2, h3, hT, hV⟩ := hN
  have hT0 := hT.below (bel_alloc w (Obj.cells #[.slice a h.ts.length ca, .slice b h.vs.length cb] 25)) hh
  go_enter Try.func6, Try.ntmps6
  go_wp2_with fail
  refine (szT_any h.ts a ca lo hi left _ (by simp; omega) h2 hT0 h0 h1).mono ?_
  rintro e w1 ⟨⟨r, rfl, hr⟩, hb1⟩
  obtain ⟨hc1, hf1⟩ := bcell hb1
  have B1 := boxed hb1
  have hz1 : w.heap.size < w1.heap.size := by have := hb1.size; simp at this; omega
  by_cases hneg : r < 0
  · go_wp2_with fail
    go_ret
    exact ⟨⟨-1, rfl, .inl rfl⟩, B1⟩
  · go_wp2_with fail
    refine (szVS_any h.vs b cb lo hi r w1 (by omega) h3 (hV.below B1 hh) (by omega) (by omega)).mono ?_
    rintro e w2 ⟨⟨r2, rfl, hr2⟩, hb2⟩
    have B2 := B1.trans (hb2.mono B1.size)
    by_cases hneg2 : r2 < 0
    · go_wp2_with fail
      go_ret
      exact ⟨⟨-1, rfl, .inl rfl⟩, B2⟩
    · go_wp2_with fail
      go_ret
      exact ⟨⟨r2, rfl, .inr ⟨by omega, by unfold Hp.wt; omega, ⟨by rcases hr with h | h; exact absurd h (by omega); exact h.2.2, by rcases hr2 with h | h; exact absurd h (by omega); exact h.2.2⟩⟩⟩, B2⟩
end Go.Proofs.Ytbdpfmkpjeleaaa
