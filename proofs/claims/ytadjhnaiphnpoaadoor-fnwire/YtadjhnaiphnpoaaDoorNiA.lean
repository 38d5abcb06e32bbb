/- NextMessage of the program: the reader of a message's parts. -/
import Derived.Test.YtadjhnaiphnpoaaDoorNmP
import Derived.Test.YtadjhnaiphnpoaaDoorRcN
import Derived.Test.YtadjhnaiphnpoaaDoorCloM
import Derived.Shelf.Strings.SlTrimAscii
namespace Go.Proofs.YtadjhnaiphnpoaaDoor
open Go.RowKit Go.Lib

/-- The reader: what is left, and what was said. -/
def WR (w : World) (b : Nat) (r : ByteArray) (k : Int) : Prop := w.heap[b]? = some (.cells #[.string r, .int .i64 k] 51 (0, 0))
theorem WR.cells {w : World} {b : Nat} {r : ByteArray} {k : Int} (h : WR w b r k) : w.cell? ⟨b, 0, none⟩ = some (.string r) ∧ w.cell? ⟨b, 1, none⟩ = some (.int .i64 k) ∧ w.frozen? ⟨b, 0, none⟩ = false ∧ w.frozen? ⟨b, 1, none⟩ = false := by
  refine ⟨?_, ?_, frozen_of_row _ _ _ _ _ h, frozen_of_row _ _ _ _ _ h⟩
  · rw [cell_of_row _ _ 0 _ _ _ h]; rfl
  · rw [cell_of_row _ _ 1 _ _ _ h]; rfl
theorem WR.lt {w : World} {b : Nat} {r : ByteArray} {k : Int} (h : WR w b r k) : b < w.heap.size := by
  by_cases hb : b < w.heap.size
  · exact hb
  · unfold WR at h; rw [Array.getElem?_eq_none (by omega)] at h; simp at h
theorem WR.below {w w' : World} {b : Nat} {r : ByteArray} {k : Int} (h : WR w b r k) (hb : Below w.heap.size w w') : WR w' b r k := (hb.block _ h.lt).trans h
theorem WR.set0 {w : World} {b : Nat} {r : ByteArray} {k : Int} (h : WR w b r k) (r' : ByteArray) : WR (w.setCell ⟨b, 0, none⟩ (.string r')) b r' k := by
  unfold WR; rw [heap_setCell_same _ _ _ _ _ _ h]; rfl
theorem WR.set1 {w : World} {b : Nat} {r : ByteArray} {k : Int} (h : WR w b r k) (k' : Int) : WR (w.setCell ⟨b, 1, none⟩ (.int .i64 k')) b r k' := by
  unfold WR; rw [heap_setCell_same _ _ _ _ _ _ h]; rfl

theorem bset (b o : Nat) (w : World) (v : Value) : Below b w (w.setCell ⟨b, o, none⟩ v) := (Below.refl b w).setCell (show b ≤ (⟨b, o, none⟩ : Addr).block from Nat.le_refl b) v
theorem prefix_any (s p : ByteArray) (w : World) : Calls Tryd.prog 60 #[.string s, .string p] w fun e w' => e = .returned (.bool (p.data.toList.isPrefixOf s.data.toList)) ∧ w' = w := Tryd.strings_HasPrefix s p w
/-- What is left behind a part, and what is said of it. -/
def passR (r p : ByteArray) : ByteArray := if st3 r.data.toList p.data.toList = 0 then ⟨(r.data.toList.drop p.data.toList.length).toArray⟩ else r
def passK (r p : ByteArray) : Int := st3 r.data.toList p.data.toList

set_option maxRecDepth 100000 in
set_option maxHeartbeats 1600000 in
theorem pass_any (b : Nat) (r p : ByteArray) (w : World) (hw : WR w b r 0) :
    Calls Tryd.prog 39 #[.pointer (some ⟨b, 0, none⟩), .string p] w fun e w' => e = .returned (.tuple #[]) ∧ WR w' b (passR r p) (passK r p) ∧ Below b w w' := by
  have C := Tryd.strings_CutPrefix r p w
  obtain ⟨c0, c1, f0, f1⟩ := hw.cells
  rcases st3_cases r.data.toList p.data.toList with h | h | h
  · have HP : hasPrefix r.data.toList p.data.toList = true := st3_zero h
    have HR : Hid (passR r p = ⟨(r.data.toList.drop p.data.toList.length).toArray⟩) := by show _ = _; rw [passR, if_pos h]
    have HK : Hid (passK r p = 0) := by show _ = _; rw [passK, h]; rfl
    rw [trimPrefix, if_pos HP, HP] at C
    have HC : Hid (Calls Tryd.prog 59 #[.string r, .string p] w fun e w' => e = .returned (.tuple #[.string ⟨(r.data.toList.drop p.data.toList.length).toArray⟩, .bool true]) ∧ w' = w) := C
    clear C h HP
    generalize (⟨(r.data.toList.drop p.data.toList.length).toArray⟩ : ByteArray) = t at *
    go_enter Tryd.func39, Tryd.ntmps39
    go_wp2_with fail
    refine Calls.mono HC.out ?_
    rintro e w1 ⟨rfl, rfl⟩
    go_wp2_with fail
    exact bodyPost_end (results_none rfl _ _ _) rfl ⟨rfl, by rw [HR.out, HK.out]; exact hw.set0 t, bset _ _ _ _⟩
  all_goals
    have HP : hasPrefix r.data.toList p.data.toList = false := by first | exact (st3_one h).1 | exact (st3_two h).1
    have HR : Hid (passR r p = r) := by show _ = _; rw [passR, if_neg (by omega)]
    rw [trimPrefix, if_neg (by rw [HP]; simp), HP] at C
    have HC : Hid (Calls Tryd.prog 59 #[.string r, .string p] w fun e w' => e = .returned (.tuple #[.string r, .bool false]) ∧ w' = w) := C
    clear C HP
  · have HK : Hid (passK r p = 1) := by show _ = _; rw [passK, h]; rfl
    have HQ : Hid (r.data.toList.isPrefixOf p.data.toList = true) := (st3_one h).2
    clear h
    go_enter Tryd.func39, Tryd.ntmps39
    go_wp2_with fail
    refine Calls.mono HC.out ?_
    rintro e w1 ⟨rfl, rfl⟩
    go_wp2_with fail
    refine (prefix_any p r _).mono ?_
    rintro e w2 ⟨rfl, rfl⟩
    rw [HQ.out]
    go_wp2_with fail
    exact bodyPost_end (results_none rfl _ _ _) rfl ⟨rfl, by rw [HR.out, HK.out]; exact hw.set1 1, bset _ _ _ _⟩
  · have HK : Hid (passK r p = 2) := by show _ = _; rw [passK, h]; rfl
    have HQ : Hid (r.data.toList.isPrefixOf p.data.toList = false) := (st3_two h).2
    clear h
    go_enter Tryd.func39, Tryd.ntmps39
    go_wp2_with fail
    refine Calls.mono HC.out ?_
    rintro e w1 ⟨rfl, rfl⟩
    go_wp2_with fail
    refine (prefix_any p r _).mono ?_
    rintro e w2 ⟨rfl, rfl⟩
    rw [HQ.out]
    go_wp2_with fail
    exact bodyPost_end (results_none rfl _ _ _) rfl ⟨rfl, by rw [HR.out, HK.out]; exact hw.set1 2, bset _ _ _ _⟩

set_option maxRecDepth 100000 in
/-- Where something was said, nothing more is read. -/
theorem pass_not (b : Nat) (r p : ByteArray) (k : Int) (hk : k = 1 ∨ k = 2) (w : World) (hw : WR w b r k) :
    Calls Tryd.prog 39 #[.pointer (some ⟨b, 0, none⟩), .string p] w fun e w' => e = .returned (.tuple #[]) ∧ w' = w := by
  obtain ⟨c0, c1, f0, f1⟩ := hw.cells
  rcases hk with rfl | rfl
  all_goals
    go_enter Tryd.func39, Tryd.ntmps39
    go_wp2_with fail
    exact bodyPost_ret (v := .tuple #[]) (by simp [results, Tryd.results39, go_sem, *]) rfl ⟨rfl, rfl⟩
set_option maxRecDepth 100000 in
theorem size_not (b : Nat) (r : ByteArray) (k : Int) (hk : k = 1 ∨ k = 2) (w : World) (hw : WR w b r k) :
    Calls Tryd.prog 40 #[.pointer (some ⟨b, 0, none⟩)] w fun e w' => e = .returned (.int .i64 0) ∧ w' = w := by
  obtain ⟨c0, c1, f0, f1⟩ := hw.cells
  rcases hk with rfl | rfl
  all_goals
    go_enter Tryd.func40, Tryd.ntmps40
    go_wp2_with fail
    go_ret
    exact ⟨rfl, rfl⟩
set_option maxRecDepth 100000 in
theorem body_not (b : Nat) (r : ByteArray) (k n : Int) (hk : k = 1 ∨ k = 2) (w : World) (hw : WR w b r k) :
    Calls Tryd.prog 41 #[.pointer (some ⟨b, 0, none⟩), .int .i64 n] w fun e w' => e = .returned (.string ⟨#[]⟩) ∧ w' = w := by
  obtain ⟨c0, c1, f0, f1⟩ := hw.cells
  rcases hk with rfl | rfl
  all_goals
    go_enter Tryd.func41, Tryd.ntmps41
    go_wp2_with fail
    go_ret
    exact ⟨rfl, rfl⟩

/-- What is left behind a size, and what is said of it. -/
def sizeR (r : ByteArray) : ByteArray := if r.size = 0 then r else match szR (r.data.toList.take (dgN r.data.toList)) with
  | some _ => ⟨(r.data.toList.drop (dgN r.data.toList)).toArray⟩
  | none => r
def sizeK (r : ByteArray) : Int := if r.size = 0 then 1 else match szR (r.data.toList.take (dgN r.data.toList)) with
  | some _ => 0
  | none => 2
theorem trim_any (s : ByteArray) (w : World) : Calls Tryd.prog 61 #[.string s, .string digitsT] w fun e w' => e = .returned (.string ⟨(s.data.toList.drop (dgN s.data.toList)).toArray⟩) ∧ Below w.heap.size w w' := by
  have C := Any.strings_TrimLeft_laid Tryd.lays161 (by kernel_rfl) s digitsT w (by decide) (ascii_of_all (by decide +kernel))
  rw [trim_digits] at C
  exact C

set_option maxRecDepth 100000 in
set_option maxHeartbeats 1600000 in
theorem size_any (b : Nat) (r : ByteArray) (w : World) (hs : r.size ≤ 2097152) (hw : WR w b r 0) (hL : LibOk w) :
    Calls Tryd.prog 40 #[.pointer (some ⟨b, 0, none⟩)] w fun e w' => (∃ n : Int, e = .returned (.int .i64 n) ∧ -9223372036854775808 ≤ n ∧ n ≤ 9223372036854775807 ∧ ∀ m : Nat, r.size ≠ 0 → szR (r.data.toList.take (dgN r.data.toList)) = some m → n = m) ∧ WR w' b (sizeR r) (sizeK r) ∧ Below b w w' := by
  have HT : Hid (∀ u, Calls Tryd.prog 61 #[.string r, .string digitsT] u fun e w' => e = .returned (.string ⟨(r.data.toList.drop (dgN r.data.toList)).toArray⟩) ∧ Below u.heap.size u w') := fun u => trim_any r u
  have HL : Hid (LibOk w) := hL
  have hdl := dgN_le r.data.toList
  have hrz := Lib.size_eq r
  have hlt := hw.lt
  have hbs : (⟨(r.data.toList.drop (dgN r.data.toList)).toArray⟩ : ByteArray).size = r.size - dgN r.data.toList := by
    show ((r.data.toList.drop (dgN r.data.toList)).toArray).size = _
    rw [List.size_toArray, List.length_drop, hrz]
  have hex : (r.extract 0 (dgN r.data.toList)).data.toList = r.data.toList.take (dgN r.data.toList) := by rw [ext_list]; rfl
  have hall : ∀ (j : Nat) (x : UInt8), (r.data.toList.take (dgN r.data.toList))[j]? = some x → isDg x = true := fun j x h => by
    have hj : j < dgN r.data.toList := by have := (List.getElem?_eq_some_iff.1 h).1; rw [List.length_take] at this; omega
    rw [List.getElem?_take_of_lt hj] at h
    exact dgN_all _ j x hj h
  have HA : Hid _ := hall
  have HX : Hid _ := hex
  have HR : Hid (∀ m, r.size ≠ 0 → szR (r.data.toList.take (dgN r.data.toList)) = some m → sizeR r = ⟨(r.data.toList.drop (dgN r.data.toList)).toArray⟩ ∧ sizeK r = 0) := fun m h0 h => ⟨by rw [sizeR, if_neg h0, h], by rw [sizeK, if_neg h0, h]⟩
  have HN : Hid (r.size ≠ 0 → szR (r.data.toList.take (dgN r.data.toList)) = none → sizeR r = r ∧ sizeK r = 2) := fun h0 h => ⟨by rw [sizeR, if_neg h0, h], by rw [sizeK, if_neg h0, h]⟩
  have H0 : Hid (r.size = 0 → sizeR r = r ∧ sizeK r = 1) := fun h => ⟨by rw [sizeR, if_pos h], by rw [sizeK, if_pos h]⟩
  clear hall hex hL
  generalize (⟨(r.data.toList.drop (dgN r.data.toList)).toArray⟩ : ByteArray) = t at *
  rw [← hrz] at hdl
  clear hrz
  generalize dgN r.data.toList = d at *
  have he : (r.size : Int) - (t.size : Int) = (d : Int) := by omega
  have hwr : wrap64 ((r.size : Int) - (t.size : Int)) = (d : Int) := by rw [he]; exact IntWalk.wrap64_in _ ⟨by omega, by omega⟩
  have hwd : IntKind.wrap .i64 (d : Int) = (d : Int) := by
    have h1 : (d : Int) % (2 ^ IntKind.i64.bits : Int) = d := Int.emod_eq_of_lt (by omega) (by simp only [IntKind.bits]; omega)
    have h2 : ¬ (d : Int) ≥ (2 ^ (IntKind.i64.bits - 1) : Int) := by simp only [IntKind.bits]; omega
    simp only [IntKind.wrap, h1, h2, decide_false, Bool.and_false]
    rfl
  have hd1 : (d : Int) ≤ (r.size : Int) := by omega
  have hd2 : ¬ ((r.size : Int) < (d : Int)) := by omega
  have hd3 : t.size ≤ r.size := by omega
  have hd4 : r.size - t.size = d := by omega
  clear hbs
  obtain ⟨c0, c1, f0, f1⟩ := hw.cells
  go_enter Tryd.func40, Tryd.ntmps40
  go_wp2_with fail
  refine Calls.mono (HT.out w) ?_
  rintro e w1 ⟨rfl, hb1⟩
  have hw1 := hw.below hb1
  have HL1 : Hid (LibOk w1.drew) := (HL.out.below hb1).below (Below.refl _ _).drew
  clear c0 c1 f0 f1 HT HL hw
  obtain ⟨c0, c1, f0, f1⟩ := hw1.cells
  go_wp2_with fail
  have HC : Hid (Calls Tryd.prog 49 #[.string (r.extract 0 d)] w1.drew fun e w' => (∃ (n : Int) (ok : Bool), e = .returned (.tuple #[.int .i64 n, .bool ok]) ∧ -9223372036854775808 ≤ n ∧ n ≤ 9223372036854775807 ∧ Hid (ok = true → numI (r.extract 0 d).data.toList = some n) ∧ Hid (ok = false → numI (r.extract 0 d).data.toList = none)) ∧ Hid (Below w1.heap.size w1 w') ∧ WR w' b r 0) :=
    (num_any (r.extract 0 d) w1.drew (by rw [ByteArray.size_extract]; omega) HL1.out).mono fun e w' ⟨⟨n, ok, he, n0, n1, hok⟩, hb⟩ => ⟨⟨n, ok, he, n0, n1, fun h => by rw [h] at hok; exact hok, fun h => by rw [h] at hok; exact hok⟩, ((Below.refl _ _).drew).trans hb, hw1.below (((Below.refl _ _).drew).trans hb)⟩
  clear HL1
  go_region_with (first | (go_at_call 49; refine Calls.mono HC.out ?_; rintro e w2 ⟨⟨n, ok, rfl, n0, n1, HY, HQ⟩, HB2, hw2⟩))
  all_goals
    have HBW : Hid (Below b w w2) := (hb1.mono (Nat.le_of_lt hlt)).trans (HB2.out.mono (Nat.le_trans (Nat.le_of_lt hlt) hb1.size))
    clear c0 c1 f0 f1 hw1 hb1 HB2 hwr hwd he hd2 hd3 hd4
    obtain ⟨c0, c1, f0, f1⟩ := hw2.cells
    by_cases h0 : r.size = 0
    · have hq : (r.toList == []) = true := by
        rw [ByteArray.toList_eq]
        have := Lib.size_eq r
        cases hl : r.data.toList with
        | nil => rfl
        | cons x l => rw [hl, h0] at this; exact absurd this (by simp)
      obtain ⟨e1, e2⟩ := H0.out h0
      have HE1 : Hid _ := e1
      have HE2 : Hid _ := e2
      clear e1 e2
      go_wp2_with fail
      go_ret
      exact ⟨⟨n, rfl, n0, n1, fun m h => absurd h0 h⟩, by rw [HE1.out, HE2.out]; exact hw2.set1 1, HBW.out.trans (bset _ _ _ _)⟩
    · have hq : (r.toList == []) = false := by
        rw [ByteArray.toList_eq]
        have := Lib.size_eq r
        cases hl : r.data.toList with
        | nil => rw [hl] at this; exact absurd this h0
        | cons x l => rfl
      cases ok with
      | false =>
        have hn := HQ.out rfl
        rw [HX.out] at hn
        obtain ⟨e1, e2⟩ := HN.out h0 (szR_none hn)
        have HE1 : Hid _ := e1
        have HE2 : Hid _ := e2
        have HE3 : Hid _ := szR_none hn
        clear e1 e2 hn h0
        go_wp2_with fail
        go_ret
        exact ⟨⟨n, rfl, n0, n1, fun m _ h => by rw [HE3.out] at h; exact absurd h (by simp)⟩, by rw [HE1.out, HE2.out]; exact hw2.set1 2, HBW.out.trans (bset _ _ _ _)⟩
      | true =>
        have hn := HY.out rfl
        rw [HX.out] at hn
        by_cases h5 : 5000 < n
        · obtain ⟨e1, e2⟩ := HN.out h0 (szR_big hn h5)
          have HE1 : Hid _ := e1
          have HE2 : Hid _ := e2
          have HE3 : Hid _ := szR_big hn h5
          clear e1 e2 hn h0
          go_wp2_with fail
          go_ret
          exact ⟨⟨n, rfl, n0, n1, fun m _ h => by rw [HE3.out] at h; exact absurd h (by simp)⟩, by rw [HE1.out, HE2.out]; exact hw2.set1 2, HBW.out.trans (bset _ _ _ _)⟩
        · have hp := numI_pos hn HA.out
          have hz : szR (List.take d r.data.toList) = some n.toNat := by rw [szR, hn]; simp [hp, Int.not_lt.1 h5]
          obtain ⟨e1, e2⟩ := HR.out _ h0 hz
          have HE1 : Hid _ := e1
          have HE2 : Hid _ := e2
          have HE3 : Hid _ := hz
          clear e1 e2 hn hz h0
          go_wp2_with fail
          go_ret
          exact ⟨⟨n, rfl, n0, n1, fun m _ h => by rw [HE3.out] at h; have := Option.some.inj h; omega⟩, by rw [HE1.out, HE2.out]; exact hw2.set0 t, HBW.out.trans (bset _ _ _ _)⟩
end Go.Proofs.YtadjhnaiphnpoaaDoor
