/- The draw of an expression's text. -/
import Derived.Test.YtadjhnaiphnpoaaDoorDrawK
import Derived.Test.YtadjhnaiphnpoaaDoorHasW
import Derived.Deep.RegionWith
namespace Go.Proofs.YtadjhnaiphnpoaaDoor
open Go.RowKit

theorem szL (l : Array UInt8) : (⟨l⟩ : ByteArray).size = l.size := rfl
/-- A draw of a text of at most n bytes. -/
def TextDraw (F : Nat) (z : Int) (n : Nat) : Prop :=
  ∀ (B c : Nat) (w : World), Cur w B c → Calls Tryd.prog F #[.pointer (some ⟨c, 0, none⟩), .int .i64 z] w fun e w' => ∃ s : ByteArray, e = .returned (.string s) ∧ s.size ≤ n ∧ Drawn B c w w'
def exS : List ByteArray := [⟨#[49]⟩, ⟨#[50]⟩, ⟨#[55]⟩, ⟨#[120]⟩, ⟨#[121]⟩, ⟨#[116]⟩, ⟨#[34, 115, 34]⟩, ⟨#[110, 105, 108]⟩, ⟨#[116, 114, 117, 101]⟩, ⟨#[102, 97, 108, 115, 101]⟩, ⟨#[123, 125]⟩, ⟨#[120]⟩, ⟨#[48]⟩, ⟨#[34, 34]⟩]
theorem exS_le (t : ByteArray) (h : t ∈ exS) : t.size ≤ 5 := by
  have : ∀ t ∈ exS, t.size ≤ 5 := by decide
  exact this t h
def unX : List ByteArray := [⟨#[45]⟩, ⟨#[110, 111, 116, 32]⟩, ⟨#[35]⟩]
theorem unX_le (t : ByteArray) (h : t ∈ unX) : t.size ≤ 4 := by
  have : ∀ t ∈ unX, t.size ≤ 4 := by decide
  exact this t h
def biX : List ByteArray := [⟨#[43]⟩, ⟨#[45]⟩, ⟨#[42]⟩, ⟨#[47, 47]⟩, ⟨#[37]⟩, ⟨#[46, 46]⟩, ⟨#[61, 61]⟩, ⟨#[126, 61]⟩, ⟨#[60]⟩, ⟨#[60, 61]⟩, ⟨#[62]⟩, ⟨#[62, 61]⟩, ⟨#[97, 110, 100]⟩, ⟨#[111, 114]⟩, ⟨#[43]⟩, ⟨#[43]⟩]
theorem biX_le (t : ByteArray) (h : t ∈ biX) : t.size ≤ 3 := by
  have : ∀ t ∈ biX, t.size ≤ 3 := by decide
  exact this t h

set_option maxRecDepth 100000 in
set_option maxHeartbeats 3200000 in
theorem expText_step (z : Int) (N : Nat) (hN : N ≤ 10000) (h1 : -1 ≤ z) (h2 : z ≤ 3) (ih : 0 < z → TextDraw 80 (z - 1) N) : TextDraw 80 z (2 * N + 60) := by
  intro B c w hC
  have hd0 := Drawn.refl hC
  by_cases hz : z ≤ 0
  · clear ih
    go_enter Tryd.func80, Tryd.ntmps80
    go_wp2_with fail
    have hlt := cur_lt hd0.cur
    refine (pick_any B c exS w.heap.size 14 _ (cur_alloc hd0.cur _) (by omega) (by decide) (by decide) (has_lits w _ exS)).mono ?_
    rintro e w2 ⟨s, rfl, hs, hd2⟩
    have hs' := exS_le s hs
    clear hs
    go_wp2_with fail
    go_ret
    exact ⟨_, rfl, by omega, (hd0.alloc _).trans hd2⟩
  · have ih' := ih (by omega)
    clear ih
    have hz1 : IntKind.i64.wrap (z - 1) = z - 1 := by rw [IntKind.wrap_i64]; omega
    go_enter Tryd.func80, Tryd.ntmps80
    go_wp2_with fail
    refine (once_any B c 3 _ hC (by decide)).mono ?_
    rintro e w1 ⟨x, rfl, hd1⟩
    cases x
    · go_wp2_with fail
      refine (below_any B c 12 _ hd1.cur (by decide)).mono ?_
      rintro e w2 ⟨n, rfl, hn0, _, hn1, hd2⟩
      have hn := hn1 (by decide)
      clear hn1
      have hd12 := hd1.trans hd2
      obtain rfl | rfl | rfl | rfl | rfl | rfl | h6 : n = 0 ∨ n = 1 ∨ n = 2 ∨ n = 3 ∨ n = 4 ∨ n = 5 ∨ 6 ≤ n := by omega
      · go_wp2_with fail
        refine (ih' B c _ hd12.cur).mono ?_
        rintro e w3 ⟨s, rfl, hs, hd3⟩
        go_wp2_with fail
        go_ret
        exact ⟨_, rfl, by simp only [ByteArray.size_append, szL, List.size_toArray, List.length_cons, List.length_nil]; omega, hd12.trans hd3⟩
      · go_wp2_with fail
        refine (ih' B c _ hd12.cur).mono ?_
        rintro e w3 ⟨s, rfl, hs, hd3⟩
        go_wp2_with fail
        go_ret
        exact ⟨_, rfl, by simp only [ByteArray.size_append, szL, List.size_toArray, List.length_cons, List.length_nil]; omega, hd12.trans hd3⟩
      · go_wp2_with fail
        have hlt := cur_lt hd12.cur
        refine (pick_any B c unX w2.heap.size 3 _ (cur_alloc hd12.cur _) (by omega) (by decide) (by decide) (has_lits w2 _ unX)).mono ?_
        rintro e w3 ⟨s, rfl, hs, hd3⟩
        have hs' := unX_le s hs
        clear hs
        have hd13 := (hd12.alloc _).trans hd3
        go_wp2_with fail
        refine (ih' B c _ hd13.cur).mono ?_
        rintro e w4 ⟨s4, rfl, hs4, hd4⟩
        go_wp2_with fail
        go_ret
        exact ⟨_, rfl, by simp only [ByteArray.size_append]; omega, hd13.trans hd4⟩
      · go_wp2_with fail
        refine (ih' B c _ hd12.cur).mono ?_
        rintro e w3 ⟨s, rfl, hs, hd3⟩
        go_wp2_with fail
        go_ret
        exact ⟨_, rfl, by simp only [ByteArray.size_append, szL, List.size_toArray, List.length_cons, List.length_nil]; omega, hd12.trans hd3⟩
      · go_wp2_with fail
        refine (ih' B c _ hd12.cur).mono ?_
        rintro e w3 ⟨s, rfl, hs, hd3⟩
        go_wp2_with fail
        go_ret
        exact ⟨_, rfl, by simp only [ByteArray.size_append, szL, List.size_toArray, List.length_cons, List.length_nil]; omega, hd12.trans hd3⟩
      · go_wp2_with fail
        go_ret
        exact ⟨_, rfl, by simp only [szL, List.size_toArray, List.length_cons, List.length_nil]; omega, hd12⟩
      · have n0 : ¬ n = 0 := by omega
        have n1 : ¬ n = 1 := by omega
        have n2 : ¬ n = 2 := by omega
        have n3 : ¬ n = 3 := by omega
        have n4 : ¬ n = 4 := by omega
        have n5 : ¬ n = 5 := by omega
        have hlt := cur_lt hd12.cur
        go_wp2_with fail
        refine (ih' B c _ hd12.cur).mono ?_
        rintro e w3 ⟨s, rfl, hs, hd3⟩
        have hd13 := hd12.trans hd3
        have hlt3 := cur_lt hd13.cur
        go_wp2_with fail
        refine (pick_any B c biX w3.heap.size 16 _ (cur_alloc hd13.cur _) (by omega) (by decide) (by decide) (has_lits w3 _ biX)).mono ?_
        rintro e w4 ⟨s4, rfl, hs4, hd4⟩
        have hs4' := biX_le s4 hs4
        clear hs4
        have hd14 := (hd13.alloc _).trans hd4
        go_wp2_with fail
        refine (ih' B c _ hd14.cur).mono ?_
        rintro e w5 ⟨s5, rfl, hs5, hd5⟩
        go_wp2_with fail
        go_ret
        exact ⟨_, rfl, by simp only [ByteArray.size_append, szL, List.size_toArray, List.length_cons, List.length_nil]; omega, hd14.trans hd5⟩
    · go_wp2_with fail
      have hlt := cur_lt hd1.cur
      refine (pick_any B c exS w1.heap.size 14 _ (cur_alloc hd1.cur _) (by omega) (by decide) (by decide) (has_lits w1 _ exS)).mono ?_
      rintro e w2 ⟨s, rfl, hs, hd2⟩
      have hs' := exS_le s hs
      clear hs
      go_wp2_with fail
      go_ret
      exact ⟨_, rfl, by omega, (hd1.alloc _).trans hd2⟩
/-- A text of an expression, at most two deep. -/
theorem expText_any (z : Int) (h1 : -1 ≤ z) (h2 : z ≤ 2) : TextDraw 80 z 420 := by
  have up : ∀ (z : Int) (n m : Nat), n ≤ m → TextDraw 80 z n → TextDraw 80 z m := fun z n m hnm H B c w hC => (H B c w hC).mono fun e w' ⟨s, he, hs, hd⟩ => ⟨s, he, by omega, hd⟩
  have e0 : ∀ z : Int, -1 ≤ z → z ≤ 0 → TextDraw 80 z 60 := fun z a b => expText_step z 0 (by omega) a (by omega) (fun h => by omega)
  have e1 : ∀ z : Int, -1 ≤ z → z ≤ 1 → TextDraw 80 z 180 := fun z a b => expText_step z 60 (by omega) a (by omega) (fun h => e0 _ (by omega) (by omega))
  exact expText_step z 180 (by omega) h1 (by omega) (fun h => e1 _ (by omega) (by omega))
end Go.Proofs.YtadjhnaiphnpoaaDoor
