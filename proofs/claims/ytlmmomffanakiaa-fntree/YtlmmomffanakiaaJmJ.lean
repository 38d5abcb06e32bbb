/- The draw of an expression's text. -/
import Derived.Test.YtlmmomffanakiaaDrawK
import Derived.Test.YtlmmomffanakiaaJmA
import Derived.Deep.RegionWith
namespace Go.Proofs.Ytlmmomffanakiaa
open Go.RowKit

theorem szL (l : Array UInt8) : (⟨l⟩ : ByteArray).size = l.size := rfl
/-- A draw of a text of at most n bytes. -/
def TextDraw (F : Nat) (z : Int) (n : Nat) : Prop :=
  ∀ (B c : Nat) (w : World), Cur w B c → Calls Try.prog F #[.pointer (some ⟨c, 0, none⟩), .int .i64 z] w fun e w' => ∃ s : ByteArray, e = .returned (.string s) ∧ s.size ≤ n ∧ Drawn B c w w'
def exS : List ByteArray := [⟨#[49]⟩, ⟨#[50]⟩, ⟨#[55]⟩, ⟨#[120]⟩, ⟨#[121]⟩, ⟨#[116]⟩, ⟨#[34, 115, 34]⟩, ⟨#[110, 105, 108]⟩, ⟨#[116, 114, 117, 101]⟩, ⟨#[102, 97, 108, 115, 101]⟩, ⟨#[123, 125]⟩, ⟨#[120]⟩, ⟨#[48]⟩, ⟨#[34, 34]⟩]
theorem exS_le (t : ByteArray) (h : t ∈ exS) : t.size ≤ 5 := by
  have : ∀ t ∈ exS, t.size ≤ 5 := by decide
  exact this t h
def unX : List ByteArray := [⟨#[45]⟩, ⟨#[110, 111, 116, 32]⟩, ⟨#[35]⟩]
theorem unX_le (t : ByteArray) (h : t ∈ unX) : t.size ≤ 4 := by
  have : ∀ t ∈ unX, t.size ≤ 4 := by decide
  exact this t h
def biX : List ByteArray := [⟨#[43]⟩, ⟨#[45]⟩, ⟨#[42]⟩, ⟨#[47, 47]⟩, ⟨#[37]⟩, ⟨#[46, 46]⟩, ⟨#[61, 61]⟩, ⟨#[126, 61]⟩, ⟨#[60]⟩, ⟨#[60, 61]⟩, ⟨#[62]⟩, ⟨#[62, 61]⟩, ⟨#[97, 110, 100]⟩, ⟨#[111, 114]⟩, ⟨#[43]⟩, ⟨#[43]⟩]
theorem biX_le (t : ByteArray) (h : t ∈ biX) : t.size ≤ 3 := by
  have : ∀ t ∈ biX, t.size ≤ 3 := by decide
  exact this t h

set_option maxRecDepth 100000 in
set_option maxHeartbeats 3200000 in
theorem expText_step (z : Int) (N : Nat) (hN : N ≤ 10000) (h1 : -1 ≤ z) (h2 : z ≤ 3) (ih : 0 < z → TextDraw 48 (z - 1) N) : TextDraw 48 z (2 * N + 60) := by
  intro B c w hC
  have hd0 := Drawn.refl hC
  by_cases hz : z ≤ 0
  · clear ih
    go_enter Try.func48, Try.ntmps48
    go_wp2_with fail
    have hlt := cur_lt hd0.cur
    refine (pick_any B c exS w.heap.size 14 _ (cur_alloc hd0.cur _) (by omega) (by decide) (by decide) (has_lits w _ exS)).mono ?_
    rintro e w2 ⟨s, rfl, hs, hd2⟩
    have hs' := exS_le s hs
    clear hs
    go_wp2_with fail
    go_ret
    exact ⟨_, rfl, by omega, (hd0.alloc _).trans hd2⟩
  · have ih' := ih (by omega)
    clear ih
    have hz1 : IntKind.i64.wrap (z - 1) = z - 1 := by rw [IntKind.wrap_i64]; omega
    go_enter Try.func48, Try.ntmps48
    go_wp2_with fail
    refine (once_any B c 3 _ hC (by decide)).mono ?_
    rintro e w1 ⟨x, rfl, hd1⟩
    cases x
    · go_wp2_with fail
      refine (below_any B c 12 _ hd1.cur (by decide)).mono ?_
      rintro e w2 ⟨n, rfl, hn0, _, hn1, hd2⟩
      have hn := hn1 (by decide)
      clear hn1
      have hd12 := hd1.trans hd2
      obtain rfl | rfl | rfl | rfl | rfl | rfl | h6 : n = 0 ∨ n = 1 ∨ n = 2 ∨ n = 3 ∨ n = 4 ∨ n = 5 ∨ 6 ≤ n := by omega
      · go_wp2_with fail
        refine (ih' B c _ hd12.cur).mono ?_
        rintro e w3 ⟨s, rfl, hs, hd3⟩
        go_wp2_with fail
        go_ret
        exact ⟨_, rfl, by simp only [ByteArray.size_append, szL, List.size_toArray, List.length_cons, List.length_nil]; omega, hd12.trans hd3⟩
      · go_wp2_with fail
        refine (ih' B c _ hd12.cur).mono ?_
        rintro e w3 ⟨s, rfl, hs, hd3⟩
        go_wp2_with fail
        go_ret
        exact ⟨_, rfl, by simp only [ByteArray.size_append, szL, List.size_toArray, List.length_cons, List.length_nil]; omega, hd12.trans hd3⟩
      · go_wp2_with fail
        have hlt := cur_lt hd12.cur
        refine (pick_any B c unX w2.heap.size 3 _ (cur_alloc hd12.cur _) (by omega) (by decide) (by decide) (has_lits w2 _ unX)).mono ?_
        rintro e w3 ⟨s, rfl, hs, hd3⟩
        have hs' := unX_le s hs
        clear hs
        have hd13 := (hd12.alloc _).trans hd3
        go_wp2_with fail
        refine (ih' B c _ hd13.cur).mono ?_
        rintro e w4 ⟨s4, rfl, hs4, hd4⟩
        go_wp2_with fail
        go_ret
        exact ⟨_, rfl, by simp only [ByteArray.size_append]; omega, hd13.trans hd4⟩
      · go_wp2_with fail
        refine (ih' B c _ hd12.cur).mono ?_
        rintro e w3 ⟨s, rfl, hs, hd3⟩
        go_wp2_with fail
        go_ret
        exact ⟨_, rfl, by simp only [ByteArray.size_append, szL, List.size_toArray, List.length_cons, List.length_nil]; omega, hd12.trans hd3⟩
      · go_wp2_with fail
        refine (ih' B c _ hd12.cur).mono ?_
        rintro e w3 ⟨s, rfl, hs, hd3⟩
        go_wp2_with fail
        go_ret
        exact ⟨_, rfl, by simp only [ByteArray.size_append, szL, List.size_toArray, List.length_cons, List.length_nil]; omega, hd12.trans hd3⟩
      · go_wp2_with fail
        go_ret
        exact ⟨_, rfl, by simp only [szL, List.size_toArray, List.length_cons, List.length_nil]; omega, hd12⟩
      · have n0 : ¬ n = 0 := by omega
        have n1 : ¬ n = 1 := by omega
        have n2 : ¬ n = 2 := by omega
        have n3 : ¬ n = 3 := by omega
        have n4 : ¬ n = 4 := by omega
        have n5 : ¬ n = 5 := by omega
        have hlt := cur_lt hd12.cur
        go_wp2_with fail
        refine (ih' B c _ hd12.cur).mono ?_
        rintro e w3 ⟨s, rfl, hs, hd3⟩
        have hd13 := hd12.trans hd3
        have hlt3 := cur_lt hd13.cur
        go_wp2_with fail
        refine (pick_any B c biX w3.heap.size 16 _ (cur_alloc hd13.cur _) (by omega) (by decide) (by decide) (has_lits w3 _ biX)).mono ?_
        rintro e w4 ⟨s4, rfl, hs4, hd4⟩
        have hs4' := biX_le s4 hs4
        clear hs4
        have hd14 := (hd13.alloc _).trans hd4
        go_wp2_with fail
        refine (ih' B c _ hd14.cur).mono ?_
        rintro e w5 ⟨s5, rfl, hs5, hd5⟩
        go_wp2_with fail
        go_ret
        exact ⟨_, rfl, by simp only [ByteArray.size_append, szL, List.size_toArray, List.length_cons, List.length_nil]; omega, hd14.trans hd5⟩
    · go_wp2_with fail
      have hlt := cur_lt hd1.cur
      refine (pick_any B c exS w1.heap.size 14 _ (cur_alloc hd1.cur _) (by omega) (by decide) (by decide) (has_lits w1 _ exS)).mono ?_
      rintro e w2 ⟨s, rfl, hs, hd2⟩
      have hs' := exS_le s hs
      clear hs
      go_wp2_with fail
      go_ret
      exact ⟨_, rfl, by omega, (hd1.alloc _).trans hd2⟩
/-- A text of an expression, at most two deep. -/
theorem expText_any (z : Int) (h1 : -1 ≤ z) (h2 : z ≤ 2) : TextDraw 48 z 420 := by
  have up : ∀ (z : Int) (n m : Nat), n ≤ m → TextDraw 48 z n → TextDraw 48 z m := fun z n m hnm H B c w hC => (H B c w hC).mono fun e w' ⟨s, he, hs, hd⟩ => ⟨s, he, by omega, hd⟩
  have e0 : ∀ z : Int, -1 ≤ z → z ≤ 0 → TextDraw 48 z 60 := fun z a b => expText_step z 0 (by omega) a (by omega) (fun h => by omega)
  have e1 : ∀ z : Int, -1 ≤ z → z ≤ 1 → TextDraw 48 z 180 := fun z a b => expText_step z 60 (by omega) a (by omega) (fun h => e0 _ (by omega) (by omega))
  exact expText_step z 180 (by omega) h1 (by omega) (fun h => e1 _ (by omega) (by omega))
end Go.Proofs.Ytlmmomffanakiaa
namespace Go.Proofs.Ytlmmomffanakiaa
open Go.RowKit

def loS : List ByteArray := [⟨#[120]⟩, ⟨#[121]⟩, ⟨#[116]⟩]
theorem loS_le (t : ByteArray) (h : t ∈ loS) : t.size ≤ 1 := by
  have : ∀ t ∈ loS, t.size ≤ 1 := by decide
  exact this t h
def seS : List ByteArray := [⟨#[120]⟩, ⟨#[121]⟩, ⟨#[116, 46, 107]⟩, ⟨#[116, 91, 49, 93]⟩]
theorem seS_le (t : ByteArray) (h : t ∈ seS) : t.size ≤ 4 := by
  have : ∀ t ∈ seS, t.size ≤ 4 := by decide
  exact this t h

set_option maxRecDepth 100000 in
set_option maxHeartbeats 6400000 in
theorem statText_step (z : Int) (N : Nat) (hN : N ≤ 10000) (h1 : 0 ≤ z) (h2 : z ≤ 2) (ih : 0 < z → TextDraw 39 (z - 1) N) : TextDraw 39 z (2 * N + 960) := by
  intro B c w hC
  have hz1 : IntKind.i64.wrap (z - 1) = z - 1 := by rw [IntKind.wrap_i64]; omega
  go_enter Try.func39, Try.ntmps39
  go_wp2_with fail
  refine (expText_any z (by omega) (by omega) B c _ hC).mono ?_
  rintro e w1 ⟨s, rfl, hs, hd1⟩
  go_wp2_with fail
  refine (below_any B c 14 _ hd1.cur (by decide)).mono ?_
  rintro e w2 ⟨n, rfl, hn0, _, hn1, hd2⟩
  have hn := hn1 (by decide)
  clear hn1
  have hd12 := hd1.trans hd2
  obtain rfl | rfl | rfl | rfl | rfl | rfl | rfl | rfl | rfl | rfl | rfl | rfl | rfl | rfl : n = 0 ∨ n = 1 ∨ n = 2 ∨ n = 3 ∨ n = 4 ∨ n = 5 ∨ n = 6 ∨ n = 7 ∨ n = 8 ∨ n = 9 ∨ n = 10 ∨ n = 11 ∨ n = 12 ∨ n = 13 := by omega
  · have hlt3 := cur_lt hd12.cur
    go_wp2_with fail
    refine (pick_any B c loS w2.heap.size 3 _ (cur_alloc hd12.cur _) (by omega) (by decide) (by decide) (has_lits w2 _ loS)).mono ?_
    rintro e w3 ⟨t, rfl, ht, hd3⟩
    have ht' := loS_le t ht
    clear ht
    have hdd3 := (hd12.alloc _).trans hd3
    go_wp2_with fail
    go_ret
    exact ⟨_, rfl, by (try simp only [ByteArray.size_append]); (try simp only [szL, List.size_toArray, List.length_cons, List.length_nil]); omega, hdd3⟩
  · have hlt3 := cur_lt hd12.cur
    go_wp2_with fail
    refine (pick_any B c loS w2.heap.size 3 _ (cur_alloc hd12.cur _) (by omega) (by decide) (by decide) (has_lits w2 _ loS)).mono ?_
    rintro e w3 ⟨t, rfl, ht, hd3⟩
    have ht' := loS_le t ht
    clear ht
    have hdd3 := (hd12.alloc _).trans hd3
    go_wp2_with fail
    go_ret
    exact ⟨_, rfl, by (try simp only [ByteArray.size_append]); (try simp only [szL, List.size_toArray, List.length_cons, List.length_nil]); omega, hdd3⟩
  · go_wp2_with fail
    go_ret
    exact ⟨_, rfl, by (try simp only [ByteArray.size_append]); (try simp only [szL, List.size_toArray, List.length_cons, List.length_nil]); omega, hd12⟩
  · have hlt3 := cur_lt hd12.cur
    go_wp2_with fail
    refine (pick_any B c seS w2.heap.size 4 _ (cur_alloc hd12.cur _) (by omega) (by decide) (by decide) (has_lits w2 _ seS)).mono ?_
    rintro e w3 ⟨t, rfl, ht, hd3⟩
    have ht' := seS_le t ht
    clear ht
    have hdd3 := (hd12.alloc _).trans hd3
    go_wp2_with fail
    go_ret
    exact ⟨_, rfl, by (try simp only [ByteArray.size_append]); (try simp only [szL, List.size_toArray, List.length_cons, List.length_nil]); omega, hdd3⟩
  · have hlt3 := cur_lt hd12.cur
    go_wp2_with fail
    refine (pick_any B c seS w2.heap.size 4 _ (cur_alloc hd12.cur _) (by omega) (by decide) (by decide) (has_lits w2 _ seS)).mono ?_
    rintro e w3 ⟨t, rfl, ht, hd3⟩
    have ht' := seS_le t ht
    clear ht
    have hdd3 := (hd12.alloc _).trans hd3
    go_wp2_with fail
    go_ret
    exact ⟨_, rfl, by (try simp only [ByteArray.size_append]); (try simp only [szL, List.size_toArray, List.length_cons, List.length_nil]); omega, hdd3⟩
  · go_wp2_with fail
    go_ret
    exact ⟨_, rfl, by (try simp only [ByteArray.size_append]); (try simp only [szL, List.size_toArray, List.length_cons, List.length_nil]); omega, hd12⟩
  · go_wp2_with fail
    go_ret
    exact ⟨_, rfl, by (try simp only [ByteArray.size_append]); (try simp only [szL, List.size_toArray, List.length_cons, List.length_nil]); omega, hd12⟩
  · by_cases hz : 0 < z
    · have ih' := ih hz
      clear ih
      go_wp2_with fail
      refine (ih' B c _ hd12.cur).mono ?_
      rintro e w3 ⟨t, rfl, ht, hd3⟩
      have hdd3 := hd12.trans hd3
      go_wp2_with fail
      refine (ih' B c _ hdd3.cur).mono ?_
      rintro e w4 ⟨u, rfl, hu, hd4⟩
      have hdd4 := hdd3.trans hd4
      go_wp2_with fail
      go_ret
      exact ⟨_, rfl, by (try simp only [ByteArray.size_append]); (try simp only [szL, List.size_toArray, List.length_cons, List.length_nil]); omega, hdd4⟩
    · clear ih
      go_wp2_with fail
      go_ret
      exact ⟨_, rfl, by (try simp only [ByteArray.size_append]); (try simp only [szL, List.size_toArray, List.length_cons, List.length_nil]); omega, hd12⟩
  · by_cases hz : 0 < z
    · have ih' := ih hz
      clear ih
      go_wp2_with fail
      refine (ih' B c _ hd12.cur).mono ?_
      rintro e w3 ⟨t, rfl, ht, hd3⟩
      have hdd3 := hd12.trans hd3
      go_wp2_with fail
      go_ret
      exact ⟨_, rfl, by (try simp only [ByteArray.size_append]); (try simp only [szL, List.size_toArray, List.length_cons, List.length_nil]); omega, hdd3⟩
    · clear ih
      go_wp2_with fail
      go_ret
      exact ⟨_, rfl, by (try simp only [ByteArray.size_append]); (try simp only [szL, List.size_toArray, List.length_cons, List.length_nil]); omega, hd12⟩
  · by_cases hz : 0 < z
    · have ih' := ih hz
      clear ih
      go_wp2_with fail
      refine (ih' B c _ hd12.cur).mono ?_
      rintro e w3 ⟨t, rfl, ht, hd3⟩
      have hdd3 := hd12.trans hd3
      go_wp2_with fail
      go_ret
      exact ⟨_, rfl, by (try simp only [ByteArray.size_append]); (try simp only [szL, List.size_toArray, List.length_cons, List.length_nil]); omega, hdd3⟩
    · clear ih
      go_wp2_with fail
      go_ret
      exact ⟨_, rfl, by (try simp only [ByteArray.size_append]); (try simp only [szL, List.size_toArray, List.length_cons, List.length_nil]); omega, hd12⟩
  · have hlt3 := cur_lt hd12.cur
    go_wp2_with fail
    refine (pick_any B c [⟨#[114, 101, 116, 117, 114, 110, 32]⟩ ++ s, ⟨#[98, 114, 101, 97, 107]⟩, ⟨#[114, 101, 116, 117, 114, 110]⟩, ⟨#[120, 32, 61, 32, 120, 32, 43, 32, 49]⟩] w2.heap.size 4 _ (cur_alloc hd12.cur _) (by omega) (by simp) (by simp) (has_lits w2 _ [⟨#[114, 101, 116, 117, 114, 110, 32]⟩ ++ s, ⟨#[98, 114, 101, 97, 107]⟩, ⟨#[114, 101, 116, 117, 114, 110]⟩, ⟨#[120, 32, 61, 32, 120, 32, 43, 32, 49]⟩])).mono ?_
    rintro e w3 ⟨t, rfl, ht, hd3⟩
    have ht' : t.size ≤ 460 := by
      simp only [List.mem_cons, List.not_mem_nil, or_false] at ht
      rcases ht with rfl | rfl | rfl | rfl <;> simp only [ByteArray.size_append, szL, List.size_toArray, List.length_cons, List.length_nil] <;> omega
    clear ht
    have hdd3 := (hd12.alloc _).trans hd3
    go_wp2_with fail
    go_ret
    exact ⟨_, rfl, by (try simp only [ByteArray.size_append]); (try simp only [szL, List.size_toArray, List.length_cons, List.length_nil]); omega, hdd3⟩
  · go_wp2_with fail
    refine (expText_any (z - 1) (by omega) (by omega) B c _ hd12.cur).mono ?_
    rintro e w3 ⟨t, rfl, ht, hd3⟩
    have hdd3 := hd12.trans hd3
    go_wp2_with fail
    go_ret
    exact ⟨_, rfl, by (try simp only [ByteArray.size_append]); (try simp only [szL, List.size_toArray, List.length_cons, List.length_nil]); omega, hdd3⟩
  · have hlt3 := cur_lt hd12.cur
    go_wp2_with fail
    refine (pick_any B c [⟨#[101, 114, 114, 111, 114, 40]⟩ ++ s ++ ⟨#[41]⟩, ⟨#[114, 101, 116, 117, 114, 110, 32]⟩ ++ s, ⟨#[120, 32, 61, 32]⟩ ++ s] w2.heap.size 3 _ (cur_alloc hd12.cur _) (by omega) (by simp) (by simp) (has_lits w2 _ [⟨#[101, 114, 114, 111, 114, 40]⟩ ++ s ++ ⟨#[41]⟩, ⟨#[114, 101, 116, 117, 114, 110, 32]⟩ ++ s, ⟨#[120, 32, 61, 32]⟩ ++ s])).mono ?_
    rintro e w3 ⟨t, rfl, ht, hd3⟩
    have ht' : t.size ≤ 460 := by
      simp only [List.mem_cons, List.not_mem_nil, or_false] at ht
      rcases ht with rfl | rfl | rfl <;> simp only [ByteArray.size_append, szL, List.size_toArray, List.length_cons, List.length_nil] <;> omega
    clear ht
    have hdd3 := (hd12.alloc _).trans hd3
    go_wp2_with fail
    go_ret
    exact ⟨_, rfl, by (try simp only [ByteArray.size_append]); (try simp only [szL, List.size_toArray, List.length_cons, List.length_nil]); omega, hdd3⟩
  · go_wp2_with fail
    go_ret
    exact ⟨_, rfl, by (try simp only [ByteArray.size_append]); (try simp only [szL, List.size_toArray, List.length_cons, List.length_nil]); omega, hd12⟩
/-- A text of a statement, at most two deep. -/
theorem statText_any (z : Int) (h1 : 0 ≤ z) (h2 : z ≤ 2) : TextDraw 39 z 7000 := by
  have up : ∀ (z : Int) (n m : Nat), n ≤ m → TextDraw 39 z n → TextDraw 39 z m := fun z n m hnm H B c w hC => (H B c w hC).mono fun e w' ⟨s, he, hs, hd⟩ => ⟨s, he, by omega, hd⟩
  have e0 : ∀ z : Int, 0 ≤ z → z ≤ 0 → TextDraw 39 z 960 := fun z a b => statText_step z 0 (by omega) a (by omega) (fun h => by omega)
  have e1 : ∀ z : Int, 0 ≤ z → z ≤ 1 → TextDraw 39 z 2880 := fun z a b => statText_step z 960 (by omega) a (by omega) (fun h => e0 _ (by omega) (by omega))
  exact up _ 6720 _ (by omega) (statText_step z 2880 (by omega) h1 (by omega) (fun h => e1 _ (by omega) (by omega)))
end Go.Proofs.Ytlmmomffanakiaa
namespace Go.Proofs.Ytlmmomffanakiaa
open Go.RowKit

def enS : List ByteArray := [⟨#[10]⟩, ⟨#[59, 10]⟩, ⟨#[32, 45, 45, 32, 99, 10]⟩, ⟨#[32, 59, 32]⟩]
theorem enS_le (t : ByteArray) (h : t ∈ enS) : t.size ≤ 6 := by
  have : ∀ t ∈ enS, t.size ≤ 6 := by decide
  exact this t h

set_option maxRecDepth 100000 in
set_option maxHeartbeats 1600000 in
theorem source_any (z : Int) (h1 : 0 ≤ z) (h2 : z ≤ 5) : TextDraw 31 z 40000 := by
  intro B c w hC
  have hd0 := Drawn.refl hC
  go_enter Try.func31, Try.ntmps31
  go_wp2_with fail
  go_loopw [5, 6] (fun s x wr => ∃ (u : ByteArray) (i : Nat), s = .string u ∧ x = .int .i64 i ∧ u.size ≤ 100 + 7006 * i ∧ (i : Int) ≤ z ∧ Drawn B c w wr) (fun _ x _ => z.toNat - (intOf x).toNat)
  case atStart => exact ⟨_, 0, rfl, rfl, by decide, by omega, hd0⟩
  case round =>
    obtain ⟨u, i, rfl, rfl, hu, hi, hd⟩ := hrel
    by_cases hlt : (i : Int) < z
    · go_wp2_with fail
      refine (statText_any 2 (by omega) (by omega) B c _ hd.cur).mono ?_
      rintro e w1 ⟨s, rfl, hs, hd1⟩
      have hd1' := hd.trans hd1
      have hlt1 := cur_lt hd1'.cur
      go_wp2_with fail
      refine (pick_any B c enS w1.heap.size 4 _ (cur_alloc hd1'.cur _) (by omega) (by decide) (by decide) (has_lits w1 _ enS)).mono ?_
      rintro e w2 ⟨t, rfl, ht, hd2⟩
      have ht' := enS_le t ht
      clear ht
      have hd2' := (hd1'.alloc _).trans hd2
      go_wp2_with fail
      go_roundw
      case rel => exact ⟨_, i + 1, rfl, by go_num, by simp only [ByteArray.size_append]; omega, by omega, hd2'⟩
      case measure => simp [intOf]; omega
    · go_wp2_with fail
      go_ret
      exact ⟨_, rfl, by omega, hd⟩
end Go.Proofs.Ytlmmomffanakiaa
