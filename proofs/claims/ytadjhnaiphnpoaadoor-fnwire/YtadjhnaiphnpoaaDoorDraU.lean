/- The draw of a statement's text. -/
import Derived.Test.YtadjhnaiphnpoaaDoorDraT
namespace Go.Proofs.YtadjhnaiphnpoaaDoor
open Go.RowKit

def loS : List ByteArray := [⟨#[120]⟩, ⟨#[121]⟩, ⟨#[116]⟩]
theorem loS_le (t : ByteArray) (h : t ∈ loS) : t.size ≤ 1 := by
  have : ∀ t ∈ loS, t.size ≤ 1 := by decide
  exact this t h
def seS : List ByteArray := [⟨#[120]⟩, ⟨#[121]⟩, ⟨#[116, 46, 107]⟩, ⟨#[116, 91, 49, 93]⟩]
theorem seS_le (t : ByteArray) (h : t ∈ seS) : t.size ≤ 4 := by
  have : ∀ t ∈ seS, t.size ≤ 4 := by decide
  exact this t h

set_option maxRecDepth 100000 in
set_option maxHeartbeats 6400000 in
theorem statText_step (z : Int) (N : Nat) (hN : N ≤ 10000) (h1 : 0 ≤ z) (h2 : z ≤ 2) (ih : 0 < z → TextDraw 95 (z - 1) N) : TextDraw 95 z (2 * N + 960) := by
  intro B c w hC
  have hz1 : IntKind.i64.wrap (z - 1) = z - 1 := by rw [IntKind.wrap_i64]; omega
  go_enter Tryd.func95, Tryd.ntmps95
  go_wp2_with fail
  refine (expText_any z (by omega) (by omega) B c _ hC).mono ?_
  rintro e w1 ⟨s, rfl, hs, hd1⟩
  go_wp2_with fail
  refine (below_any B c 14 _ hd1.cur (by decide)).mono ?_
  rintro e w2 ⟨n, rfl, hn0, _, hn1, hd2⟩
  have hn := hn1 (by decide)
  clear hn1
  have hd12 := hd1.trans hd2
  obtain rfl | rfl | rfl | rfl | rfl | rfl | rfl | rfl | rfl | rfl | rfl | rfl | rfl | rfl : n = 0 ∨ n = 1 ∨ n = 2 ∨ n = 3 ∨ n = 4 ∨ n = 5 ∨ n = 6 ∨ n = 7 ∨ n = 8 ∨ n = 9 ∨ n = 10 ∨ n = 11 ∨ n = 12 ∨ n = 13 := by omega
  · have hlt3 := cur_lt hd12.cur
    go_wp2_with fail
    refine (pick_any B c loS w2.heap.size 3 _ (cur_alloc hd12.cur _) (by omega) (by decide) (by decide) (has_lits w2 _ loS)).mono ?_
    rintro e w3 ⟨t, rfl, ht, hd3⟩
    have ht' := loS_le t ht
    clear ht
    have hdd3 := (hd12.alloc _).trans hd3
    go_wp2_with fail
    go_ret
    exact ⟨_, rfl, by (try simp only [ByteArray.size_append]); (try simp only [szL, List.size_toArray, List.length_cons, List.length_nil]); omega, hdd3⟩
  · have hlt3 := cur_lt hd12.cur
    go_wp2_with fail
    refine (pick_any B c loS w2.heap.size 3 _ (cur_alloc hd12.cur _) (by omega) (by decide) (by decide) (has_lits w2 _ loS)).mono ?_
    rintro e w3 ⟨t, rfl, ht, hd3⟩
    have ht' := loS_le t ht
    clear ht
    have hdd3 := (hd12.alloc _).trans hd3
    go_wp2_with fail
    go_ret
    exact ⟨_, rfl, by (try simp only [ByteArray.size_append]); (try simp only [szL, List.size_toArray, List.length_cons, List.length_nil]); omega, hdd3⟩
  · go_wp2_with fail
    go_ret
    exact ⟨_, rfl, by (try simp only [ByteArray.size_append]); (try simp only [szL, List.size_toArray, List.length_cons, List.length_nil]); omega, hd12⟩
  · have hlt3 := cur_lt hd12.cur
    go_wp2_with fail
    refine (pick_any B c seS w2.heap.size 4 _ (cur_alloc hd12.cur _) (by omega) (by decide) (by decide) (has_lits w2 _ seS)).mono ?_
    rintro e w3 ⟨t, rfl, ht, hd3⟩
    have ht' := seS_le t ht
    clear ht
    have hdd3 := (hd12.alloc _).trans hd3
    go_wp2_with fail
    go_ret
    exact ⟨_, rfl, by (try simp only [ByteArray.size_append]); (try simp only [szL, List.size_toArray, List.length_cons, List.length_nil]); omega, hdd3⟩
  · have hlt3 := cur_lt hd12.cur
    go_wp2_with fail
    refine (pick_any B c seS w2.heap.size 4 _ (cur_alloc hd12.cur _) (by omega) (by decide) (by decide) (has_lits w2 _ seS)).mono ?_
    rintro e w3 ⟨t, rfl, ht, hd3⟩
    have ht' := seS_le t ht
    clear ht
    have hdd3 := (hd12.alloc _).trans hd3
    go_wp2_with fail
    go_ret
    exact ⟨_, rfl, by (try simp only [ByteArray.size_append]); (try simp only [szL, List.size_toArray, List.length_cons, List.length_nil]); omega, hdd3⟩
  · go_wp2_with fail
    go_ret
    exact ⟨_, rfl, by (try simp only [ByteArray.size_append]); (try simp only [szL, List.size_toArray, List.length_cons, List.length_nil]); omega, hd12⟩
  · go_wp2_with fail
    go_ret
    exact ⟨_, rfl, by (try simp only [ByteArray.size_append]); (try simp only [szL, List.size_toArray, List.length_cons, List.length_nil]); omega, hd12⟩
  · by_cases hz : 0 < z
    · have ih' := ih hz
      clear ih
      go_wp2_with fail
      refine (ih' B c _ hd12.cur).mono ?_
      rintro e w3 ⟨t, rfl, ht, hd3⟩
      have hdd3 := hd12.trans hd3
      go_wp2_with fail
      refine (ih' B c _ hdd3.cur).mono ?_
      rintro e w4 ⟨u, rfl, hu, hd4⟩
      have hdd4 := hdd3.trans hd4
      go_wp2_with fail
      go_ret
      exact ⟨_, rfl, by (try simp only [ByteArray.size_append]); (try simp only [szL, List.size_toArray, List.length_cons, List.length_nil]); omega, hdd4⟩
    · clear ih
      go_wp2_with fail
      go_ret
      exact ⟨_, rfl, by (try simp only [ByteArray.size_append]); (try simp only [szL, List.size_toArray, List.length_cons, List.length_nil]); omega, hd12⟩
  · by_cases hz : 0 < z
    · have ih' := ih hz
      clear ih
      go_wp2_with fail
      refine (ih' B c _ hd12.cur).mono ?_
      rintro e w3 ⟨t, rfl, ht, hd3⟩
      have hdd3 := hd12.trans hd3
      go_wp2_with fail
      go_ret
      exact ⟨_, rfl, by (try simp only [ByteArray.size_append]); (try simp only [szL, List.size_toArray, List.length_cons, List.length_nil]); omega, hdd3⟩
    · clear ih
      go_wp2_with fail
      go_ret
      exact ⟨_, rfl, by (try simp only [ByteArray.size_append]); (try simp only [szL, List.size_toArray, List.length_cons, List.length_nil]); omega, hd12⟩
  · by_cases hz : 0 < z
    · have ih' := ih hz
      clear ih
      go_wp2_with fail
      refine (ih' B c _ hd12.cur).mono ?_
      rintro e w3 ⟨t, rfl, ht, hd3⟩
      have hdd3 := hd12.trans hd3
      go_wp2_with fail
      go_ret
      exact ⟨_, rfl, by (try simp only [ByteArray.size_append]); (try simp only [szL, List.size_toArray, List.length_cons, List.length_nil]); omega, hdd3⟩
    · clear ih
      go_wp2_with fail
      go_ret
      exact ⟨_, rfl, by (try simp only [ByteArray.size_append]); (try simp only [szL, List.size_toArray, List.length_cons, List.length_nil]); omega, hd12⟩
  · have hlt3 := cur_lt hd12.cur
    go_wp2_with fail
    refine (pick_any B c [⟨#[114, 101, 116, 117, 114, 110, 32]⟩ ++ s, ⟨#[98, 114, 101, 97, 107]⟩, ⟨#[114, 101, 116, 117, 114, 110]⟩, ⟨#[120, 32, 61, 32, 120, 32, 43, 32, 49]⟩] w2.heap.size 4 _ (cur_alloc hd12.cur _) (by omega) (by simp) (by simp) (has_lits w2 _ [⟨#[114, 101, 116, 117, 114, 110, 32]⟩ ++ s, ⟨#[98, 114, 101, 97, 107]⟩, ⟨#[114, 101, 116, 117, 114, 110]⟩, ⟨#[120, 32, 61, 32, 120, 32, 43, 32, 49]⟩])).mono ?_
    rintro e w3 ⟨t, rfl, ht, hd3⟩
    have ht' : t.size ≤ 460 := by
      simp only [List.mem_cons, List.not_mem_nil, or_false] at ht
      rcases ht with rfl | rfl | rfl | rfl <;> simp only [ByteArray.size_append, szL, List.size_toArray, List.length_cons, List.length_nil] <;> omega
    clear ht
    have hdd3 := (hd12.alloc _).trans hd3
    go_wp2_with fail
    go_ret
    exact ⟨_, rfl, by (try simp only [ByteArray.size_append]); (try simp only [szL, List.size_toArray, List.length_cons, List.length_nil]); omega, hdd3⟩
  · go_wp2_with fail
    refine (expText_any (z - 1) (by omega) (by omega) B c _ hd12.cur).mono ?_
    rintro e w3 ⟨t, rfl, ht, hd3⟩
    have hdd3 := hd12.trans hd3
    go_wp2_with fail
    go_ret
    exact ⟨_, rfl, by (try simp only [ByteArray.size_append]); (try simp only [szL, List.size_toArray, List.length_cons, List.length_nil]); omega, hdd3⟩
  · have hlt3 := cur_lt hd12.cur
    go_wp2_with fail
    refine (pick_any B c [⟨#[101, 114, 114, 111, 114, 40]⟩ ++ s ++ ⟨#[41]⟩, ⟨#[114, 101, 116, 117, 114, 110, 32]⟩ ++ s, ⟨#[120, 32, 61, 32]⟩ ++ s] w2.heap.size 3 _ (cur_alloc hd12.cur _) (by omega) (by simp) (by simp) (has_lits w2 _ [⟨#[101, 114, 114, 111, 114, 40]⟩ ++ s ++ ⟨#[41]⟩, ⟨#[114, 101, 116, 117, 114, 110, 32]⟩ ++ s, ⟨#[120, 32, 61, 32]⟩ ++ s])).mono ?_
    rintro e w3 ⟨t, rfl, ht, hd3⟩
    have ht' : t.size ≤ 460 := by
      simp only [List.mem_cons, List.not_mem_nil, or_false] at ht
      rcases ht with rfl | rfl | rfl <;> simp only [ByteArray.size_append, szL, List.size_toArray, List.length_cons, List.length_nil] <;> omega
    clear ht
    have hdd3 := (hd12.alloc _).trans hd3
    go_wp2_with fail
    go_ret
    exact ⟨_, rfl, by (try simp only [ByteArray.size_append]); (try simp only [szL, List.size_toArray, List.length_cons, List.length_nil]); omega, hdd3⟩
  · go_wp2_with fail
    go_ret
    exact ⟨_, rfl, by (try simp only [ByteArray.size_append]); (try simp only [szL, List.size_toArray, List.length_cons, List.length_nil]); omega, hd12⟩
/-- A text of a statement, at most two deep. -/
theorem statText_any (z : Int) (h1 : 0 ≤ z) (h2 : z ≤ 2) : TextDraw 95 z 7000 := by
  have up : ∀ (z : Int) (n m : Nat), n ≤ m → TextDraw 95 z n → TextDraw 95 z m := fun z n m hnm H B c w hC => (H B c w hC).mono fun e w' ⟨s, he, hs, hd⟩ => ⟨s, he, by omega, hd⟩
  have e0 : ∀ z : Int, 0 ≤ z → z ≤ 0 → TextDraw 95 z 960 := fun z a b => statText_step z 0 (by omega) a (by omega) (fun h => by omega)
  have e1 : ∀ z : Int, 0 ≤ z → z ≤ 1 → TextDraw 95 z 2880 := fun z a b => statText_step z 960 (by omega) a (by omega) (fun h => e0 _ (by omega) (by omega))
  exact up _ 6720 _ (by omega) (statText_step z 2880 (by omega) h1 (by omega) (fun h => e1 _ (by omega) (by omega)))
end Go.Proofs.YtadjhnaiphnpoaaDoor
