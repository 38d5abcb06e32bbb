/- DrawGlyphs and DrawDecText: some short text, some number. -/
import Derived.Test.YtdaemdomlmpfmaaDoorDrawK
namespace Go.Proofs.YtdaemdomlmpfmaaDoor
open Go.RowKit

theorem lit_strs (wx : World) (e : TypeId) (ss : List ByteArray) : ∀ (j : Nat) (t : ByteArray), ss[j]? = some t → (wx.alloc (.cells (ss.map Value.string).toArray e)).cell? ⟨wx.heap.size, j, none⟩ = some (.string t) := by
  intro j t ht
  rw [cell_of_row _ wx.heap.size j _ e (0, 0) (heap_alloc_new wx _)]
  simp [ht]
theorem lit_ints (wx : World) (e : TypeId) (ss : List Int) : ∀ (j : Nat) (t : Int), ss[j]? = some t → (wx.alloc (.cells (ss.map (Value.int .i64)).toArray e)).cell? ⟨wx.heap.size, j, none⟩ = some (.int .i64 t) := by
  intro j t ht
  rw [cell_of_row _ wx.heap.size j _ e (0, 0) (heap_alloc_new wx _)]
  simp [ht]
def glS : List ByteArray := [⟨#[97]⟩, ⟨#[195, 169]⟩, ⟨#[230, 151, 165]⟩, ⟨#[240, 159, 152, 128]⟩, ⟨#[192, 128]⟩, ⟨#[237, 160, 128]⟩, ⟨#[128]⟩, ⟨#[230, 151]⟩, ⟨#[244, 144, 128, 128]⟩, ⟨#[255]⟩]
theorem glS_le (t : ByteArray) (h : t ∈ glS) : t.size ≤ 4 := by
  have : ∀ t ∈ glS, t.size ≤ 4 := by decide
  exact this t h

set_option maxRecDepth 100000 in
set_option maxHeartbeats 800000 in
theorem drawGlyphs_any (a : Option Addr) (len cap : Nat) (w : World) (hc : IsCode w w.heap.size a len cap) :
    Calls Tryd.prog 18 #[.slice a len cap] w fun e w' => ∃ s : ByteArray, e = .returned (.string s) ∧ s.size ≤ 28 ∧ Below w.heap.size w w' := by
  go_enter Tryd.func18, Tryd.ntmps18
  go_wp2_with fail
  refine (new_any w.heap.size a len cap w hc (Nat.le_refl _)).mono ?_
  rintro e w1 ⟨rfl, hC1, hb1⟩
  go_wp2_with fail
  refine (below_any w.heap.size w.heap.size 7 w1 hC1 (by omega)).mono ?_
  rintro e w2 ⟨n, rfl, hn0, _, hn1, hd2⟩
  have hn7 : n < 7 := hn1 (by omega)
  have hb2 : Below w.heap.size w w2 := hb1.trans (hd2.below hb1.size)
  have hC2 := hd2.cur
  clear hn1
  go_wp2_with fail
  go_loopw [4, 6] (fun v i wr => ∃ (k : Nat) (s : ByteArray), k ≤ 7 ∧ i = .int .i64 k ∧ v = .string s ∧ s.size ≤ 4 * k ∧ Cur wr w.heap.size w.heap.size ∧ Below w.heap.size w wr) (fun _ i _ => 7 - (intOf i).toNat)
  case atStart => exact ⟨0, ⟨#[]⟩, by omega, rfl, rfl, by decide, hC2, hb2⟩
  case round =>
    obtain ⟨k, s, hk, rfl, rfl, hs, hC, hb⟩ := hrel
    have hlt := cur_lt hC
    by_cases hkn : (k : Int) < n
    · go_wp2_with fail
      refine (pick_any w.heap.size w.heap.size glS wr.heap.size 10 _ (cur_alloc hC _) (by omega) (by decide) (by decide) (lit_strs wr _ glS)).mono ?_
      rintro e w3 ⟨t, rfl, ht, hd3⟩
      have ht4 := glS_le t ht
      clear ht
      go_wp2_with fail
      go_roundw
      case rel => exact ⟨k + 1, s ++ t, by omega, by go_num, rfl, by rw [ByteArray.size_append]; omega, hd3.cur, (hb.alloc hb.size _).trans (hd3.below (by simp; have := hb.size; omega))⟩
      case measure => simp [intOf]; omega
    · have hkn' : n ≤ k := by omega
      go_wp2_with fail
      go_ret
      exact ⟨s, rfl, by omega, hb⟩

set_option maxRecDepth 100000 in
set_option maxHeartbeats 800000 in
theorem drawDec_any (a : Option Addr) (len cap : Nat) (w : World) (hc : IsCode w w.heap.size a len cap) :
    Calls Tryd.prog 20 #[.slice a len cap] w fun e w' => ∃ n : Int, e = .returned (.int .i64 n) ∧ -9223372036854775808 ≤ n ∧ n ≤ 9223372036854775807 ∧ Below w.heap.size w w' := by
  go_enter Tryd.func20, Tryd.ntmps20
  go_wp2_with fail
  refine (new_any w.heap.size a len cap w hc (Nat.le_refl _)).mono ?_
  rintro e w1 ⟨rfl, hC1, hb1⟩
  go_wp2_with fail
  refine (below_any w.heap.size w.heap.size 100000 w1 hC1 (by omega)).mono ?_
  rintro e w2 ⟨x, rfl, hx0, _, hx1, hd2⟩
  have hx5 : x < 100000 := hx1 (by omega)
  have hb2 : Below w.heap.size w w2 := hb1.trans (hd2.below hb1.size)
  have hC2 := hd2.cur
  have hlt := cur_lt hC2
  clear hx1
  go_wp2_with fail
  refine (pickInt_any w.heap.size w.heap.size [0, -1, 10, 9223372036854775807, -9223372036854775808, x] w2.heap.size 6 _ (cur_alloc hC2 _) (by omega) (by simp) (by simp) (lit_ints w2 _ _)).mono ?_
  rintro e w3 ⟨t, rfl, ht, hd3⟩
  have ht4 : -9223372036854775808 ≤ t ∧ t ≤ 9223372036854775807 := by simp at ht; omega
  clear ht
  go_wp2_with fail
  go_ret
  exact ⟨t, rfl, ht4.1, ht4.2, (hb2.alloc hb2.size _).trans (hd3.below (by simp; have := hb2.size; omega))⟩
end Go.Proofs.YtdaemdomlmpfmaaDoor
