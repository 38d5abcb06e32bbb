/- Texts that are spoilt; the draws of the laws on commands. -/
import Derived.Test.YtadjhnaiphnpoaaDoorDrC
import Derived.Test.YtadjhnaiphnpoaaDoorCodeA
import Derived.Deep.RegionHeld3
namespace Go.Proofs.YtadjhnaiphnpoaaDoor
open Go.RowKit

def spoS : List ByteArray := [⟨#[48]⟩, ⟨#[13]⟩, ⟨#[32]⟩, ⟨#[120]⟩, ⟨#[57]⟩]
theorem spoS_le (t : ByteArray) (h : t ∈ spoS) : t.size ≤ 1 := (show ∀ t ∈ spoS, t.size ≤ 1 by decide) t h

theorem cmdT_size (s : ByteArray) (n : Int) (x : ByteArray) (hs : s.size ≤ 10) (hx : x.size ≤ 50000) (n0 : -9223372036854775808 ≤ n) (n1 : n ≤ 9223372036854775807) : (cmdT s n x).size ≤ 50050 := by
  have hz := numT_size n n0 n1
  have e1 : blankT.size = 1 := rfl
  have e0 : (⟨#[]⟩ : ByteArray).size = 0 := rfl
  unfold cmdT
  split
  · omega
  · split
    · split
      · simp only [ByteArray.size_append]; omega
      · omega
    · split
      · simp only [ByteArray.size_append]; omega
      · omega

set_option maxRecDepth 100000 in
set_option maxHeartbeats 3200000 in
theorem spoil_any (B c : Nat) (s : ByteArray) (w : World) (hs : s.size ≤ 2000000) (hC : Cur w B c) : Calls Tryd.prog 56 #[.pointer (some ⟨c, 0, none⟩), .string s] w fun e w' => ∃ t : ByteArray, e = .returned (.string t) ∧ t.size ≤ s.size + 1 ∧ Drawn B c w w' := by
  have hd0 := Drawn.refl hC
  go_enter Tryd.func56, Tryd.ntmps56
  go_wp2_with fail
  refine (below_any B c ((s.size : Int) + 1) _ hd0.cur (by omega)).mono ?_
  rintro e w1 ⟨x, rfl, hx0, _, hx1, hq1⟩
  obtain ⟨i, rfl⟩ := Int.eq_ofNat_of_zero_le hx0
  have hi : i ≤ s.size := by have := hx1 (by omega); omega
  have hd1 := hd0.trans hq1
  clear hx0 hx1 hq1 hd0
  go_wp2_with fail
  refine (below_any B c 6 _ hd1.cur (by decide)).mono ?_
  rintro e w2 ⟨n, rfl, hn0, _, hn1, hq2⟩
  have hn := hn1 (by decide)
  have hd2 := hd1.trans hq2
  clear hn1 hd1 hq2
  obtain rfl | rfl | h2 : n = 0 ∨ n = 1 ∨ 2 ≤ n := by omega
  · go_wp2_with fail
    go_ret
    exact ⟨_, rfl, by rw [ByteArray.size_extract]; omega, hd2⟩
  · have hlt := cur_lt hd2.cur
    have hP : Hid (∀ o : Nat × Nat, Calls Tryd.prog 55 #[.pointer (some ⟨c, 0, none⟩), .slice (some ⟨w2.heap.size, 0, none⟩) 5 5] (w2.drew.alloc (.cells (spoS.map Value.string).toArray 9)) fun e w' => ∃ t : ByteArray, e = .returned (.string t) ∧ t.size ≤ 1 ∧ Drawn B c w w') := fun _ =>
      (pick_any B c spoS w2.heap.size 5 _ (cur_alloc (cur_drew hd2.cur) _) (by omega) (by decide) (by decide) (has_lits w2.drew _ spoS)).mono fun e w' ⟨t, he, ht, hd⟩ => ⟨t, he, spoS_le t ht, ((hd2.drew).alloc _).trans hd⟩
    have e1 : (s.extract 0 i).size = i := by rw [ByteArray.size_extract]; omega
    have e2 : (s.extract i s.size).size = s.size - i := by rw [ByteArray.size_extract]; omega
    have hi1 : (i : Int) ≤ (s.size : Int) := by omega
    clear hd2
    go_wp2_with fail
    go_region_with (first | (go_at_call 55; refine Calls.mono (hP.out (0, 0)) ?_; rintro e w3 ⟨t, rfl, ht, hd3⟩; have f1 : ¬ 9223372036854775807 < i + t.size := (by omega); have f2 : ¬ 9223372036854775807 < i + t.size + (s.size - i) := (by omega); have f3 : (s.extract 0 i ++ t).size = i + t.size := (by rw [ByteArray.size_append, e1])))
    all_goals
      go_wp2_with fail
      go_ret
      exact ⟨_, rfl, by simp only [ByteArray.size_append, e1, e2]; omega, hd3⟩
  · have n0 : ¬ n = 0 := by omega
    have n1 : ¬ n = 1 := by omega
    go_wp2_with fail
    go_ret
    exact ⟨s, rfl, by omega, hd2⟩

end Go.Proofs.YtadjhnaiphnpoaaDoor
