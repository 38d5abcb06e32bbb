/- The draw of a program's text. -/
import Derived.Test.YtadjhnaiphnpoaaDoorDraU
namespace Go.Proofs.YtadjhnaiphnpoaaDoor
open Go.RowKit

def enS : List ByteArray := [⟨#[10]⟩, ⟨#[59, 10]⟩, ⟨#[32, 45, 45, 32, 99, 10]⟩, ⟨#[32, 59, 32]⟩]
theorem enS_le (t : ByteArray) (h : t ∈ enS) : t.size ≤ 6 := by
  have : ∀ t ∈ enS, t.size ≤ 6 := by decide
  exact this t h

set_option maxRecDepth 100000 in
set_option maxHeartbeats 1600000 in
theorem source_any (z : Int) (h1 : 0 ≤ z) (h2 : z ≤ 5) : TextDraw 81 z 40000 := by
  intro B c w hC
  have hd0 := Drawn.refl hC
  go_enter Tryd.func81, Tryd.ntmps81
  go_wp2_with fail
  go_loopw [5, 6] (fun s x wr => ∃ (u : ByteArray) (i : Nat), s = .string u ∧ x = .int .i64 i ∧ u.size ≤ 100 + 7006 * i ∧ (i : Int) ≤ z ∧ Drawn B c w wr) (fun _ x _ => z.toNat - (intOf x).toNat)
  case atStart => exact ⟨_, 0, rfl, rfl, by decide, by omega, hd0⟩
  case round =>
    obtain ⟨u, i, rfl, rfl, hu, hi, hd⟩ := hrel
    by_cases hlt : (i : Int) < z
    · go_wp2_with fail
      refine (statText_any 2 (by omega) (by omega) B c _ hd.cur).mono ?_
      rintro e w1 ⟨s, rfl, hs, hd1⟩
      have hd1' := hd.trans hd1
      have hlt1 := cur_lt hd1'.cur
      go_wp2_with fail
      refine (pick_any B c enS w1.heap.size 4 _ (cur_alloc hd1'.cur _) (by omega) (by decide) (by decide) (has_lits w1 _ enS)).mono ?_
      rintro e w2 ⟨t, rfl, ht, hd2⟩
      have ht' := enS_le t ht
      clear ht
      have hd2' := (hd1'.alloc _).trans hd2
      go_wp2_with fail
      go_roundw
      case rel => exact ⟨_, i + 1, rfl, by go_num, by simp only [ByteArray.size_append]; omega, by omega, hd2'⟩
      case measure => simp [intOf]; omega
    · go_wp2_with fail
      go_ret
      exact ⟨_, rfl, by omega, hd⟩
end Go.Proofs.YtadjhnaiphnpoaaDoor
