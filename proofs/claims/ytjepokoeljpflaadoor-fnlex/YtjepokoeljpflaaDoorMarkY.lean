/- A marked row of tokens is found marked. -/
import Derived.Test.YtjepokoeljpflaaDoorMarkX
namespace Go.Proofs.YtjepokoeljpflaaDoor
open Go.RowKit

set_option maxRecDepth 100000 in
set_option maxHeartbeats 4000000 in
theorem held_any (b : Option Addr) (n cap : Nat) (w : World) (hn : n ≤ 1048576) (hx : ∀ i, i < n → ∃ g, b = some ⟨g, 0, none⟩ ∧ g < w.heap.size ∧ ∀ j, j < 4 → w.cell? ⟨g, 4 * i + j, none⟩ = some (mc (4 * i + j))) :
    Calls Tryd.prog 18 #[.slice b n cap, .int .i64 1] w fun e w' => e = .returned (.int .i64 ((4 * n + 1 : Nat) : Int)) ∧ Below w.heap.size w w' := by
  go_enter Tryd.func18, Tryd.ntmps18
  go_wp2_with fail
  go_loopw [1, 5] (fun k a wr => ∃ i : Nat, k = .int .i64 ((4 * i + 1 : Nat) : Int) ∧ a = .int .i64 i ∧ i ≤ n ∧ Below w.heap.size w wr) (fun _ a _ => n - (intOf a).toNat)
  case atStart => exact ⟨0, rfl, rfl, Nat.zero_le _, Below.refl _ _⟩
  case round =>
    obtain ⟨i, rfl, rfl, hi, hb⟩ := hrel
    by_cases hlt : i < n
    · obtain ⟨g, rfl, hg, fx⟩ := hx i hlt
      have x0 := (hb.cell (p := ⟨g, 4 * i + 0, none⟩) hg).trans (fx 0 (by decide))
      have x1 := (hb.cell (p := ⟨g, 4 * i + 1, none⟩) hg).trans (fx 1 (by decide))
      have x2 := (hb.cell (p := ⟨g, 4 * i + 2, none⟩) hg).trans (fx 2 (by decide))
      have x3 := (hb.cell (p := ⟨g, 4 * i + 3, none⟩) hg).trans (fx 3 (by decide))
      rw [Nat.add_zero, mc0] at x0
      rw [mc1] at x1
      rw [mc2] at x2
      rw [mc3] at x3
      have kx : g < wr.heap.size := Nat.lt_of_lt_of_le hg hb.size
      have m4 : i * 4 = 4 * i := Nat.mul_comm _ _
      clear hx fx
      have X2 := x2
      have X3 := x3
      have H1 : Hid (wr.cell? ⟨g, 4 * i + 1, none⟩ = some (.string ⟨(markB (4 * i + 2)).toArray⟩)) := x1
      obtain ⟨tx, htx⟩ : ∃ tx, tx = (⟨(markB (4 * i + 2)).toArray⟩ : ByteArray) := ⟨_, rfl⟩
      rw [← htx] at x1
      have HTX : Hid (tx = (⟨(markB (4 * i + 2)).toArray⟩ : ByteArray)) := htx
      clear htx H1 X2 X3
      go_wp2_with fail
      go_region_held (fun w' => w'.cell? ⟨g, 4 * i + 1, none⟩ = some (.string tx) ∧ w'.cell? ⟨g, 4 * i + 2, none⟩ = some (.int .i64 ((4 * i + 3 : Nat) : Int)) ∧ w'.cell? ⟨g, 4 * i + 3, none⟩ = some (.int .i64 ((4 * i + 4 : Nat) : Int))) (go_keep) (first | (go_at_call 31; refine (mark_at _ (4 * i + 2) _ (by omega) (by omega) (by omega)).mono ?_; rintro e w1 ⟨rfl, hb1⟩; rw [← HTX.out]; have q1 := (hb1.cell (p := ⟨g, 4 * i + 1, none⟩) kx).trans x1; have q2 := (hb1.cell (p := ⟨g, 4 * i + 2, none⟩) kx).trans x2; have q3 := (hb1.cell (p := ⟨g, 4 * i + 3, none⟩) kx).trans x3))
      go_wp2_with fail
      go_roundw
      case rel => exact ⟨i + 1, by go_num, by go_num, by omega, hb.drew.trans (hb1.mono hb.size)⟩
      case measure => simp [intOf]; omega
    · obtain rfl : i = n := by omega
      clear hx
      go_wp2_with fail
      go_ret
      exact ⟨rfl, hb⟩
end Go.Proofs.YtjepokoeljpflaaDoor
