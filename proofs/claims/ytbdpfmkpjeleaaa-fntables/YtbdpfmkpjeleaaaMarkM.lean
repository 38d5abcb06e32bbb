/- A marked row is found marked. -/
import Derived.Test.YtbdpfmkpjeleaaaMarkH
namespace Go.Proofs.Ytbdpfmkpjeleaaa
open Go.RowKit

set_option maxRecDepth 100000 in
set_option maxHeartbeats 4000000 in
theorem hdV_any (s : Sl) (K lo hi : Nat) (T : TypeId) (w : World) (hr : Row w lo hi T 3 s (mks K (3 * s.n))) (hK : 0 < K) (hn : K + 3 * s.n ≤ 1099511627776) :
    Calls Try.prog 41 #[s.v, .int .i64 (K : Int)] w fun e w' => e = .returned (.int .i64 ((K + 3 * s.n : Nat) : Int)) ∧ Below w.heap.size w w' := by
  have hx : ∀ m, m < 3 * s.n → ∃ g, s.a = some ⟨g, 0, none⟩ ∧ g < w.heap.size ∧ w.cell? ⟨g, m, none⟩ = some (mcell K m) := fun m hm => by
    obtain ⟨g, e, _, _, hg, hc⟩ := hr.cell m (by rw [mks_len]; exact hm)
    exact ⟨g, e, hg, by rw [hc, mks_get _ _ _ hm]⟩
  obtain ⟨a, n, c⟩ := s
  dsimp only [Sl.v] at *
  go_enter Try.func41, Try.ntmps41
  go_wp2_with fail
  go_loopw [1, 5] (fun k a wr => ∃ i : Nat, k = .int .i64 ((K + 3 * i : Nat) : Int) ∧ a = .int .i64 i ∧ i ≤ n ∧ Below w.heap.size w wr) (fun _ a _ => n - (intOf a).toNat)
  case atStart => exact ⟨0, by simp, rfl, Nat.zero_le _, Below.refl _ _⟩
  case round =>
    obtain ⟨i, rfl, rfl, hi, hb⟩ := hrel
    by_cases hlt : i < n
    · obtain ⟨g, rfl, hg, _⟩ := hx (3 * i) (by omega)
      have fx : ∀ m, m < 3 * n → w.cell? ⟨g, m, none⟩ = some (mcell K m) := fun m hm => by
        obtain ⟨g', e, _, hc⟩ := hx m hm
        obtain rfl : g = g' := by simpa using e
        exact hc
      have kx : g < wr.heap.size := Nat.lt_of_lt_of_le hg hb.size
      have mW : i * 3 = 3 * i := Nat.mul_comm _ _
      obtain ⟨t2, ht2⟩ : ∃ t, t = (⟨(markB (K + (3 * i + 2))).toArray⟩ : ByteArray) := ⟨_, rfl⟩
      have x0 : wr.cell? ⟨g, 3 * i, none⟩ = some (.int .i64 ((K + (3 * i) : Nat) : Int)) := ((hb.cell (p := ⟨g, 3 * i, none⟩) hg).trans (fx (3 * i) (by omega))).trans (congrArg some ((mcell_i (by omega) (by push_cast; omega)).symm))
      have x1 : wr.cell? ⟨g, 3 * i + 1, none⟩ = some (.int .i64 ((K + (3 * i + 1) : Nat) : Int)) := ((hb.cell (p := ⟨g, 3 * i + 1, none⟩) hg).trans (fx (3 * i + 1) (by omega))).trans (congrArg some ((mcell_i (by omega) (by push_cast; omega)).symm))
      have x2 : wr.cell? ⟨g, 3 * i + 2, none⟩ = some (.string t2) := ((hb.cell (p := ⟨g, 3 * i + 2, none⟩) hg).trans (fx (3 * i + 2) (by omega))).trans (congrArg some (by rw [← mcell_s (by omega), ht2]))
      have HT2 : Hid (t2 = (⟨(markB (K + (3 * i + 2))).toArray⟩ : ByteArray)) := ht2
      clear hx fx ht2
      go_wp2_with fail
      go_region_held (fun w' => w'.cell? ⟨g, 3 * i + 2, none⟩ = some (.string t2)) (go_keep) (first | (go_at_call 73; refine (mark_at _ (K + (3 * i + 2)) _ (by omega) (by omega) (by omega)).mono ?_; rintro e w1 ⟨rfl, hb1⟩; rw [← HT2.out]; have q12 := (hb1.cell (p := ⟨g, 3 * i + 2, none⟩) kx).trans x2))
      have B1 : Below w.heap.size w w1 := hb.drew.trans (hb1.mono hb.size)
      go_wp2_with fail
      go_roundw
      case rel => exact ⟨i + 1, by go_num, by go_num, by omega, B1⟩
      case measure => simp [intOf]; omega
    · obtain rfl : i = n := by omega
      clear hx
      go_wp2_with fail
      go_ret
      exact ⟨rfl, hb⟩
end Go.Proofs.Ytbdpfmkpjeleaaa
