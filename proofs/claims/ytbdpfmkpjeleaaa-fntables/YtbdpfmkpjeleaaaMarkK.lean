/- A row of pairs, a row of values is marked. -/
import Derived.Test.YtbdpfmkpjeleaaaMarkH
namespace Go.Proofs.Ytbdpfmkpjeleaaa
open Go.RowKit

set_option maxRecDepth 100000 in
set_option maxHeartbeats 4000000 in
theorem mkV_none (b : Option Addr) (cap K : Nat) (w : World) :
    Calls Try.prog 39 #[.slice b 0 cap, .int .i64 (K : Int)] w fun e w' => e = .returned (.int .i64 (K : Int)) ∧ w = w' := by
  go_enter Try.func39, Try.ntmps39
  go_wp2_with fail
  refine wp_loop_rounds 1 ?_
  rw [rounds_succ]
  go_wp2_with fail
  go_ret
  exact ⟨rfl, rfl⟩
set_option maxRecDepth 100000 in
set_option maxHeartbeats 4000000 in
theorem mkV_row (g n cap K : Nat) (cs0 : Array Value) (T : TypeId) (w : World) (hr : w.heap[g]? = some (.cells cs0 T (0, 0))) (hK : 0 < K) (hn : K + 3 * n ≤ 1099511627776) (hc : 3 * n ≤ cs0.size) :
    Calls Try.prog 39 #[.slice (some ⟨g, 0, none⟩) n cap, .int .i64 (K : Int)] w fun e w' => e = .returned (.int .i64 ((K + 3 * n : Nat) : Int)) ∧ w.grownBy w' (some g) ∧ ∃ cs : Array Value, w'.heap[g]? = some (.cells cs T (0, 0)) ∧ cs.size = cs0.size ∧ ∀ m, m < 3 * n → cs[m]? = some (mcell K m) := by
  go_enter Try.func39, Try.ntmps39
  have hglt : g < w.heap.size := (Array.getElem?_eq_some_iff.1 hr).1
  go_wp2_with fail
  go_loopw [1, 5] (fun k a wr => ∃ (i : Nat) (cs : Array Value), k = .int .i64 ((K + 3 * i : Nat) : Int) ∧ a = .int .i64 i ∧ i ≤ n ∧ w.grownBy wr (some g) ∧ wr.heap[g]? = some (.cells cs T (0, 0)) ∧ cs.size = cs0.size ∧ ∀ m, m < 3 * i → cs[m]? = some (mcell K m)) (fun _ a _ => n - (intOf a).toNat)
  case atStart => exact ⟨0, cs0, by simp, rfl, Nat.zero_le _, gby_refl w _, hr, rfl, fun m hm => absurd hm (by omega)⟩
  case round =>
    obtain ⟨i, cs, rfl, rfl, hi, hby, hrow, hcs, hall⟩ := hrel
    by_cases hlt : i < n
    · have hsz := hby.size
      have mW : i * 3 = 3 * i := Nat.mul_comm _ _
      have HROW : Hid (wr.heap[g]? = some (.cells cs T (0, 0))) := hrow
      have HALL : Hid (∀ m, m < 3 * i → cs[m]? = some (mcell K m)) := hall
      clear hall
      have f0 := frozen_of_row wr g (3 * i) _ _ hrow
      have e0 := (cell_of_row wr g (3 * i) _ _ (0, 0) hrow).trans (Array.getElem?_eq_getElem (xs := cs) (i := 3 * i) (by omega))
      have f1 := frozen_of_row wr g (3 * i + 1) _ _ hrow
      have e1 := (cell_of_row wr g (3 * i + 1) _ _ (0, 0) hrow).trans (Array.getElem?_eq_getElem (xs := cs) (i := 3 * i + 1) (by omega))
      clear hrow
      go_wp2_with fail
      refine (mark_at _ (K + 3 * i + 2) _ (by omega) (by omega) (by omega)).mono ?_
      rintro e w1 ⟨rfl, hb1⟩
      have r1 := (hb1.block g (by simp; have := hglt; omega)).trans ((heap_setCell_same _ g _ _ T _ (heap_setCell_same _ g _ _ T _ HROW.out)))
      have by1 := (((hby).trans (gby_set _ g _ _)).trans (gby_set _ g _ _)).trans (gby_below hb1)
      clear hb1 f0 e0 f1 e1
      obtain ⟨cs1, R1, A1, z1⟩ : ∃ x : Array Value, Hid (w1.heap[g]? = some (.cells x T (0, 0))) ∧ Hid (∀ m, m < 3 * i + 2 → x[m]? = some (mcell K m)) ∧ x.size = cs0.size := ⟨_, r1, (set_step (set_step HALL.out (by first | omega | (simp; omega)) (mcell_i (K := K) (m := 3 * i) (by omega) (by push_cast; omega))) (by first | omega | (simp; omega)) (mcell_i (K := K) (m := 3 * i + 1) (by omega) (by push_cast; omega))), by simp [hcs]⟩
      clear r1
      have y1 := by1.size
      have r1 := R1.out
      have f2 := frozen_of_row w1 g (3 * i + 2) _ _ r1
      have e2 := (cell_of_row w1 g (3 * i + 2) _ _ (0, 0) r1).trans (Array.getElem?_eq_getElem (xs := cs1) (i := 3 * i + 2) (by omega))
      clear r1
      go_wp2_with fail
      go_roundw
      case rel => exact ⟨i + 1, _, by go_num, by go_num, by omega, (by1).trans (gby_set _ g _ _), (heap_setCell_same _ g _ _ T _ R1.out), by simpa using z1, (set_step A1.out (by first | omega | (simp; omega)) (mcell_s (K := K) (m := 3 * i + 2) (by omega)))⟩
      case measure => simp [intOf]; omega
    · obtain rfl : i = n := by omega
      have HALL : Hid (∀ m, m < 3 * i → cs[m]? = some (mcell K m)) := hall
      clear hall
      go_wp2_with fail
      go_ret
      exact ⟨rfl, hby, cs, hrow, hcs, HALL.out⟩
theorem mkV_any (s : Sl) (K lo hi : Nat) (T : TypeId) (xs : List Value) (w : World) (hr : Row w lo hi T 3 s xs) (hK : 0 < K) (hn : K + 3 * s.n ≤ 1099511627776) :
    Calls Try.prog 39 #[s.v, .int .i64 (K : Int)] w fun e w' => e = .returned (.int .i64 ((K + 3 * s.n : Nat) : Int)) ∧ Row w' lo hi T 3 s (mks K (3 * s.n)) ∧ Turn w w' lo hi T := by
  obtain ⟨h1, h2⟩ := hr
  obtain ⟨a, n, c⟩ := s
  dsimp only [Sl.v] at *
  rcases h2 with ⟨h3, h2, h4⟩ | ⟨g, cs, rfl, hl, hh, hg, hnc, hcm, hs, hx⟩
  · subst h2
    subst h3
    subst h4
    refine (mkV_none none 0 K w).mono ?_
    rintro e w' ⟨rfl, rfl⟩
    exact ⟨by simp, ⟨by simp [mks], .inl ⟨rfl, rfl, rfl⟩⟩, .same (Below.refl _ _)⟩
  · refine (mkV_row g n c K cs T w hg hK hn (by omega)).mono ?_
    rintro e w' ⟨rfl, hb, cs', hg', hs', hm⟩
    exact ⟨rfl, ⟨mks_len _ _, .inr ⟨g, cs', rfl, hl, hh, hg', hnc, hcm, by rw [hs']; exact hs, fun m hm' => by rw [mks_len] at hm'; rw [mks_get _ _ _ hm', hm m hm']⟩⟩, .grown hb hl hh hg⟩
end Go.Proofs.Ytbdpfmkpjeleaaa
