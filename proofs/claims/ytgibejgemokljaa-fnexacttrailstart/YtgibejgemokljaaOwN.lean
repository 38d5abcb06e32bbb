/- Rows of flat things are marked. -/
import Derived.Test.YtgibejgemokljaaOwM
namespace Go.Proofs.Ytgibejgemokljaa
open Go.RowKit

set_option maxRecDepth 100000 in
set_option maxHeartbeats 4000000 in
theorem mkUpS_none (b : Option Addr) (cap K : Nat) (w : World) :
    Calls Try.prog 65 #[.slice b 0 cap, .int .i64 (K : Int)] w fun e w' => e = .returned (.int .i64 (K : Int)) ∧ w = w' := by
  go_enter Try.func65, Try.ntmps65
  go_wp2_with fail
  refine wp_loop_rounds 1 ?_
  rw [rounds_succ]
  go_wp2_with fail
  go_ret
  exact ⟨rfl, rfl⟩
set_option maxRecDepth 100000 in
set_option maxHeartbeats 4000000 in
theorem mkUpS_row (g n cap K : Nat) (cs0 : Array Value) (T : TypeId) (w : World) (hr : w.heap[g]? = some (.cells cs0 T (0, 0))) (hK : 0 < K) (hn : K + 2 * n ≤ 1099511627776) (hc : 2 * n ≤ cs0.size) :
    Calls Try.prog 65 #[.slice (some ⟨g, 0, none⟩) n cap, .int .i64 (K : Int)] w fun e w' => e = .returned (.int .i64 ((K + 2 * n : Nat) : Int)) ∧ w.grownBy w' (some g) ∧ ∃ cs : Array Value, w'.heap[g]? = some (.cells cs T (0, 0)) ∧ cs.size = cs0.size ∧ ∀ m, m < 2 * n → cs[m]? = some (Upmc K m) := by
  go_enter Try.func65, Try.ntmps65
  have hglt : g < w.heap.size := (Array.getElem?_eq_some_iff.1 hr).1
  go_wp2_with fail
  go_loopw [1, 5] (fun k a wr => ∃ (i : Nat) (cs : Array Value), k = .int .i64 ((K + 2 * i : Nat) : Int) ∧ a = .int .i64 i ∧ i ≤ n ∧ w.grownBy wr (some g) ∧ wr.heap[g]? = some (.cells cs T (0, 0)) ∧ cs.size = cs0.size ∧ ∀ m, m < 2 * i → cs[m]? = some (Upmc K m)) (fun _ a _ => n - (intOf a).toNat)
  case atStart => exact ⟨0, cs0, by simp, rfl, Nat.zero_le _, gby_refl w _, hr, rfl, fun m hm => absurd hm (by omega)⟩
  case round =>
    obtain ⟨i, cs, rfl, rfl, hi, hby, hrow, hcs, hall⟩ := hrel
    by_cases hlt : i < n
    · have hsz := hby.size
      have mW : i * 2 = 2 * i := Nat.mul_comm _ _
      have HROW : Hid (wr.heap[g]? = some (.cells cs T (0, 0))) := hrow
      have HALL : Hid (∀ m, m < 2 * i → cs[m]? = some (Upmc K m)) := hall
      have z0 := hcs
      clear hall
      have f0 := frozen_of_row wr g (2 * i) _ _ hrow
      have e0 := (cell_of_row wr g (2 * i) _ _ (0, 0) hrow).trans (Array.getElem?_eq_getElem (xs := cs) (i := 2 * i) (by omega))
      have f1 := frozen_of_row wr g (2 * i + 1) _ _ hrow
      have e1 := (cell_of_row wr g (2 * i + 1) _ _ (0, 0) hrow).trans (Array.getElem?_eq_getElem (xs := cs) (i := 2 * i + 1) (by omega))
      clear hrow
      go_wp2_with fail
      go_roundw
      case rel => exact ⟨i + 1, _, by go_num, by go_num, by omega, ((((hby).trans (gby_set _ g _ _))).trans (gby_set _ g _ _)), (heap_setCell_same _ g _ _ T _ (heap_setCell_same _ g _ _ T _ HROW.out)), by simpa using z0, (set_step (set_step HALL.out (by first | omega | (simp; omega)) (show Value.bool _ = Upmc K (2 * i) by rw [Upmc0]; exact congrArg Value.bool (by push_cast; congr 1))) (by first | omega | (simp; omega)) (show Value.int .i64 _ = Upmc K (2 * i + 1) by rw [Upmc1]; exact congrArg (Value.int .i64) (by push_cast; omega)))⟩
      case measure => simp [intOf]; omega
    · obtain rfl : i = n := by omega
      have HALL : Hid (∀ m, m < 2 * i → cs[m]? = some (Upmc K m)) := hall
      clear hall
      go_wp2_with fail
      go_ret
      exact ⟨rfl, hby, cs, hrow, hcs, HALL.out⟩
theorem mkUpS_any (xs : List UpD) (a : Option Addr) (cap K : Nat) (z : Int) (S : Nat → Prop) (w : World) (hR : RowD 2 UpOwn w S xs a) (hz : z = K) (hK : 0 < K) (hn : K + 2 * xs.length ≤ 1099511627776) :
    Calls Try.prog 65 #[.slice a xs.length cap, .int .i64 z] w fun e w' => e = .returned (.int .i64 ((K + 2 * xs.length : Nat) : Int)) ∧ RowD 2 UpOwn w' S (mkF Upmk 2 K xs.length) a ∧ Outs S w w' := by
  subst hz
  rcases hR with rfl | ⟨g, cs, T, rfl, h2, h3, h4, U, h5, h6⟩
  · refine (mkUpS_none a cap K w).mono ?_
    rintro e w' ⟨rfl, rfl⟩
    exact ⟨by simp, .inl rfl, Outs.refl _ _⟩
  · refine (mkUpS_row g xs.length cap K cs T w h3 hK (by omega) (by omega)).mono ?_
    rintro e w' ⟨rfl, hb, cs', hg', hs', hm⟩
    refine ⟨rfl, .inr ⟨g, cs', T, rfl, h2, hg', by rw [mkF_len, hs']; exact h4, U, h5, fun i hi => ?_⟩, .of_grown hb h2⟩
    rw [mkF_len] at hi
    rw [mkF_get]
    exact ⟨_, Upmk_own _ _ _ (by omega), rfl, fun j hj => by rw [← Upmk_cell K i j hj]; exact hm _ (by omega)⟩
set_option maxRecDepth 100000 in
set_option maxHeartbeats 4000000 in
theorem mkInstrS_none (b : Option Addr) (cap K : Nat) (w : World) :
    Calls Try.prog 66 #[.slice b 0 cap, .int .i64 (K : Int)] w fun e w' => e = .returned (.int .i64 (K : Int)) ∧ w = w' := by
  go_enter Try.func66, Try.ntmps66
  go_wp2_with fail
  refine wp_loop_rounds 1 ?_
  rw [rounds_succ]
  go_wp2_with fail
  go_ret
  exact ⟨rfl, rfl⟩
set_option maxRecDepth 100000 in
set_option maxHeartbeats 4000000 in
theorem mkInstrS_row (g n cap K : Nat) (cs0 : Array Value) (T : TypeId) (w : World) (hr : w.heap[g]? = some (.cells cs0 T (0, 0))) (hK : 0 < K) (hn : K + 7 * n ≤ 1099511627776) (hc : 7 * n ≤ cs0.size) :
    Calls Try.prog 66 #[.slice (some ⟨g, 0, none⟩) n cap, .int .i64 (K : Int)] w fun e w' => e = .returned (.int .i64 ((K + 7 * n : Nat) : Int)) ∧ w.grownBy w' (some g) ∧ ∃ cs : Array Value, w'.heap[g]? = some (.cells cs T (0, 0)) ∧ cs.size = cs0.size ∧ ∀ m, m < 7 * n → cs[m]? = some (Instrmc K m) := by
  go_enter Try.func66, Try.ntmps66
  have hglt : g < w.heap.size := (Array.getElem?_eq_some_iff.1 hr).1
  go_wp2_with fail
  go_loopw [1, 5] (fun k a wr => ∃ (i : Nat) (cs : Array Value), k = .int .i64 ((K + 7 * i : Nat) : Int) ∧ a = .int .i64 i ∧ i ≤ n ∧ w.grownBy wr (some g) ∧ wr.heap[g]? = some (.cells cs T (0, 0)) ∧ cs.size = cs0.size ∧ ∀ m, m < 7 * i → cs[m]? = some (Instrmc K m)) (fun _ a _ => n - (intOf a).toNat)
  case atStart => exact ⟨0, cs0, by simp, rfl, Nat.zero_le _, gby_refl w _, hr, rfl, fun m hm => absurd hm (by omega)⟩
  case round =>
    obtain ⟨i, cs, rfl, rfl, hi, hby, hrow, hcs, hall⟩ := hrel
    by_cases hlt : i < n
    · have hsz := hby.size
      have mW : i * 7 = 7 * i := Nat.mul_comm _ _
      have HROW : Hid (wr.heap[g]? = some (.cells cs T (0, 0))) := hrow
      have HALL : Hid (∀ m, m < 7 * i → cs[m]? = some (Instrmc K m)) := hall
      have z0 := hcs
      clear hall
      have f0 := frozen_of_row wr g (7 * i) _ _ hrow
      have e0 := (cell_of_row wr g (7 * i) _ _ (0, 0) hrow).trans (Array.getElem?_eq_getElem (xs := cs) (i := 7 * i) (by omega))
      have f1 := frozen_of_row wr g (7 * i + 1) _ _ hrow
      have e1 := (cell_of_row wr g (7 * i + 1) _ _ (0, 0) hrow).trans (Array.getElem?_eq_getElem (xs := cs) (i := 7 * i + 1) (by omega))
      have f2 := frozen_of_row wr g (7 * i + 2) _ _ hrow
      have e2 := (cell_of_row wr g (7 * i + 2) _ _ (0, 0) hrow).trans (Array.getElem?_eq_getElem (xs := cs) (i := 7 * i + 2) (by omega))
      have f3 := frozen_of_row wr g (7 * i + 3) _ _ hrow
      have e3 := (cell_of_row wr g (7 * i + 3) _ _ (0, 0) hrow).trans (Array.getElem?_eq_getElem (xs := cs) (i := 7 * i + 3) (by omega))
      have f4 := frozen_of_row wr g (7 * i + 4) _ _ hrow
      have e4 := (cell_of_row wr g (7 * i + 4) _ _ (0, 0) hrow).trans (Array.getElem?_eq_getElem (xs := cs) (i := 7 * i + 4) (by omega))
      have f5 := frozen_of_row wr g (7 * i + 5) _ _ hrow
      have e5 := (cell_of_row wr g (7 * i + 5) _ _ (0, 0) hrow).trans (Array.getElem?_eq_getElem (xs := cs) (i := 7 * i + 5) (by omega))
      have f6 := frozen_of_row wr g (7 * i + 6) _ _ hrow
      have e6 := (cell_of_row wr g (7 * i + 6) _ _ (0, 0) hrow).trans (Array.getElem?_eq_getElem (xs := cs) (i := 7 * i + 6) (by omega))
      clear hrow
      go_wp2_with fail
      refine (mark_at _ (K + (7 * i + 4)) _ (by push_cast; omega) (by omega) (by omega)).mono ?_
      rintro e w1 ⟨rfl, hb1⟩
      have r1 := (hb1.block g (by simp; have := hglt; omega)).trans ((heap_setCell_same _ g _ _ T _ (heap_setCell_same _ g _ _ T _ (heap_setCell_same _ g _ _ T _ (heap_setCell_same _ g _ _ T _ HROW.out)))))
      have by1 := (((((((((hby).trans (gby_set _ g _ _))).trans (gby_set _ g _ _))).trans (gby_set _ g _ _))).trans (gby_set _ g _ _))).trans (gby_below hb1)
      clear hb1 f0 e0 f1 e1 f2 e2 f3 e3 f4 e4 f5 e5 f6 e6
      obtain ⟨cs1, R1, A1, z1⟩ : ∃ x : Array Value, Hid (w1.heap[g]? = some (.cells x T (0, 0))) ∧ Hid (∀ m, m < 7 * i + 4 → x[m]? = some (Instrmc K m)) ∧ x.size = cs0.size := ⟨_, r1, (set_step (set_step (set_step (set_step HALL.out (by first | omega | (simp; omega)) (show Value.int .i64 _ = Instrmc K (7 * i) by rw [Instrmc0]; exact congrArg (Value.int .i64) (by push_cast; omega))) (by first | omega | (simp; omega)) (show Value.int .i64 _ = Instrmc K (7 * i + 1) by rw [Instrmc1]; exact congrArg (Value.int .i64) (by push_cast; omega))) (by first | omega | (simp; omega)) (show Value.int .i64 _ = Instrmc K (7 * i + 2) by rw [Instrmc2]; exact congrArg (Value.int .i64) (by push_cast; omega))) (by first | omega | (simp; omega)) (show Value.int .i64 _ = Instrmc K (7 * i + 3) by rw [Instrmc3]; exact congrArg (Value.int .i64) (by push_cast; omega))), by simp [z0]⟩
      clear r1
      have y1 := by1.size
      have r1 := R1.out
      have f4 := frozen_of_row w1 g (7 * i + 4) _ _ r1
      have e4 := (cell_of_row w1 g (7 * i + 4) _ _ (0, 0) r1).trans (Array.getElem?_eq_getElem (xs := cs1) (i := 7 * i + 4) (by omega))
      have f5 := frozen_of_row w1 g (7 * i + 5) _ _ r1
      have e5 := (cell_of_row w1 g (7 * i + 5) _ _ (0, 0) r1).trans (Array.getElem?_eq_getElem (xs := cs1) (i := 7 * i + 5) (by omega))
      have f6 := frozen_of_row w1 g (7 * i + 6) _ _ r1
      have e6 := (cell_of_row w1 g (7 * i + 6) _ _ (0, 0) r1).trans (Array.getElem?_eq_getElem (xs := cs1) (i := 7 * i + 6) (by omega))
      clear r1
      go_wp2_with fail
      refine (mark_at _ (K + (7 * i + 5)) _ (by push_cast; omega) (by omega) (by omega)).mono ?_
      rintro e w2 ⟨rfl, hb2⟩
      have r2 := (hb2.block g (by simp; have := hglt; omega)).trans ((heap_setCell_same _ g _ _ T _ R1.out))
      have by2 := (((by1).trans (gby_set _ g _ _))).trans (gby_below hb2)
      clear hb2 f4 e4 f5 e5 f6 e6
      obtain ⟨cs2, R2, A2, z2⟩ : ∃ x : Array Value, Hid (w2.heap[g]? = some (.cells x T (0, 0))) ∧ Hid (∀ m, m < 7 * i + 5 → x[m]? = some (Instrmc K m)) ∧ x.size = cs0.size := ⟨_, r2, (set_step A1.out (by first | omega | (simp; omega)) (Instrmc4 K i).symm), by simp [z1]⟩
      clear r2
      have y2 := by2.size
      have r2 := R2.out
      have f5 := frozen_of_row w2 g (7 * i + 5) _ _ r2
      have e5 := (cell_of_row w2 g (7 * i + 5) _ _ (0, 0) r2).trans (Array.getElem?_eq_getElem (xs := cs2) (i := 7 * i + 5) (by omega))
      have f6 := frozen_of_row w2 g (7 * i + 6) _ _ r2
      have e6 := (cell_of_row w2 g (7 * i + 6) _ _ (0, 0) r2).trans (Array.getElem?_eq_getElem (xs := cs2) (i := 7 * i + 6) (by omega))
      clear r2
      go_wp2_with fail
      go_roundw
      case rel => exact ⟨i + 1, _, by go_num, by go_num, by omega, ((((by2).trans (gby_set _ g _ _))).trans (gby_set _ g _ _)), (heap_setCell_same _ g _ _ T _ (heap_setCell_same _ g _ _ T _ R2.out)), by simpa using z2, (set_step (set_step A2.out (by first | omega | (simp; omega)) (Instrmc5 K i).symm) (by first | omega | (simp; omega)) (show Value.int .i64 _ = Instrmc K (7 * i + 6) by rw [Instrmc6]; exact congrArg (Value.int .i64) (by push_cast; omega)))⟩
      case measure => simp [intOf]; omega
    · obtain rfl : i = n := by omega
      have HALL : Hid (∀ m, m < 7 * i → cs[m]? = some (Instrmc K m)) := hall
      clear hall
      go_wp2_with fail
      go_ret
      exact ⟨rfl, hby, cs, hrow, hcs, HALL.out⟩
theorem mkInstrS_any (xs : List InstrD) (a : Option Addr) (cap K : Nat) (z : Int) (S : Nat → Prop) (w : World) (hR : RowD 7 InstrOwn w S xs a) (hz : z = K) (hK : 0 < K) (hn : K + 7 * xs.length ≤ 1099511627776) :
    Calls Try.prog 66 #[.slice a xs.length cap, .int .i64 z] w fun e w' => e = .returned (.int .i64 ((K + 7 * xs.length : Nat) : Int)) ∧ RowD 7 InstrOwn w' S (mkF Instrmk 7 K xs.length) a ∧ Outs S w w' := by
  subst hz
  rcases hR with rfl | ⟨g, cs, T, rfl, h2, h3, h4, U, h5, h6⟩
  · refine (mkInstrS_none a cap K w).mono ?_
    rintro e w' ⟨rfl, rfl⟩
    exact ⟨by simp, .inl rfl, Outs.refl _ _⟩
  · refine (mkInstrS_row g xs.length cap K cs T w h3 hK (by omega) (by omega)).mono ?_
    rintro e w' ⟨rfl, hb, cs', hg', hs', hm⟩
    refine ⟨rfl, .inr ⟨g, cs', T, rfl, h2, hg', by rw [mkF_len, hs']; exact h4, U, h5, fun i hi => ?_⟩, .of_grown hb h2⟩
    rw [mkF_len] at hi
    rw [mkF_get]
    exact ⟨_, Instrmk_own _ _ _ (by omega), rfl, fun j hj => by rw [← Instrmk_cell K i j hj]; exact hm _ (by omega)⟩
set_option maxRecDepth 100000 in
set_option maxHeartbeats 4000000 in
theorem mkNameS_none (b : Option Addr) (cap K : Nat) (w : World) :
    Calls Try.prog 67 #[.slice b 0 cap, .int .i64 (K : Int)] w fun e w' => e = .returned (.int .i64 (K : Int)) ∧ w = w' := by
  go_enter Try.func67, Try.ntmps67
  go_wp2_with fail
  refine wp_loop_rounds 1 ?_
  rw [rounds_succ]
  go_wp2_with fail
  go_ret
  exact ⟨rfl, rfl⟩
set_option maxRecDepth 100000 in
set_option maxHeartbeats 4000000 in
theorem mkNameS_row (g n cap K : Nat) (cs0 : Array Value) (T : TypeId) (w : World) (hr : w.heap[g]? = some (.cells cs0 T (0, 0))) (hK : 0 < K) (hn : K + 4 * n ≤ 1099511627776) (hc : 4 * n ≤ cs0.size) :
    Calls Try.prog 67 #[.slice (some ⟨g, 0, none⟩) n cap, .int .i64 (K : Int)] w fun e w' => e = .returned (.int .i64 ((K + 4 * n : Nat) : Int)) ∧ w.grownBy w' (some g) ∧ ∃ cs : Array Value, w'.heap[g]? = some (.cells cs T (0, 0)) ∧ cs.size = cs0.size ∧ ∀ m, m < 4 * n → cs[m]? = some (Namemc K m) := by
  go_enter Try.func67, Try.ntmps67
  have hglt : g < w.heap.size := (Array.getElem?_eq_some_iff.1 hr).1
  go_wp2_with fail
  go_loopw [1, 5] (fun k a wr => ∃ (i : Nat) (cs : Array Value), k = .int .i64 ((K + 4 * i : Nat) : Int) ∧ a = .int .i64 i ∧ i ≤ n ∧ w.grownBy wr (some g) ∧ wr.heap[g]? = some (.cells cs T (0, 0)) ∧ cs.size = cs0.size ∧ ∀ m, m < 4 * i → cs[m]? = some (Namemc K m)) (fun _ a _ => n - (intOf a).toNat)
  case atStart => exact ⟨0, cs0, by simp, rfl, Nat.zero_le _, gby_refl w _, hr, rfl, fun m hm => absurd hm (by omega)⟩
  case round =>
    obtain ⟨i, cs, rfl, rfl, hi, hby, hrow, hcs, hall⟩ := hrel
    by_cases hlt : i < n
    · have hsz := hby.size
      have mW : i * 4 = 4 * i := Nat.mul_comm _ _
      have HROW : Hid (wr.heap[g]? = some (.cells cs T (0, 0))) := hrow
      have HALL : Hid (∀ m, m < 4 * i → cs[m]? = some (Namemc K m)) := hall
      have z0 := hcs
      clear hall
      have f0 := frozen_of_row wr g (4 * i) _ _ hrow
      have e0 := (cell_of_row wr g (4 * i) _ _ (0, 0) hrow).trans (Array.getElem?_eq_getElem (xs := cs) (i := 4 * i) (by omega))
      have f1 := frozen_of_row wr g (4 * i + 1) _ _ hrow
      have e1 := (cell_of_row wr g (4 * i + 1) _ _ (0, 0) hrow).trans (Array.getElem?_eq_getElem (xs := cs) (i := 4 * i + 1) (by omega))
      have f2 := frozen_of_row wr g (4 * i + 2) _ _ hrow
      have e2 := (cell_of_row wr g (4 * i + 2) _ _ (0, 0) hrow).trans (Array.getElem?_eq_getElem (xs := cs) (i := 4 * i + 2) (by omega))
      have f3 := frozen_of_row wr g (4 * i + 3) _ _ hrow
      have e3 := (cell_of_row wr g (4 * i + 3) _ _ (0, 0) hrow).trans (Array.getElem?_eq_getElem (xs := cs) (i := 4 * i + 3) (by omega))
      clear hrow
      go_wp2_with fail
      refine (mark_at _ (K + (4 * i)) _ (by push_cast; omega) (by omega) (by omega)).mono ?_
      rintro e w1 ⟨rfl, hb1⟩
      have r1 := (hb1.block g (by have := hglt; omega)).trans HROW.out
      have by1 := (hby).trans (gby_below hb1)
      clear hb1 f0 e0 f1 e1 f2 e2 f3 e3
      obtain ⟨cs1, R1, A1, z1⟩ : ∃ x : Array Value, Hid (w1.heap[g]? = some (.cells x T (0, 0))) ∧ Hid (∀ m, m < 4 * i → x[m]? = some (Namemc K m)) ∧ x.size = cs0.size := ⟨_, r1, HALL.out, z0⟩
      clear r1
      have y1 := by1.size
      have r1 := R1.out
      have f0 := frozen_of_row w1 g (4 * i) _ _ r1
      have e0 := (cell_of_row w1 g (4 * i) _ _ (0, 0) r1).trans (Array.getElem?_eq_getElem (xs := cs1) (i := 4 * i) (by omega))
      have f1 := frozen_of_row w1 g (4 * i + 1) _ _ r1
      have e1 := (cell_of_row w1 g (4 * i + 1) _ _ (0, 0) r1).trans (Array.getElem?_eq_getElem (xs := cs1) (i := 4 * i + 1) (by omega))
      have f2 := frozen_of_row w1 g (4 * i + 2) _ _ r1
      have e2 := (cell_of_row w1 g (4 * i + 2) _ _ (0, 0) r1).trans (Array.getElem?_eq_getElem (xs := cs1) (i := 4 * i + 2) (by omega))
      have f3 := frozen_of_row w1 g (4 * i + 3) _ _ r1
      have e3 := (cell_of_row w1 g (4 * i + 3) _ _ (0, 0) r1).trans (Array.getElem?_eq_getElem (xs := cs1) (i := 4 * i + 3) (by omega))
      clear r1
      go_wp2_with fail
      go_roundw
      case rel => exact ⟨i + 1, _, by go_num, by go_num, by omega, ((((((((by1).trans (gby_set _ g _ _))).trans (gby_set _ g _ _))).trans (gby_set _ g _ _))).trans (gby_set _ g _ _)), (heap_setCell_same _ g _ _ T _ (heap_setCell_same _ g _ _ T _ (heap_setCell_same _ g _ _ T _ (heap_setCell_same _ g _ _ T _ R1.out)))), by simpa using z1, (set_step (set_step (set_step (set_step A1.out (by first | omega | (simp; omega)) (Namemc0 K i).symm) (by first | omega | (simp; omega)) (show Value.int .i64 _ = Namemc K (4 * i + 1) by rw [Namemc1]; exact congrArg (Value.int .i64) (by push_cast; omega))) (by first | omega | (simp; omega)) (show Value.int .i64 _ = Namemc K (4 * i + 2) by rw [Namemc2]; exact congrArg (Value.int .i64) (by push_cast; omega))) (by first | omega | (simp; omega)) (show Value.int .i64 _ = Namemc K (4 * i + 3) by rw [Namemc3]; exact congrArg (Value.int .i64) (by push_cast; omega)))⟩
      case measure => simp [intOf]; omega
    · obtain rfl : i = n := by omega
      have HALL : Hid (∀ m, m < 4 * i → cs[m]? = some (Namemc K m)) := hall
      clear hall
      go_wp2_with fail
      go_ret
      exact ⟨rfl, hby, cs, hrow, hcs, HALL.out⟩
theorem mkNameS_any (xs : List NameD) (a : Option Addr) (cap K : Nat) (z : Int) (S : Nat → Prop) (w : World) (hR : RowD 4 NameOwn w S xs a) (hz : z = K) (hK : 0 < K) (hn : K + 4 * xs.length ≤ 1099511627776) :
    Calls Try.prog 67 #[.slice a xs.length cap, .int .i64 z] w fun e w' => e = .returned (.int .i64 ((K + 4 * xs.length : Nat) : Int)) ∧ RowD 4 NameOwn w' S (mkF Namemk 4 K xs.length) a ∧ Outs S w w' := by
  subst hz
  rcases hR with rfl | ⟨g, cs, T, rfl, h2, h3, h4, U, h5, h6⟩
  · refine (mkNameS_none a cap K w).mono ?_
    rintro e w' ⟨rfl, rfl⟩
    exact ⟨by simp, .inl rfl, Outs.refl _ _⟩
  · refine (mkNameS_row g xs.length cap K cs T w h3 hK (by omega) (by omega)).mono ?_
    rintro e w' ⟨rfl, hb, cs', hg', hs', hm⟩
    refine ⟨rfl, .inr ⟨g, cs', T, rfl, h2, hg', by rw [mkF_len, hs']; exact h4, U, h5, fun i hi => ?_⟩, .of_grown hb h2⟩
    rw [mkF_len] at hi
    rw [mkF_get]
    exact ⟨_, Namemk_own _ _ _ (by omega), rfl, fun j hj => by rw [← Namemk_cell K i j hj]; exact hm _ (by omega)⟩
set_option maxRecDepth 100000 in
set_option maxHeartbeats 4000000 in
theorem mkIntS_none (b : Option Addr) (cap K : Nat) (w : World) :
    Calls Try.prog 117 #[.slice b 0 cap, .int .i64 (K : Int)] w fun e w' => e = .returned (.int .i64 (K : Int)) ∧ w = w' := by
  go_enter Try.func117, Try.ntmps117
  go_wp2_with fail
  refine wp_loop_rounds 1 ?_
  rw [rounds_succ]
  go_wp2_with fail
  go_ret
  exact ⟨rfl, rfl⟩
set_option maxRecDepth 100000 in
set_option maxHeartbeats 4000000 in
theorem mkIntS_row (g n cap K : Nat) (cs0 : Array Value) (T : TypeId) (w : World) (hr : w.heap[g]? = some (.cells cs0 T (0, 0))) (hK : 0 < K) (hn : K + n ≤ 1099511627776) (hc : n ≤ cs0.size) :
    Calls Try.prog 117 #[.slice (some ⟨g, 0, none⟩) n cap, .int .i64 (K : Int)] w fun e w' => e = .returned (.int .i64 ((K + n : Nat) : Int)) ∧ w.grownBy w' (some g) ∧ ∃ cs : Array Value, w'.heap[g]? = some (.cells cs T (0, 0)) ∧ cs.size = cs0.size ∧ ∀ m, m < n → cs[m]? = some (Intmc K m) := by
  go_enter Try.func117, Try.ntmps117
  have hglt : g < w.heap.size := (Array.getElem?_eq_some_iff.1 hr).1
  go_wp2_with fail
  go_loopw [1, 5] (fun k a wr => ∃ (i : Nat) (cs : Array Value), k = .int .i64 ((K + i : Nat) : Int) ∧ a = .int .i64 i ∧ i ≤ n ∧ w.grownBy wr (some g) ∧ wr.heap[g]? = some (.cells cs T (0, 0)) ∧ cs.size = cs0.size ∧ ∀ m, m < i → cs[m]? = some (Intmc K m)) (fun _ a _ => n - (intOf a).toNat)
  case atStart => exact ⟨0, cs0, by simp, rfl, Nat.zero_le _, gby_refl w _, hr, rfl, fun m hm => absurd hm (by omega)⟩
  case round =>
    obtain ⟨i, cs, rfl, rfl, hi, hby, hrow, hcs, hall⟩ := hrel
    by_cases hlt : i < n
    · have hsz := hby.size
      have HROW : Hid (wr.heap[g]? = some (.cells cs T (0, 0))) := hrow
      have HALL : Hid (∀ m, m < i → cs[m]? = some (Intmc K m)) := hall
      have z0 := hcs
      clear hall
      have f0 := frozen_of_row wr g (i) _ _ hrow
      have e0 := (cell_of_row wr g (i) _ _ (0, 0) hrow).trans (Array.getElem?_eq_getElem (xs := cs) (i := i) (by omega))
      clear hrow
      go_wp2_with fail
      go_roundw
      case rel => exact ⟨i + 1, _, by go_num, by go_num, by omega, ((hby).trans (gby_set _ g _ _)), (heap_setCell_same _ g _ _ T _ HROW.out), by simpa using z0, (set_step HALL.out (by first | omega | (simp; omega)) (show Value.int .i64 _ = Intmc K (i) by rw [Intmc0]; exact congrArg (Value.int .i64) (by push_cast; omega)))⟩
      case measure => simp [intOf]; omega
    · obtain rfl : i = n := by omega
      have HALL : Hid (∀ m, m < i → cs[m]? = some (Intmc K m)) := hall
      clear hall
      go_wp2_with fail
      go_ret
      exact ⟨rfl, hby, cs, hrow, hcs, HALL.out⟩
theorem mkIntS_any (xs : List Int) (a : Option Addr) (cap K : Nat) (z : Int) (S : Nat → Prop) (w : World) (hR : RowD 1 IntOwn w S xs a) (hz : z = K) (hK : 0 < K) (hn : K + 1 * xs.length ≤ 1099511627776) :
    Calls Try.prog 117 #[.slice a xs.length cap, .int .i64 z] w fun e w' => e = .returned (.int .i64 ((K + 1 * xs.length : Nat) : Int)) ∧ RowD 1 IntOwn w' S (mkF Intmk 1 K xs.length) a ∧ Outs S w w' := by
  subst hz
  rcases hR with rfl | ⟨g, cs, T, rfl, h2, h3, h4, U, h5, h6⟩
  · refine (mkIntS_none a cap K w).mono ?_
    rintro e w' ⟨rfl, rfl⟩
    exact ⟨by simp, .inl rfl, Outs.refl _ _⟩
  · refine (mkIntS_row g xs.length cap K cs T w h3 hK (by omega) (by omega)).mono ?_
    rintro e w' ⟨rfl, hb, cs', hg', hs', hm⟩
    refine ⟨by rw [Nat.one_mul], .inr ⟨g, cs', T, rfl, h2, hg', by rw [mkF_len, hs']; exact h4, U, h5, fun i hi => ?_⟩, .of_grown hb h2⟩
    rw [mkF_len] at hi
    rw [mkF_get]
    exact ⟨_, Intmk_own _ _ _ (by omega), rfl, fun j hj => by rw [← Intmk_cell K i j hj]; exact hm _ (by omega)⟩
set_option maxRecDepth 100000 in
set_option maxHeartbeats 4000000 in
theorem mkStringS_none (b : Option Addr) (cap K : Nat) (w : World) :
    Calls Try.prog 78 #[.slice b 0 cap, .int .i64 (K : Int)] w fun e w' => e = .returned (.int .i64 (K : Int)) ∧ w = w' := by
  go_enter Try.func78, Try.ntmps78
  go_wp2_with fail
  refine wp_loop_rounds 1 ?_
  rw [rounds_succ]
  go_wp2_with fail
  go_ret
  exact ⟨rfl, rfl⟩
set_option maxRecDepth 100000 in
set_option maxHeartbeats 4000000 in
theorem mkStringS_row (g n cap K : Nat) (cs0 : Array Value) (T : TypeId) (w : World) (hr : w.heap[g]? = some (.cells cs0 T (0, 0))) (hK : 0 < K) (hn : K + n ≤ 1099511627776) (hc : n ≤ cs0.size) :
    Calls Try.prog 78 #[.slice (some ⟨g, 0, none⟩) n cap, .int .i64 (K : Int)] w fun e w' => e = .returned (.int .i64 ((K + n : Nat) : Int)) ∧ w.grownBy w' (some g) ∧ ∃ cs : Array Value, w'.heap[g]? = some (.cells cs T (0, 0)) ∧ cs.size = cs0.size ∧ ∀ m, m < n → cs[m]? = some (Stringmc K m) := by
  go_enter Try.func78, Try.ntmps78
  have hglt : g < w.heap.size := (Array.getElem?_eq_some_iff.1 hr).1
  go_wp2_with fail
  go_loopw [1, 5] (fun k a wr => ∃ (i : Nat) (cs : Array Value), k = .int .i64 ((K + i : Nat) : Int) ∧ a = .int .i64 i ∧ i ≤ n ∧ w.grownBy wr (some g) ∧ wr.heap[g]? = some (.cells cs T (0, 0)) ∧ cs.size = cs0.size ∧ ∀ m, m < i → cs[m]? = some (Stringmc K m)) (fun _ a _ => n - (intOf a).toNat)
  case atStart => exact ⟨0, cs0, by simp, rfl, Nat.zero_le _, gby_refl w _, hr, rfl, fun m hm => absurd hm (by omega)⟩
  case round =>
    obtain ⟨i, cs, rfl, rfl, hi, hby, hrow, hcs, hall⟩ := hrel
    by_cases hlt : i < n
    · have hsz := hby.size
      have HROW : Hid (wr.heap[g]? = some (.cells cs T (0, 0))) := hrow
      have HALL : Hid (∀ m, m < i → cs[m]? = some (Stringmc K m)) := hall
      have z0 := hcs
      clear hall
      have f0 := frozen_of_row wr g (i) _ _ hrow
      have e0 := (cell_of_row wr g (i) _ _ (0, 0) hrow).trans (Array.getElem?_eq_getElem (xs := cs) (i := i) (by omega))
      clear hrow
      go_wp2_with fail
      refine (mark_at _ (K + (i)) _ (by push_cast; omega) (by omega) (by omega)).mono ?_
      rintro e w1 ⟨rfl, hb1⟩
      have r1 := (hb1.block g (by have := hglt; omega)).trans HROW.out
      have by1 := (hby).trans (gby_below hb1)
      clear hb1 f0 e0
      obtain ⟨cs1, R1, A1, z1⟩ : ∃ x : Array Value, Hid (w1.heap[g]? = some (.cells x T (0, 0))) ∧ Hid (∀ m, m < i → x[m]? = some (Stringmc K m)) ∧ x.size = cs0.size := ⟨_, r1, HALL.out, z0⟩
      clear r1
      have y1 := by1.size
      have r1 := R1.out
      have f0 := frozen_of_row w1 g (i) _ _ r1
      have e0 := (cell_of_row w1 g (i) _ _ (0, 0) r1).trans (Array.getElem?_eq_getElem (xs := cs1) (i := i) (by omega))
      clear r1
      go_wp2_with fail
      go_roundw
      case rel => exact ⟨i + 1, _, by go_num, by go_num, by omega, ((by1).trans (gby_set _ g _ _)), (heap_setCell_same _ g _ _ T _ R1.out), by simpa using z1, (set_step A1.out (by first | omega | (simp; omega)) (Stringmc0 K i).symm)⟩
      case measure => simp [intOf]; omega
    · obtain rfl : i = n := by omega
      have HALL : Hid (∀ m, m < i → cs[m]? = some (Stringmc K m)) := hall
      clear hall
      go_wp2_with fail
      go_ret
      exact ⟨rfl, hby, cs, hrow, hcs, HALL.out⟩
theorem mkStringS_any (xs : List ByteArray) (a : Option Addr) (cap K : Nat) (z : Int) (S : Nat → Prop) (w : World) (hR : RowD 1 StrOwn w S xs a) (hz : z = K) (hK : 0 < K) (hn : K + 1 * xs.length ≤ 1099511627776) :
    Calls Try.prog 78 #[.slice a xs.length cap, .int .i64 z] w fun e w' => e = .returned (.int .i64 ((K + 1 * xs.length : Nat) : Int)) ∧ RowD 1 StrOwn w' S (mkF Stringmk 1 K xs.length) a ∧ Outs S w w' := by
  subst hz
  rcases hR with rfl | ⟨g, cs, T, rfl, h2, h3, h4, U, h5, h6⟩
  · refine (mkStringS_none a cap K w).mono ?_
    rintro e w' ⟨rfl, rfl⟩
    exact ⟨by simp, .inl rfl, Outs.refl _ _⟩
  · refine (mkStringS_row g xs.length cap K cs T w h3 hK (by omega) (by omega)).mono ?_
    rintro e w' ⟨rfl, hb, cs', hg', hs', hm⟩
    refine ⟨by rw [Nat.one_mul], .inr ⟨g, cs', T, rfl, h2, hg', by rw [mkF_len, hs']; exact h4, U, h5, fun i hi => ?_⟩, .of_grown hb h2⟩
    rw [mkF_len] at hi
    rw [mkF_get]
    exact ⟨_, Stringmk_own _ _ _ (by omega), rfl, fun j hj => by rw [← Stringmk_cell K i j hj]; exact hm _ (by omega)⟩
set_option maxRecDepth 100000 in
set_option maxHeartbeats 4000000 in
theorem mkValueS_none (b : Option Addr) (cap K : Nat) (w : World) :
    Calls Try.prog 110 #[.slice b 0 cap, .int .i64 (K : Int)] w fun e w' => e = .returned (.int .i64 (K : Int)) ∧ w = w' := by
  go_enter Try.func110, Try.ntmps110
  go_wp2_with fail
  refine wp_loop_rounds 1 ?_
  rw [rounds_succ]
  go_wp2_with fail
  go_ret
  exact ⟨rfl, rfl⟩
set_option maxRecDepth 100000 in
set_option maxHeartbeats 4000000 in
theorem mkValueS_row (g n cap K : Nat) (cs0 : Array Value) (T : TypeId) (w : World) (hr : w.heap[g]? = some (.cells cs0 T (0, 0))) (hK : 0 < K) (hn : K + 3 * n ≤ 1099511627776) (hc : 3 * n ≤ cs0.size) :
    Calls Try.prog 110 #[.slice (some ⟨g, 0, none⟩) n cap, .int .i64 (K : Int)] w fun e w' => e = .returned (.int .i64 ((K + 3 * n : Nat) : Int)) ∧ w.grownBy w' (some g) ∧ ∃ cs : Array Value, w'.heap[g]? = some (.cells cs T (0, 0)) ∧ cs.size = cs0.size ∧ ∀ m, m < 3 * n → cs[m]? = some (Valuemc K m) := by
  go_enter Try.func110, Try.ntmps110
  have hglt : g < w.heap.size := (Array.getElem?_eq_some_iff.1 hr).1
  go_wp2_with fail
  go_loopw [1, 5] (fun k a wr => ∃ (i : Nat) (cs : Array Value), k = .int .i64 ((K + 3 * i : Nat) : Int) ∧ a = .int .i64 i ∧ i ≤ n ∧ w.grownBy wr (some g) ∧ wr.heap[g]? = some (.cells cs T (0, 0)) ∧ cs.size = cs0.size ∧ ∀ m, m < 3 * i → cs[m]? = some (Valuemc K m)) (fun _ a _ => n - (intOf a).toNat)
  case atStart => exact ⟨0, cs0, by simp, rfl, Nat.zero_le _, gby_refl w _, hr, rfl, fun m hm => absurd hm (by omega)⟩
  case round =>
    obtain ⟨i, cs, rfl, rfl, hi, hby, hrow, hcs, hall⟩ := hrel
    by_cases hlt : i < n
    · have hsz := hby.size
      have mW : i * 3 = 3 * i := Nat.mul_comm _ _
      have HROW : Hid (wr.heap[g]? = some (.cells cs T (0, 0))) := hrow
      have HALL : Hid (∀ m, m < 3 * i → cs[m]? = some (Valuemc K m)) := hall
      have z0 := hcs
      clear hall
      have f0 := frozen_of_row wr g (3 * i) _ _ hrow
      have e0 := (cell_of_row wr g (3 * i) _ _ (0, 0) hrow).trans (Array.getElem?_eq_getElem (xs := cs) (i := 3 * i) (by omega))
      have f1 := frozen_of_row wr g (3 * i + 1) _ _ hrow
      have e1 := (cell_of_row wr g (3 * i + 1) _ _ (0, 0) hrow).trans (Array.getElem?_eq_getElem (xs := cs) (i := 3 * i + 1) (by omega))
      have f2 := frozen_of_row wr g (3 * i + 2) _ _ hrow
      have e2 := (cell_of_row wr g (3 * i + 2) _ _ (0, 0) hrow).trans (Array.getElem?_eq_getElem (xs := cs) (i := 3 * i + 2) (by omega))
      clear hrow
      go_wp2_with fail
      refine (mark_at _ (K + (3 * i + 2)) _ (by push_cast; omega) (by omega) (by omega)).mono ?_
      rintro e w1 ⟨rfl, hb1⟩
      have r1 := (hb1.block g (by simp; have := hglt; omega)).trans ((heap_setCell_same _ g _ _ T _ (heap_setCell_same _ g _ _ T _ HROW.out)))
      have by1 := (((((hby).trans (gby_set _ g _ _))).trans (gby_set _ g _ _))).trans (gby_below hb1)
      clear hb1 f0 e0 f1 e1 f2 e2
      obtain ⟨cs1, R1, A1, z1⟩ : ∃ x : Array Value, Hid (w1.heap[g]? = some (.cells x T (0, 0))) ∧ Hid (∀ m, m < 3 * i + 2 → x[m]? = some (Valuemc K m)) ∧ x.size = cs0.size := ⟨_, r1, (set_step (set_step HALL.out (by first | omega | (simp; omega)) (show Value.int .i64 _ = Valuemc K (3 * i) by rw [Valuemc0]; exact congrArg (Value.int .i64) (by push_cast; omega))) (by first | omega | (simp; omega)) (show Value.int .i64 _ = Valuemc K (3 * i + 1) by rw [Valuemc1]; exact congrArg (Value.int .i64) (by push_cast; omega))), by simp [z0]⟩
      clear r1
      have y1 := by1.size
      have r1 := R1.out
      have f2 := frozen_of_row w1 g (3 * i + 2) _ _ r1
      have e2 := (cell_of_row w1 g (3 * i + 2) _ _ (0, 0) r1).trans (Array.getElem?_eq_getElem (xs := cs1) (i := 3 * i + 2) (by omega))
      clear r1
      go_wp2_with fail
      go_roundw
      case rel => exact ⟨i + 1, _, by go_num, by go_num, by omega, ((by1).trans (gby_set _ g _ _)), (heap_setCell_same _ g _ _ T _ R1.out), by simpa using z1, (set_step A1.out (by first | omega | (simp; omega)) (Valuemc2 K i).symm)⟩
      case measure => simp [intOf]; omega
    · obtain rfl : i = n := by omega
      have HALL : Hid (∀ m, m < 3 * i → cs[m]? = some (Valuemc K m)) := hall
      clear hall
      go_wp2_with fail
      go_ret
      exact ⟨rfl, hby, cs, hrow, hcs, HALL.out⟩
theorem mkValueS_any (xs : List Vl) (a : Option Addr) (cap K : Nat) (z : Int) (S : Nat → Prop) (w : World) (hR : RowD 3 ValOwn w S xs a) (hz : z = K) (hK : 0 < K) (hn : K + 3 * xs.length ≤ 1099511627776) :
    Calls Try.prog 110 #[.slice a xs.length cap, .int .i64 z] w fun e w' => e = .returned (.int .i64 ((K + 3 * xs.length : Nat) : Int)) ∧ RowD 3 ValOwn w' S (mkF Valuemk 3 K xs.length) a ∧ Outs S w w' := by
  subst hz
  rcases hR with rfl | ⟨g, cs, T, rfl, h2, h3, h4, U, h5, h6⟩
  · refine (mkValueS_none a cap K w).mono ?_
    rintro e w' ⟨rfl, rfl⟩
    exact ⟨by simp, .inl rfl, Outs.refl _ _⟩
  · refine (mkValueS_row g xs.length cap K cs T w h3 hK (by omega) (by omega)).mono ?_
    rintro e w' ⟨rfl, hb, cs', hg', hs', hm⟩
    refine ⟨rfl, .inr ⟨g, cs', T, rfl, h2, hg', by rw [mkF_len, hs']; exact h4, U, h5, fun i hi => ?_⟩, .of_grown hb h2⟩
    rw [mkF_len] at hi
    rw [mkF_get]
    exact ⟨_, Valuemk_own _ _ _ (by omega), rfl, fun j hj => by rw [← Valuemk_cell K i j hj]; exact hm _ (by omega)⟩
set_option maxRecDepth 100000 in
set_option maxHeartbeats 4000000 in
theorem mkPairS_none (b : Option Addr) (cap K : Nat) (w : World) :
    Calls Try.prog 135 #[.slice b 0 cap, .int .i64 (K : Int)] w fun e w' => e = .returned (.int .i64 (K : Int)) ∧ w = w' := by
  go_enter Try.func135, Try.ntmps135
  go_wp2_with fail
  refine wp_loop_rounds 1 ?_
  rw [rounds_succ]
  go_wp2_with fail
  go_ret
  exact ⟨rfl, rfl⟩
set_option maxRecDepth 100000 in
set_option maxHeartbeats 4000000 in
theorem mkPairS_row (g n cap K : Nat) (cs0 : Array Value) (T : TypeId) (w : World) (hr : w.heap[g]? = some (.cells cs0 T (0, 0))) (hK : 0 < K) (hn : K + 6 * n ≤ 1099511627776) (hc : 6 * n ≤ cs0.size) :
    Calls Try.prog 135 #[.slice (some ⟨g, 0, none⟩) n cap, .int .i64 (K : Int)] w fun e w' => e = .returned (.int .i64 ((K + 6 * n : Nat) : Int)) ∧ w.grownBy w' (some g) ∧ ∃ cs : Array Value, w'.heap[g]? = some (.cells cs T (0, 0)) ∧ cs.size = cs0.size ∧ ∀ m, m < 6 * n → cs[m]? = some (Pairmc K m) := by
  go_enter Try.func135, Try.ntmps135
  have hglt : g < w.heap.size := (Array.getElem?_eq_some_iff.1 hr).1
  go_wp2_with fail
  go_loopw [1, 5] (fun k a wr => ∃ (i : Nat) (cs : Array Value), k = .int .i64 ((K + 6 * i : Nat) : Int) ∧ a = .int .i64 i ∧ i ≤ n ∧ w.grownBy wr (some g) ∧ wr.heap[g]? = some (.cells cs T (0, 0)) ∧ cs.size = cs0.size ∧ ∀ m, m < 6 * i → cs[m]? = some (Pairmc K m)) (fun _ a _ => n - (intOf a).toNat)
  case atStart => exact ⟨0, cs0, by simp, rfl, Nat.zero_le _, gby_refl w _, hr, rfl, fun m hm => absurd hm (by omega)⟩
  case round =>
    obtain ⟨i, cs, rfl, rfl, hi, hby, hrow, hcs, hall⟩ := hrel
    by_cases hlt : i < n
    · have hsz := hby.size
      have mW : i * 6 = 6 * i := Nat.mul_comm _ _
      have HROW : Hid (wr.heap[g]? = some (.cells cs T (0, 0))) := hrow
      have HALL : Hid (∀ m, m < 6 * i → cs[m]? = some (Pairmc K m)) := hall
      have z0 := hcs
      clear hall
      have f0 := frozen_of_row wr g (6 * i) _ _ hrow
      have e0 := (cell_of_row wr g (6 * i) _ _ (0, 0) hrow).trans (Array.getElem?_eq_getElem (xs := cs) (i := 6 * i) (by omega))
      have f1 := frozen_of_row wr g (6 * i + 1) _ _ hrow
      have e1 := (cell_of_row wr g (6 * i + 1) _ _ (0, 0) hrow).trans (Array.getElem?_eq_getElem (xs := cs) (i := 6 * i + 1) (by omega))
      have f2 := frozen_of_row wr g (6 * i + 2) _ _ hrow
      have e2 := (cell_of_row wr g (6 * i + 2) _ _ (0, 0) hrow).trans (Array.getElem?_eq_getElem (xs := cs) (i := 6 * i + 2) (by omega))
      have f3 := frozen_of_row wr g (6 * i + 3) _ _ hrow
      have e3 := (cell_of_row wr g (6 * i + 3) _ _ (0, 0) hrow).trans (Array.getElem?_eq_getElem (xs := cs) (i := 6 * i + 3) (by omega))
      have f4 := frozen_of_row wr g (6 * i + 4) _ _ hrow
      have e4 := (cell_of_row wr g (6 * i + 4) _ _ (0, 0) hrow).trans (Array.getElem?_eq_getElem (xs := cs) (i := 6 * i + 4) (by omega))
      have f5 := frozen_of_row wr g (6 * i + 5) _ _ hrow
      have e5 := (cell_of_row wr g (6 * i + 5) _ _ (0, 0) hrow).trans (Array.getElem?_eq_getElem (xs := cs) (i := 6 * i + 5) (by omega))
      clear hrow
      go_wp2_with fail
      refine (mark_at _ (K + (6 * i + 2)) _ (by push_cast; omega) (by omega) (by omega)).mono ?_
      rintro e w1 ⟨rfl, hb1⟩
      have r1 := (hb1.block g (by simp; have := hglt; omega)).trans ((heap_setCell_same _ g _ _ T _ (heap_setCell_same _ g _ _ T _ HROW.out)))
      have by1 := (((((hby).trans (gby_set _ g _ _))).trans (gby_set _ g _ _))).trans (gby_below hb1)
      clear hb1 f0 e0 f1 e1 f2 e2 f3 e3 f4 e4 f5 e5
      obtain ⟨cs1, R1, A1, z1⟩ : ∃ x : Array Value, Hid (w1.heap[g]? = some (.cells x T (0, 0))) ∧ Hid (∀ m, m < 6 * i + 2 → x[m]? = some (Pairmc K m)) ∧ x.size = cs0.size := ⟨_, r1, (set_step (set_step HALL.out (by first | omega | (simp; omega)) (show Value.int .i64 _ = Pairmc K (6 * i) by rw [Pairmc0]; exact congrArg (Value.int .i64) (by push_cast; omega))) (by first | omega | (simp; omega)) (show Value.int .i64 _ = Pairmc K (6 * i + 1) by rw [Pairmc1]; exact congrArg (Value.int .i64) (by push_cast; omega))), by simp [z0]⟩
      clear r1
      have y1 := by1.size
      have r1 := R1.out
      have f2 := frozen_of_row w1 g (6 * i + 2) _ _ r1
      have e2 := (cell_of_row w1 g (6 * i + 2) _ _ (0, 0) r1).trans (Array.getElem?_eq_getElem (xs := cs1) (i := 6 * i + 2) (by omega))
      have f3 := frozen_of_row w1 g (6 * i + 3) _ _ r1
      have e3 := (cell_of_row w1 g (6 * i + 3) _ _ (0, 0) r1).trans (Array.getElem?_eq_getElem (xs := cs1) (i := 6 * i + 3) (by omega))
      have f4 := frozen_of_row w1 g (6 * i + 4) _ _ r1
      have e4 := (cell_of_row w1 g (6 * i + 4) _ _ (0, 0) r1).trans (Array.getElem?_eq_getElem (xs := cs1) (i := 6 * i + 4) (by omega))
      have f5 := frozen_of_row w1 g (6 * i + 5) _ _ r1
      have e5 := (cell_of_row w1 g (6 * i + 5) _ _ (0, 0) r1).trans (Array.getElem?_eq_getElem (xs := cs1) (i := 6 * i + 5) (by omega))
      clear r1
      go_wp2_with fail
      refine (mark_at _ (K + (6 * i + 5)) _ (by push_cast; omega) (by omega) (by omega)).mono ?_
      rintro e w2 ⟨rfl, hb2⟩
      have r2 := (hb2.block g (by simp; have := hglt; omega)).trans ((heap_setCell_same _ g _ _ T _ (heap_setCell_same _ g _ _ T _ (heap_setCell_same _ g _ _ T _ R1.out))))
      have by2 := (((((((by1).trans (gby_set _ g _ _))).trans (gby_set _ g _ _))).trans (gby_set _ g _ _))).trans (gby_below hb2)
      clear hb2 f2 e2 f3 e3 f4 e4 f5 e5
      obtain ⟨cs2, R2, A2, z2⟩ : ∃ x : Array Value, Hid (w2.heap[g]? = some (.cells x T (0, 0))) ∧ Hid (∀ m, m < 6 * i + 5 → x[m]? = some (Pairmc K m)) ∧ x.size = cs0.size := ⟨_, r2, (set_step (set_step (set_step A1.out (by first | omega | (simp; omega)) (Pairmc2 K i).symm) (by first | omega | (simp; omega)) (show Value.int .i64 _ = Pairmc K (6 * i + 3) by rw [Pairmc3]; exact congrArg (Value.int .i64) (by push_cast; omega))) (by first | omega | (simp; omega)) (show Value.int .i64 _ = Pairmc K (6 * i + 4) by rw [Pairmc4]; exact congrArg (Value.int .i64) (by push_cast; omega))), by simp [z1]⟩
      clear r2
      have y2 := by2.size
      have r2 := R2.out
      have f5 := frozen_of_row w2 g (6 * i + 5) _ _ r2
      have e5 := (cell_of_row w2 g (6 * i + 5) _ _ (0, 0) r2).trans (Array.getElem?_eq_getElem (xs := cs2) (i := 6 * i + 5) (by omega))
      clear r2
      go_wp2_with fail
      go_roundw
      case rel => exact ⟨i + 1, _, by go_num, by go_num, by omega, ((by2).trans (gby_set _ g _ _)), (heap_setCell_same _ g _ _ T _ R2.out), by simpa using z2, (set_step A2.out (by first | omega | (simp; omega)) (Pairmc5 K i).symm)⟩
      case measure => simp [intOf]; omega
    · obtain rfl : i = n := by omega
      have HALL : Hid (∀ m, m < 6 * i → cs[m]? = some (Pairmc K m)) := hall
      clear hall
      go_wp2_with fail
      go_ret
      exact ⟨rfl, hby, cs, hrow, hcs, HALL.out⟩
theorem mkPairS_any (xs : List PairD) (a : Option Addr) (cap K : Nat) (z : Int) (S : Nat → Prop) (w : World) (hR : RowD 6 PairOwn w S xs a) (hz : z = K) (hK : 0 < K) (hn : K + 6 * xs.length ≤ 1099511627776) :
    Calls Try.prog 135 #[.slice a xs.length cap, .int .i64 z] w fun e w' => e = .returned (.int .i64 ((K + 6 * xs.length : Nat) : Int)) ∧ RowD 6 PairOwn w' S (mkF Pairmk 6 K xs.length) a ∧ Outs S w w' := by
  subst hz
  rcases hR with rfl | ⟨g, cs, T, rfl, h2, h3, h4, U, h5, h6⟩
  · refine (mkPairS_none a cap K w).mono ?_
    rintro e w' ⟨rfl, rfl⟩
    exact ⟨by simp, .inl rfl, Outs.refl _ _⟩
  · refine (mkPairS_row g xs.length cap K cs T w h3 hK (by omega) (by omega)).mono ?_
    rintro e w' ⟨rfl, hb, cs', hg', hs', hm⟩
    refine ⟨rfl, .inr ⟨g, cs', T, rfl, h2, hg', by rw [mkF_len, hs']; exact h4, U, h5, fun i hi => ?_⟩, .of_grown hb h2⟩
    rw [mkF_len] at hi
    rw [mkF_get]
    exact ⟨_, Pairmk_own _ _ _ (by omega), rfl, fun j hj => by rw [← Pairmk_cell K i j hj]; exact hm _ (by omega)⟩
end Go.Proofs.Ytgibejgemokljaa
