/- Rows of texts of one's own, to the exact laws: held against each other, marked, found marked. -/
import Derived.Test.YtadjhnaiphnpoaaDoorAppR
import Derived.Test.YtadjhnaiphnpoaaDoorMkA
import Derived.Deep.RegionHeld
namespace Go.Proofs.YtadjhnaiphnpoaaDoor
open Go.RowKit

/-- How a row of texts lies. -/
def Ls (w : World) (a : Option Addr) (ss : List ByteArray) : Prop := ∀ (j : Nat) (h : j < ss.length), ∃ g, a = some ⟨g, 0, none⟩ ∧ g < w.heap.size ∧ w.cell? ⟨g, j, none⟩ = some (.string ss[j])
theorem ls_of {w : World} {B : Nat} {a : Option Addr} {n c : Nat} {ss : List ByteArray} (h : Ws w B (.slice a n c) ss) : Ls w a ss := by
  intro j hj
  obtain ⟨ad, e, hc⟩ := ws_news h j (.string ss[j]) (by rw [List.getElem?_map, List.getElem?_eq_getElem hj]; rfl)
  rcases h.2 with ⟨e2, h0⟩ | ⟨g, cap, cur, e2, hB, hg, _⟩
  · have : ss.length = 0 := h0
    omega
  · have e3 : a = some ⟨g, 0, none⟩ := by injection e2
    rw [e3] at e
    have e4 := Option.some.inj e
    subst e4
    refine ⟨g, e3, (Array.getElem?_eq_some_iff.1 hg).1, ?_⟩
    have e5 : (⟨g, 0, none⟩ : Addr).add j = ⟨g, j, none⟩ := by cases j <;> simp [Addr.add]
    rw [e5] at hc; exact hc
theorem ls_below {w w' : World} {a : Option Addr} {ss : List ByteArray} (h : Ls w a ss) (hb : Below w.heap.size w w') : Ls w' a ss := fun j hj => by
  obtain ⟨g, e, hg, hc⟩ := h j hj
  exact ⟨g, e, Nat.lt_of_lt_of_le hg hb.size, (hb.cell (p := ⟨g, j, none⟩) hg).trans hc⟩
theorem ls_grown {w w' : World} {a : Option Addr} {ss : List ByteArray} {g0 lo : Nat} (h : Ls w a ss) (hlo : ∀ g, a = some ⟨g, 0, none⟩ → g < lo) (hg0 : lo ≤ g0) (hb : w.grownBy w' (some g0)) : Ls w' a ss := fun j hj => by
  obtain ⟨g, e, hg, hc⟩ := h j hj
  have := hlo g e
  exact ⟨g, e, Nat.lt_of_lt_of_le hg hb.size, hb.cell hc (by simp; omega)⟩

set_option maxRecDepth 100000 in
set_option maxHeartbeats 1600000 in
theorem eqS_same (ss : List ByteArray) (a b : Option Addr) (ca cb : Nat) (w : World) (hl : ss.length ≤ 1000000) (hS : Ls w a ss) (hT : Ls w b ss) :
    Calls Tryd.prog 16 #[.slice a ss.length ca, .slice b ss.length cb] w fun e w' => e = .returned (.bool true) ∧ Below w.heap.size w w' := by
  go_enter Tryd.func16, Tryd.ntmps16
  go_wp2_with fail
  go_loopw [5] (fun x wr => ∃ i : Nat, x = .int .i64 i ∧ i ≤ ss.length ∧ Below w.heap.size w wr) (fun x _ => ss.length - (RowKit.intOf x).toNat)
  case atStart => exact ⟨0, rfl, Nat.zero_le _, Below.refl _ _⟩
  case round =>
    obtain ⟨i, rfl, hil, hbl⟩ := hrel
    by_cases hlt : i < ss.length
    · obtain ⟨g, rfl, hg, hc⟩ := ls_below hS hbl i hlt
      obtain ⟨g', rfl, hg', hc'⟩ := ls_below hT hbl i hlt
      clear hS hT
      generalize ss[i] = t at *
      go_wp2_with fail
      go_region
      all_goals
        go_wp2_with fail
        first
          | exact ⟨⟨i + 1, by go_num, by omega, hbl.drew⟩, by simp [RowKit.intOf]; omega⟩
          | (go_roundw
             case rel => exact ⟨i + 1, by go_num, by omega, hbl.drew⟩
             case measure => simp [RowKit.intOf]; omega)
    · clear hS hT
      go_wp2_with fail
      go_ret
      exact ⟨rfl, hbl⟩

/-- The marks from K on. -/
def mkL (K : Nat) : Nat → List ByteArray
  | 0 => []
  | n + 1 => mkL K n ++ [⟨(markB (K + n)).toArray⟩]
theorem mkL_len (K n : Nat) : (mkL K n).length = n := by
  induction n with
  | zero => rfl
  | succ n ih => simp [mkL, ih]
theorem mkL_get (K : Nat) : ∀ (n j : Nat) (h : j < (mkL K n).length), (mkL K n)[j] = ⟨(markB (K + j)).toArray⟩
  | 0, j, h => absurd h (Nat.not_lt_zero _)
  | n + 1, j, h => by
    by_cases hj : j < n
    · have := mkL_get K n j (by rw [mkL_len]; exact hj)
      simp only [mkL]
      rw [List.getElem_append_left (by rw [mkL_len]; exact hj), this]
    · have e : j = n := by rw [mkL_len] at h; omega
      subst e
      simp only [mkL]
      rw [List.getElem_append_right (by rw [mkL_len]; exact Nat.le_refl _)]
      simp [mkL_len]
def mc (K m : Nat) : Value := .string ⟨(markB (K + m)).toArray⟩

set_option maxRecDepth 100000 in
set_option maxHeartbeats 4000000 in
theorem mkS_none (b : Option Addr) (cap K : Nat) (w : World) :
    Calls Tryd.prog 17 #[.slice b 0 cap, .int .i64 (K : Int)] w fun e w' => e = .returned (.int .i64 (K : Int)) ∧ w = w' := by
  go_enter Tryd.func17, Tryd.ntmps17
  go_wp2_with fail
  refine wp_loop_rounds 1 ?_
  rw [rounds_succ]
  go_wp2_with fail
  go_ret
  exact ⟨rfl, rfl⟩
set_option maxRecDepth 100000 in
set_option maxHeartbeats 4000000 in
theorem mkS_row (g n cap K : Nat) (cs0 : Array Value) (T : TypeId) (w : World) (hr : w.heap[g]? = some (.cells cs0 T (0, 0))) (hK : 0 < K) (hn : K + n ≤ 1099511627776) (hc : n ≤ cs0.size) :
    Calls Tryd.prog 17 #[.slice (some ⟨g, 0, none⟩) n cap, .int .i64 (K : Int)] w fun e w' => e = .returned (.int .i64 ((K + n : Nat) : Int)) ∧ w.grownBy w' (some g) ∧ ∃ cs : Array Value, w'.heap[g]? = some (.cells cs T (0, 0)) ∧ cs.size = cs0.size ∧ ∀ m, m < n → cs[m]? = some (mc K m) := by
  go_enter Tryd.func17, Tryd.ntmps17
  have hglt : g < w.heap.size := (Array.getElem?_eq_some_iff.1 hr).1
  go_wp2_with fail
  go_loopw [1, 5] (fun k a wr => ∃ (i : Nat) (cs : Array Value), k = .int .i64 ((K + i : Nat) : Int) ∧ a = .int .i64 i ∧ i ≤ n ∧ w.grownBy wr (some g) ∧ wr.heap[g]? = some (.cells cs T (0, 0)) ∧ cs.size = cs0.size ∧ ∀ m, m < i → cs[m]? = some (mc K m)) (fun _ a _ => n - (RowKit.intOf a).toNat)
  case atStart => exact ⟨0, cs0, by simp, rfl, Nat.zero_le _, gby_refl w _, hr, rfl, fun m hm => absurd hm (by omega)⟩
  case round =>
    obtain ⟨i, cs, rfl, rfl, hi, hby, hrow, hcs, hall⟩ := hrel
    by_cases hlt : i < n
    · have hsz := hby.size
      have HROW : Hid (wr.heap[g]? = some (.cells cs T (0, 0))) := hrow
      have HALL : Hid (∀ m, m < i → cs[m]? = some (mc K m)) := hall
      have z0 := hcs
      clear hall
      have f0 := frozen_of_row wr g (i) _ _ hrow
      have e0 := (cell_of_row wr g (i) _ _ (0, 0) hrow).trans (Array.getElem?_eq_getElem (xs := cs) (i := i) (by omega))
      clear hrow
      go_wp2_with fail
      refine (mark_at _ (K + (i)) _ (by push_cast; omega) (by omega) (by omega)).mono ?_
      rintro e w1 ⟨rfl, hb1⟩
      have r1 := (hb1.block g (by have := hglt; omega)).trans HROW.out
      have by1 := (hby).trans (gby_below hb1)
      clear hb1 f0 e0
      obtain ⟨cs1, R1, A1, z1⟩ : ∃ x : Array Value, Hid (w1.heap[g]? = some (.cells x T (0, 0))) ∧ Hid (∀ m, m < i → x[m]? = some (mc K m)) ∧ x.size = cs0.size := ⟨_, r1, HALL.out, z0⟩
      clear r1
      have y1 := by1.size
      have r1 := R1.out
      have f0 := frozen_of_row w1 g (i) _ _ r1
      have e0 := (cell_of_row w1 g (i) _ _ (0, 0) r1).trans (Array.getElem?_eq_getElem (xs := cs1) (i := i) (by omega))
      clear r1
      go_wp2_with fail
      go_roundw
      case rel => exact ⟨i + 1, _, by go_num, by go_num, by omega, ((by1).trans (gby_set _ g _ _)), (heap_setCell_same _ g _ _ T _ R1.out), by simpa using z1, (set_step A1.out (by first | omega | (simp; omega)) rfl)⟩
      case measure => simp [RowKit.intOf]; omega
    · obtain rfl : i = n := by omega
      have HALL : Hid (∀ m, m < i → cs[m]? = some (mc K m)) := hall
      clear hall
      go_wp2_with fail
      go_ret
      exact ⟨rfl, hby, cs, hrow, hcs, HALL.out⟩
/-- A row of one's own is marked: nothing below its base is turned. -/
theorem mkS_any {w : World} {B n : Nat} {a : Option Addr} {cap : Nat} {ss : List ByteArray} (h : Ws w B (.slice a n cap) ss) (hl : ss.length ≤ 1000000) (hB : B ≤ w.heap.size) :
    Calls Tryd.prog 17 #[.slice a n cap, .int .i64 1] w fun e w' => e = .returned (.int .i64 ((1 + ss.length : Nat) : Int)) ∧ Below B w w' ∧ Ls w' a (mkL 1 ss.length) := by
  rcases h.2 with ⟨e2, h0⟩ | ⟨g, c2, cur, e2, hBg, hg, hle, hm, hsz, htk⟩
  · have e3 : a = none ∧ n = 0 := by injection e2 with e3 e4; exact ⟨e3, e4⟩
    have h0' : ss.length = 0 := h0
    obtain ⟨rfl, rfl⟩ := e3
    refine (mkS_none none cap 1 w).mono ?_
    rintro e w' ⟨rfl, rfl⟩
    refine ⟨by rw [h0'], Below.refl _ _, fun j hj => ?_⟩
    rw [mkL_len] at hj; omega
  · have e3 : a = some ⟨g, 0, none⟩ ∧ n = ss.length ∧ cap = c2 := by injection e2 with e3 e4 e5; exact ⟨e3, e4, e5⟩
    obtain ⟨rfl, rfl, rfl⟩ := e3
    refine (mkS_row g ss.length cap 1 cur _ w hg (by decide) (by omega) (by omega)).mono ?_
    rintro e w' ⟨rfl, hby, cs, hg', hs', hall⟩
    refine ⟨rfl, ⟨hby.os, hby.tape, hby.output, hby.size, fun k hk => hby.block k (by omega) (by simp; omega)⟩, fun j hj => ?_⟩
    rw [mkL_get]
    rw [mkL_len] at hj
    refine ⟨g, rfl, (Array.getElem?_eq_some_iff.1 hg').1, ?_⟩
    rw [cell_of_row _ _ _ _ _ _ hg', hall j hj]; rfl

set_option maxRecDepth 100000 in
set_option maxHeartbeats 4000000 in
theorem hdS_any (n : Nat) (a : Option Addr) (cap : Nat) (w : World) (hS : Ls w a (mkL 1 n)) (hn : n ≤ 1000000) :
    Calls Tryd.prog 18 #[.slice a n cap, .int .i64 1] w fun e w' => e = .returned (.int .i64 ((1 + n : Nat) : Int)) ∧ Below w.heap.size w w' := by
  go_enter Tryd.func18, Tryd.ntmps18
  go_wp2_with fail
  go_loopw [1, 5] (fun kk aa wr => ∃ i : Nat, kk = .int .i64 ((1 + i : Nat) : Int) ∧ aa = .int .i64 i ∧ i ≤ n ∧ Below w.heap.size w wr) (fun _ aa _ => n - (RowKit.intOf aa).toNat)
  case atStart => exact ⟨0, by simp, rfl, Nat.zero_le _, Below.refl _ _⟩
  case round =>
    obtain ⟨i, rfl, rfl, hi, hb⟩ := hrel
    by_cases hlt : i < n
    · obtain ⟨g, rfl, kx, x0⟩ := ls_below hS hb i (by rw [mkL_len]; exact hlt)
      rw [mkL_get] at x0
      obtain ⟨t0, ht0⟩ : ∃ t, t = (⟨(markB (1 + (i))).toArray⟩ : ByteArray) := ⟨_, rfl⟩
      rw [← ht0] at x0
      have HT0 : Hid (t0 = (⟨(markB (1 + (i))).toArray⟩ : ByteArray)) := ht0
      clear hS ht0
      go_wp2_with fail
      go_region_held (fun w' => w'.cell? ⟨g, i, none⟩ = some (.string t0)) (go_keep) (first | (go_at_call 42; refine (mark_at _ (1 + (i)) _ (by push_cast; omega) (by omega) (by omega)).mono ?_; rintro e w1 ⟨rfl, hb1⟩; rw [← HT0.out]; have q10 := (hb1.cell (p := ⟨g, i, none⟩) kx).trans x0))
      have B1 : Below w.heap.size w w1 := hb.drew.trans (hb1.mono hb.size)
      have kx1 : g < w1.heap.size := Nat.lt_of_lt_of_le kx hb1.size
      go_wp2_with fail
      go_roundw
      case rel => exact ⟨i + 1, by go_num, by go_num, by omega, B1⟩
      case measure => simp [RowKit.intOf]; omega
    · obtain rfl : i = n := by omega
      clear hS
      go_wp2_with fail
      go_ret
      exact ⟨rfl, hb⟩
end Go.Proofs.YtadjhnaiphnpoaaDoor
