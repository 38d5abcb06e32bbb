/- A row of tokens is marked. -/
import Derived.Test.YtjepokoeljpflaaDoorMarkW
namespace Go.Proofs.YtjepokoeljpflaaDoor
open Go.RowKit

def mc (m : Nat) : Value := if m % 4 = 1 then .string ⟨(markB (m + 1)).toArray⟩ else .int .i64 ((m + 1 : Nat) : Int)
theorem mc0 (i : Nat) : mc (4 * i) = .int .i64 ((4 * i + 1 : Nat) : Int) := by unfold mc; rw [if_neg (by omega)]
theorem mc1 (i : Nat) : mc (4 * i + 1) = .string ⟨(markB (4 * i + 2)).toArray⟩ := by unfold mc; rw [if_pos (by omega)]
theorem mc2 (i : Nat) : mc (4 * i + 2) = .int .i64 ((4 * i + 3 : Nat) : Int) := by unfold mc; rw [if_neg (by omega)]
theorem mc3 (i : Nat) : mc (4 * i + 3) = .int .i64 ((4 * i + 4 : Nat) : Int) := by unfold mc; rw [if_neg (by omega)]

theorem mark_at (z : Int) (k : Nat) (w : World) (hz : z = k) (h0 : 0 < k) (hk : k ≤ 1099511627776) :
    Calls Tryd.prog 31 #[.int .i64 z] w fun e w' => e = .returned (.string ⟨(markB k).toArray⟩) ∧ Below w.heap.size w w' := by
  subst hz; exact mark_any k w h0 hk
theorem marked_all {cs : Array Value} {i : Nat} {a b c : Value} {s : Value} (hsz : 4 * i + 4 ≤ cs.size) (hall : ∀ m, m < 4 * i → cs[m]? = some (mc m)) (ha : a = mc (4 * i)) (hs : s = mc (4 * i + 1)) (hb : b = mc (4 * i + 2)) (hc : c = mc (4 * i + 3)) :
    ∀ m, m < 4 * (i + 1) → ((((cs.setIfInBounds (4 * i) a).setIfInBounds (4 * i + 1) s).setIfInBounds (4 * i + 2) b).setIfInBounds (4 * i + 3) c)[m]? = some (mc m) := by
  intro m hm
  subst ha hs hb hc
  simp only [Array.getElem?_setIfInBounds, Array.size_setIfInBounds]
  by_cases h3 : 4 * i + 3 = m
  · subst h3; simp; omega
  · rw [if_neg h3]
    by_cases h2 : 4 * i + 2 = m
    · subst h2; simp; omega
    · rw [if_neg h2]
      by_cases h1 : 4 * i + 1 = m
      · subst h1; simp; omega
      · rw [if_neg h1]
        by_cases h0 : 4 * i = m
        · subst h0; simp; omega
        · rw [if_neg h0]; exact hall m (by omega)

set_option maxRecDepth 100000 in
set_option maxHeartbeats 4000000 in
theorem marks_any (g n cap : Nat) (cs0 : Array Value) (T : TypeId) (w : World) (hr : w.heap[g]? = some (.cells cs0 T (0, 0))) (hn : n ≤ 1048576) (hc : 4 * n ≤ cs0.size) :
    Calls Tryd.prog 17 #[.slice (some ⟨g, 0, none⟩) n cap, .int .i64 1] w fun e w' => e = .returned (.int .i64 ((4 * n + 1 : Nat) : Int)) ∧ w.grownBy w' (some g) ∧ ∃ cs : Array Value, w'.heap[g]? = some (.cells cs T (0, 0)) ∧ cs.size = cs0.size ∧ ∀ m, m < 4 * n → cs[m]? = some (mc m) := by
  go_enter Tryd.func17, Tryd.ntmps17
  have hglt : g < w.heap.size := (Array.getElem?_eq_some_iff.1 hr).1
  go_wp2_with fail
  go_loopw [1, 5] (fun k a wr => ∃ (i : Nat) (cs : Array Value), k = .int .i64 ((4 * i + 1 : Nat) : Int) ∧ a = .int .i64 i ∧ i ≤ n ∧ w.grownBy wr (some g) ∧ wr.heap[g]? = some (.cells cs T (0, 0)) ∧ cs.size = cs0.size ∧ ∀ m, m < 4 * i → cs[m]? = some (mc m)) (fun _ a _ => n - (intOf a).toNat)
  case atStart => exact ⟨0, cs0, rfl, rfl, Nat.zero_le _, by_refl w _, hr, rfl, fun m hm => absurd hm (by omega)⟩
  case round =>
    obtain ⟨i, cs, rfl, rfl, hi, hby, hrow, hcs, hall⟩ := hrel
    by_cases hlt : i < n
    · have hsz := hby.size
      have o0 := Array.getElem?_eq_getElem (xs := cs) (i := 4 * i) (by omega)
      have f0 := frozen_of_row wr g (4 * i) _ _ hrow
      have e0 := (cell_of_row wr g (4 * i) _ _ (0, 0) hrow).trans o0
      have m4 : i * 4 = 4 * i := Nat.mul_comm _ _
      have HROW : Hid (wr.heap[g]? = some (.cells cs T (0, 0))) := hrow
      clear hrow
      have HALL : Hid (∀ m, m < 4 * i → cs[m]? = some (mc m)) := hall
      clear hall
      go_wp2_with fail
      refine (mark_at _ (4 * i + 2) _ (by omega) (by omega) (by omega)).mono ?_
      rintro e w1 ⟨rfl, hb1⟩
      have r1 := heap_setCell_same wr g (4 * i) cs T (.int .i64 (4 * (i : Int) + 1)) HROW.out
      have hby1 := by_trans (by_trans hby (by_set wr g (4 * i) (.int .i64 (4 * (i : Int) + 1)))) (by_below (row := some g) hb1)
      have r2 := (hb1.block g (by simp; omega)).trans r1
      have hs1 : (cs.setIfInBounds (4 * i) (.int .i64 (4 * (i : Int) + 1))).size = cs0.size := by simp [hcs]
      have HV : Hid (Value.int .i64 (4 * (i : Int) + 1) = mc (4 * i)) := by show _ = _; rw [mc0]; congr 1
      have HSS : Hid (4 * i + 4 ≤ cs.size) := by show _ ≤ _; omega
      have HFIN : Hid (∀ b c, b = mc (4 * i + 2) → c = mc (4 * i + 3) → ∀ m, m < 4 * (i + 1) → ((((cs.setIfInBounds (4 * i) (.int .i64 (4 * (i : Int) + 1))).setIfInBounds (4 * i + 1) (.string ⟨(markB (4 * i + 2)).toArray⟩)).setIfInBounds (4 * i + 2) b).setIfInBounds (4 * i + 3) c)[m]? = some (mc m)) := fun b c hb hc => marked_all HSS.out HALL.out HV.out (mc1 i).symm hb hc
      clear r1 hb1 hby o0 f0 e0 HROW HALL HV HSS hcs
      generalize cs.setIfInBounds (4 * i) (.int .i64 (4 * (i : Int) + 1)) = cs1 at *
      generalize (⟨(markB (4 * i + 2)).toArray⟩ : ByteArray) = tx at *
      have o1 := Array.getElem?_eq_getElem (xs := cs1) (i := 4 * i + 1) (by omega)
      have f1 := frozen_of_row w1 g (4 * i + 1) _ _ r2
      have e1 := (cell_of_row w1 g (4 * i + 1) _ _ (0, 0) r2).trans o1
      have o2 := Array.getElem?_eq_getElem (xs := cs1) (i := 4 * i + 2) (by omega)
      have f2 := frozen_of_row w1 g (4 * i + 2) _ _ r2
      have e2 := (cell_of_row w1 g (4 * i + 2) _ _ (0, 0) r2).trans o2
      have o3 := Array.getElem?_eq_getElem (xs := cs1) (i := 4 * i + 3) (by omega)
      have f3 := frozen_of_row w1 g (4 * i + 3) _ _ r2
      have e3 := (cell_of_row w1 g (4 * i + 3) _ _ (0, 0) r2).trans o3
      have HR2 : Hid (w1.heap[g]? = some (.cells cs1 T (0, 0))) := r2
      clear r2 o1 o2 o3
      go_wp2_with fail
      go_roundw
      case rel => exact ⟨i + 1, _, by go_num, by go_num, by omega, by_trans (by_trans (by_trans hby1 (by_set _ g _ _)) (by_set _ g _ _)) (by_set _ g _ _), heap_setCell_same _ g _ _ T _ (heap_setCell_same _ g _ _ T _ (heap_setCell_same _ g _ _ T _ HR2.out)), by simpa using hs1, HFIN.out _ _ (by rw [mc2]; congr 1) (by rw [mc3]; congr 1)⟩
      case measure => simp [intOf]; omega
    · obtain rfl : i = n := by omega
      have HALL : Hid (∀ m, m < 4 * i → cs[m]? = some (mc m)) := hall
      clear hall
      go_wp2_with fail
      go_ret
      exact ⟨rfl, hby, cs, hrow, hcs, HALL.out⟩
end Go.Proofs.YtjepokoeljpflaaDoor
