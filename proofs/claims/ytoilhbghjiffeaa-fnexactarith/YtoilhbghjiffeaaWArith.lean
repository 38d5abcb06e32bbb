/- The walk of FnExactArith: it returns true. -/
import Derived.Test.YtoilhbghjiffeaaValD
import Derived.Test.YtoilhbghjiffeaaValE
import Derived.Deep.RegionHeld3
import Derived.Deep.Cut
namespace Go.Proofs.Ytoilhbghjiffeaa
open Go.RowKit

theorem set_same {W : World} {b i : Nat} {u v : Value} (h : W.cell? ⟨b, i, none⟩ = some u) : (W.setCell ⟨b, i, none⟩ v).cell? ⟨b, i, none⟩ = some v := by
  unfold World.cell? at h ⊢
  simp only [World.setCell, Array.getElem?_modify, if_true] at h ⊢
  cases hg : W.heap[b]? with
  | none => simp [hg] at h
  | some o =>
    cases o <;> simp_all
    rw [Array.getElem?_setIfInBounds]
    have := (Array.getElem?_eq_some_iff.1 h).1
    simp [this]
theorem set_ne {W : World} {b i j : Nat} {v : Value} (h : i ≠ j) : (W.setCell ⟨b, i, none⟩ v).cell? ⟨b, j, none⟩ = W.cell? ⟨b, j, none⟩ := by
  unfold World.cell?
  simp only [World.setCell, Array.getElem?_modify, if_true]
  cases hg : W.heap[b]? with
  | none => simp
  | some o =>
    cases o <;> simp
    rw [Array.getElem?_setIfInBounds, if_neg h]
theorem set3 {W : World} {b : Nat} {u0 u1 u2 x y z : Value} (h0 : W.cell? ⟨b, 0, none⟩ = some u0) (h1 : W.cell? ⟨b, 1, none⟩ = some u1) (h2 : W.cell? ⟨b, 2, none⟩ = some u2) :
    (((W.setCell ⟨b, 0, none⟩ x).setCell ⟨b, 1, none⟩ y).setCell ⟨b, 2, none⟩ z).cell? ⟨b, 0, none⟩ = some x ∧ (((W.setCell ⟨b, 0, none⟩ x).setCell ⟨b, 1, none⟩ y).setCell ⟨b, 2, none⟩ z).cell? ⟨b, 1, none⟩ = some y ∧ (((W.setCell ⟨b, 0, none⟩ x).setCell ⟨b, 1, none⟩ y).setCell ⟨b, 2, none⟩ z).cell? ⟨b, 2, none⟩ = some z :=
  ⟨by rw [set_ne (by decide), set_ne (by decide)]; exact set_same h0, by rw [set_ne (by decide)]; exact set_same (by rw [set_ne (by decide)]; exact h1), set_same (by rw [set_ne (by decide), set_ne (by decide)]; exact h2)⟩
/-- A variable of a value's shape that nothing has been put into yet. -/
def Zc (W : World) (b : Nat) : Prop := b < W.heap.size ∧ W.cell? ⟨b, 0, none⟩ = some (.int .i64 0) ∧ W.cell? ⟨b, 1, none⟩ = some (.int .i64 0) ∧ W.cell? ⟨b, 2, none⟩ = some (.string ⟨#[]⟩)
theorem zc_first {W W' : World} {T : TypeId} (hb : Below (W.alloc (.cells #[.int .i64 0, .int .i64 0, .string ⟨#[]⟩] T)).heap.size (W.alloc (.cells #[.int .i64 0, .int .i64 0, .string ⟨#[]⟩] T)) W') : Zc W' W.heap.size := by
  have hs := hb.size
  have hl : W.heap.size < (W.alloc (.cells #[.int .i64 0, .int .i64 0, .string ⟨#[]⟩] T)).heap.size := by simp
  refine ⟨Nat.lt_of_lt_of_le hl hs, ?_, ?_, ?_⟩
  · rw [hb.cell (p := ⟨W.heap.size, 0, none⟩) hl, cell_of_row _ _ _ _ _ _ (heap_alloc_new _ _)]; rfl
  · rw [hb.cell (p := ⟨W.heap.size, 1, none⟩) hl, cell_of_row _ _ _ _ _ _ (heap_alloc_new _ _)]; rfl
  · rw [hb.cell (p := ⟨W.heap.size, 2, none⟩) hl, cell_of_row _ _ _ _ _ _ (heap_alloc_new _ _)]; rfl
theorem zc_first' {W W' : World} {T : TypeId} (hb : Below (W.alloc (.cells #[.int .i64 0, .int .i64 0, .string ⟨#[]⟩] T)).drew.heap.size (W.alloc (.cells #[.int .i64 0, .int .i64 0, .string ⟨#[]⟩] T)).drew W') : Zc W' W.heap.size :=
  zc_first (T := T) (((Below.refl _ _).drew).trans hb)
theorem zc_b {W W' : World} {b : Nat} (h : Zc W b) (hb : Below W.heap.size W W') : Zc W' b :=
  ⟨Nat.lt_of_lt_of_le h.1 hb.size, (hb.cell (p := ⟨b, 0, none⟩) h.1).trans h.2.1, (hb.cell (p := ⟨b, 1, none⟩) h.1).trans h.2.2.1, (hb.cell (p := ⟨b, 2, none⟩) h.1).trans h.2.2.2⟩
theorem zc_set {W : World} {b : Nat} {x y z : Value} (h : Zc W b) :
    b < (((W.setCell ⟨b, 0, none⟩ x).setCell ⟨b, 1, none⟩ y).setCell ⟨b, 2, none⟩ z).heap.size ∧ (((W.setCell ⟨b, 0, none⟩ x).setCell ⟨b, 1, none⟩ y).setCell ⟨b, 2, none⟩ z).cell? ⟨b, 0, none⟩ = some x ∧ (((W.setCell ⟨b, 0, none⟩ x).setCell ⟨b, 1, none⟩ y).setCell ⟨b, 2, none⟩ z).cell? ⟨b, 1, none⟩ = some y ∧ (((W.setCell ⟨b, 0, none⟩ x).setCell ⟨b, 1, none⟩ y).setCell ⟨b, 2, none⟩ z).cell? ⟨b, 2, none⟩ = some z :=
  ⟨by simpa using h.1, set3 h.2.1 h.2.2.1 h.2.2.2⟩
theorem al_set {W : World} {T : TypeId} {x y z : Value} :
    W.heap.size < (W.alloc (.cells #[x, y, z] T)).heap.size ∧ (W.alloc (.cells #[x, y, z] T)).cell? ⟨W.heap.size, 0, none⟩ = some x ∧ (W.alloc (.cells #[x, y, z] T)).cell? ⟨W.heap.size, 1, none⟩ = some y ∧ (W.alloc (.cells #[x, y, z] T)).cell? ⟨W.heap.size, 2, none⟩ = some z :=
  ⟨by simp, by rw [cell_of_row _ _ _ _ _ _ (heap_alloc_new _ _)]; rfl, by rw [cell_of_row _ _ _ _ _ _ (heap_alloc_new _ _)]; rfl, by rw [cell_of_row _ _ _ _ _ _ (heap_alloc_new _ _)]; rfl⟩
theorem bel_step {W0 W W' : World} {Q : Prop} (h : Below W0.heap.size W0 W ∧ Q) (hb : Below W.heap.size W W') : Below W0.heap.size W0 W' := h.1.trans (hb.mono h.1.size)
theorem bel_of {A : Nat} {W W' : World} {Q : Prop} (h : Below A W W' ∧ Q) : Below A W W' := h.1
theorem bel_sz {W0 W : World} (h : Below W0.heap.size W0 W) : W0.heap.size ≤ W.heap.size := h.size
theorem bel_dr {W0 W : World} (h : Below W0.heap.size W0 W) : Below W0.heap.size W0 W.drew := h.drew
theorem bel_s3 {W0 W : World} {b i j k : Nat} {x y z : Value} (h : Below W0.heap.size W0 W) (hb : W0.heap.size ≤ b) : Below W0.heap.size W0 (((W.setCell ⟨b, i, none⟩ x).setCell ⟨b, j, none⟩ y).setCell ⟨b, k, none⟩ z) := ((h.setCell hb _).setCell hb _).setCell hb _
theorem bel_al {W0 W : World} (h : Below W0.heap.size W0 W) (o : Obj) : Below W0.heap.size W0 (W.alloc o) := h.alloc h.size o

theorem arV_form (op : ByteArray) (ka x kb y : Int) : ∃ kk nn u, arV op ka x kb y = .tuple #[.agg #[.int .i64 kk, .int .i64 nn, .string ⟨#[]⟩], .string u] := by
  by_cases h : ka = 2 ∧ kb = 2
  · unfold arV; rw [if_pos h]; exact ⟨_, _, _, rfl⟩
  · exact ⟨0, 0, _, arV_no h⟩

set_option maxRecDepth 100000 in
set_option maxHeartbeats 1600000 in
theorem exact_arith (op : ByteArray) (ka x : Int) (s : ByteArray) (kb y : Int) (t : ByteArray) (w : World) (ho : op.size ≤ maxLen) (hv : ValOk ka x s) (hu : ValOk kb y t) :
    Calls Try.prog 5 #[.string op, .agg #[.int .i64 ka, .int .i64 x, .string s], .agg #[.int .i64 kb, .int .i64 y, .string t]] w fun e w' => e = .returned (.bool true) ∧ Below w.heap.size w w' := by
  unfold maxLen at ho
  by_cases hbig : 1048576 < op.size
  · go_enter Try.func5, Try.ntmps5
    go_wp2_with fail
    go_ret
    exact ⟨rfl, by repeat (first | exact Below.refl _ _ | refine Below.alloc ?_ (by simp <;> omega) _)⟩
  · go_enter Try.func5, Try.ntmps5
    go_wp2_with fail
    refine (szV_any ka x s _ _ hv.s1 (by decide) (by decide)).mono ?_
    rintro e w1 ⟨⟨r, rfl, hr⟩, hb1⟩
    obtain ⟨hc1, hf1⟩ := bcell hb1
    have hz1 : w.heap.size + 1 < w1.heap.size := by have := hb1.size; simp at this; omega
    have B1 : Below w.heap.size w w1 := Below.trans (by repeat (first | exact Below.refl _ _ | refine Below.alloc ?_ (by simp <;> omega) _)) (hb1.mono (by simp <;> omega))
    by_cases hneg : r < 0
    · go_wp2_with fail
      go_ret
      exact ⟨rfl, B1⟩
    · skip
      go_wp2_with fail
      refine (szV_any kb y t _ _ hu.s1 (by omega) (by omega)).mono ?_
      rintro e w2 ⟨⟨r2, rfl, hr2⟩, hb2⟩
      obtain ⟨hc2, hf2⟩ := bcell hb2
      have hz2 : w.heap.size + 1 < w2.heap.size := by have := hb2.size; (try simp at this); omega
      have B2 : Below w.heap.size w w2 := Below.trans (by repeat (first | exact B1 | refine Below.setCell ?_ (by simp <;> omega) _ | refine Below.alloc ?_ (by (try simp); omega) _)) (hb2.mono (by (try simp); omega))
      by_cases hneg2 : r2 < 0
      · go_wp2_with fail
        go_ret
        exact ⟨rfl, B2⟩
      · skip
        obtain ⟨kk, nn, u, hV⟩ := arV_form op ka x kb y
        have HS : Hid (∀ W, Calls Try.prog 16 #[.string op, .agg #[.int .i64 ka, .int .i64 x, .string s], .agg #[.int .i64 kb, .int .i64 y, .string t]] W fun e w' => e = .returned (.tuple #[.agg #[.int .i64 kk, .int .i64 nn, .string ⟨#[]⟩], .string u]) ∧ Below W.heap.size W w') := fun W => hV ▸ arith_spec op ka x kb y s t W
        have HI : Hid (∀ W, Calls Try.prog 17 #[.string op, .agg #[.int .i64 ka, .int .i64 x, .string s], .agg #[.int .i64 kb, .int .i64 y, .string t]] W fun e w' => e = .returned (.tuple #[.agg #[.int .i64 kk, .int .i64 nn, .string ⟨#[]⟩], .string u]) ∧ Below W.heap.size W w') := fun W => hV ▸ arith_impl op ka x kb y s t W
        clear hV
        have q0 : w2.cell? ⟨w.heap.size, 0, none⟩ = some (.int .i64 ka) := by rw [hc2 _ _ (by omega), hc1 _ _ (by simp <;> omega)]; simp
        have q1 : w2.cell? ⟨w.heap.size, 1, none⟩ = some (.int .i64 x) := by rw [hc2 _ _ (by omega), hc1 _ _ (by simp <;> omega)]; simp
        have q2 : w2.cell? ⟨w.heap.size, 2, none⟩ = some (.string s) := by rw [hc2 _ _ (by omega), hc1 _ _ (by simp <;> omega)]; simp
        have q3 : w2.cell? ⟨w.heap.size + 1, 0, none⟩ = some (.int .i64 kb) := by rw [hc2 _ _ (by omega), hc1 _ _ (by simp)]; simp
        have q4 : w2.cell? ⟨w.heap.size + 1, 1, none⟩ = some (.int .i64 y) := by rw [hc2 _ _ (by omega), hc1 _ _ (by simp)]; simp
        have q5 : w2.cell? ⟨w.heap.size + 1, 2, none⟩ = some (.string t) := by rw [hc2 _ _ (by omega), hc1 _ _ (by simp)]; simp
        have KEEP : Hid (∀ W' : World, Below w2.heap.size w2 W' → (fun w' => Below w2.heap.size w2 w' ∧ w'.cell? ⟨w.heap.size, 0, none⟩ = some (.int .i64 ka) ∧ w'.cell? ⟨w.heap.size, 1, none⟩ = some (.int .i64 x) ∧ w'.cell? ⟨w.heap.size, 2, none⟩ = some (.string s) ∧ w'.cell? ⟨w.heap.size + 1, 0, none⟩ = some (.int .i64 kb) ∧ w'.cell? ⟨w.heap.size + 1, 1, none⟩ = some (.int .i64 y) ∧ w'.cell? ⟨w.heap.size + 1, 2, none⟩ = some (.string t)) W') := fun W' hB => ⟨hB, (hB.cell (p := ⟨w.heap.size, 0, none⟩) (by show w.heap.size < _; omega)).trans q0, (hB.cell (p := ⟨w.heap.size, 1, none⟩) (by show w.heap.size < _; omega)).trans q1, (hB.cell (p := ⟨w.heap.size, 2, none⟩) (by show w.heap.size < _; omega)).trans q2, (hB.cell (p := ⟨w.heap.size + 1, 0, none⟩) (by show w.heap.size + 1 < _; omega)).trans q3, (hB.cell (p := ⟨w.heap.size + 1, 1, none⟩) (by show w.heap.size + 1 < _; omega)).trans q4, (hB.cell (p := ⟨w.heap.size + 1, 2, none⟩) (by show w.heap.size + 1 < _; omega)).trans q5⟩
        have hq0 : Below w2.heap.size w2 w2.drew := (Below.refl _ _).drew
        clear q0 q1 q2 q3 q4 q5
        go_wp2_with fail
        go_cut [8, 9] from 12 (fun p8 u9 wx => ∃ b, p8 = .pointer (some ⟨b, 0, none⟩) ∧ u9 = .string u ∧ Below w2.heap.size w2 wx ∧ w2.heap.size ≤ b ∧ b < wx.heap.size ∧ wx.cell? ⟨b, 0, none⟩ = some (.int .i64 kk) ∧ wx.cell? ⟨b, 1, none⟩ = some (.int .i64 nn) ∧ wx.cell? ⟨b, 2, none⟩ = some (.string ⟨#[]⟩))
        case first =>
          go_region_held3 (fun w' => Below w2.heap.size w2 w' ∧ w'.cell? ⟨w.heap.size, 0, none⟩ = some (.int .i64 ka) ∧ w'.cell? ⟨w.heap.size, 1, none⟩ = some (.int .i64 x) ∧ w'.cell? ⟨w.heap.size, 2, none⟩ = some (.string s) ∧ w'.cell? ⟨w.heap.size + 1, 0, none⟩ = some (.int .i64 kb) ∧ w'.cell? ⟨w.heap.size + 1, 1, none⟩ = some (.int .i64 y) ∧ w'.cell? ⟨w.heap.size + 1, 2, none⟩ = some (.string t)) (first | assumption | exact KEEP.out _ (by assumption) | exact KEEP.out _ (bel_al (by assumption) _) | exact KEEP.out _ (bel_s3 (by assumption) (by first | exact bel_sz (by assumption) | omega)) | exact KEEP.out _ (by repeat (first | assumption | exact bel_dr (by assumption) | refine Below.setCell ?_ (by omega) _ | refine Below.alloc ?_ (by omega) _))) (first | (go_at_call 12; refine (toV_any _ _ _ _).mono ?_; rintro e w' ⟨rfl, hb'⟩; have hq' := bel_step (by assumption) hb'; obtain ⟨hc', hf'⟩ := bcell hb'; have ht' := fun (b : Nat) h => Nat.lt_of_lt_of_le (n := b) h hb'.size; (first | (have hu' := fun (b : Nat) h => ht' b (hu' b h)) | (have hu' := ht')); (first | (have hzc' := zc_b hzc' hb') | (have hzc' := zc_first hb') | (have hzc' := zc_first' hb') | skip); have hs' := hb'.size; (try simp at hs')) | (go_at_call 16; refine (HS.out _).mono ?_; rintro e w' ⟨rfl, hb'⟩; have hq' := bel_step (by assumption) hb'; obtain ⟨hc', hf'⟩ := bcell hb'; have ht' := fun (b : Nat) h => Nat.lt_of_lt_of_le (n := b) h hb'.size; (first | (have hu' := fun (b : Nat) h => ht' b (hu' b h)) | (have hu' := ht')); (first | (have hzc' := zc_b hzc' hb') | (have hzc' := zc_first hb') | (have hzc' := zc_first' hb') | skip); have hs' := hb'.size; (try simp at hs')))
          all_goals
            go_wp2_with fail
            go_meet
            case rel =>
              refine ⟨_, rfl, rfl, ?_, ?_, ?_⟩
              · (first | assumption | exact bel_of (by assumption))
              · (first | exact Nat.le_refl _ | exact bel_sz (by assumption) | omega)
              · (first | exact al_set | exact zc_set hzc' | exact zc_set (by assumption))
        case rest =>
          rename World => wA
          obtain ⟨b8, rfl, rfl, hqA, hl8, hs8, e0, e1, e2⟩ := hcut
          have hq0 := bel_dr hqA
          go_wp2_with fail
          go_cut [10, 11] from 12 (fun p u9 wx => ∃ b, p = .pointer (some ⟨b, 0, none⟩) ∧ u9 = .string u ∧ Below wA.heap.size wA wx ∧ b < wx.heap.size ∧ wx.cell? ⟨b, 0, none⟩ = some (.int .i64 kk) ∧ wx.cell? ⟨b, 1, none⟩ = some (.int .i64 nn) ∧ wx.cell? ⟨b, 2, none⟩ = some (.string ⟨#[]⟩))
          case first =>
            have q0 := (KEEP.out _ hq0).2.1
            have q1 := (KEEP.out _ hq0).2.2.1
            have q2 := (KEEP.out _ hq0).2.2.2.1
            have q3 := (KEEP.out _ hq0).2.2.2.2.1
            have q4 := (KEEP.out _ hq0).2.2.2.2.2.1
            have q5 := (KEEP.out _ hq0).2.2.2.2.2.2
            have q0 : wA.cell? ⟨w.heap.size, 0, none⟩ = some (.int .i64 ka) := q0
            have q1 : wA.cell? ⟨w.heap.size, 1, none⟩ = some (.int .i64 x) := q1
            have q2 : wA.cell? ⟨w.heap.size, 2, none⟩ = some (.string s) := q2
            have q3 : wA.cell? ⟨w.heap.size + 1, 0, none⟩ = some (.int .i64 kb) := q3
            have q4 : wA.cell? ⟨w.heap.size + 1, 1, none⟩ = some (.int .i64 y) := q4
            have q5 : wA.cell? ⟨w.heap.size + 1, 2, none⟩ = some (.string t) := q5
            have KEEP2 : Hid (∀ W' : World, Below wA.heap.size wA W' → (fun w' => Below wA.heap.size wA w' ∧ w'.cell? ⟨w.heap.size, 0, none⟩ = some (.int .i64 ka) ∧ w'.cell? ⟨w.heap.size, 1, none⟩ = some (.int .i64 x) ∧ w'.cell? ⟨w.heap.size, 2, none⟩ = some (.string s) ∧ w'.cell? ⟨w.heap.size + 1, 0, none⟩ = some (.int .i64 kb) ∧ w'.cell? ⟨w.heap.size + 1, 1, none⟩ = some (.int .i64 y) ∧ w'.cell? ⟨w.heap.size + 1, 2, none⟩ = some (.string t)) W') := fun W' hB => ⟨hB, (hB.cell (p := ⟨w.heap.size, 0, none⟩) (by have h1 := hz2; have h2 := hq0.size; show w.heap.size < _; omega)).trans q0, (hB.cell (p := ⟨w.heap.size, 1, none⟩) (by have h1 := hz2; have h2 := hq0.size; show w.heap.size < _; omega)).trans q1, (hB.cell (p := ⟨w.heap.size, 2, none⟩) (by have h1 := hz2; have h2 := hq0.size; show w.heap.size < _; omega)).trans q2, (hB.cell (p := ⟨w.heap.size + 1, 0, none⟩) (by have h1 := hz2; have h2 := hq0.size; show w.heap.size + 1 < _; omega)).trans q3, (hB.cell (p := ⟨w.heap.size + 1, 1, none⟩) (by have h1 := hz2; have h2 := hq0.size; show w.heap.size + 1 < _; omega)).trans q4, (hB.cell (p := ⟨w.heap.size + 1, 2, none⟩) (by have h1 := hz2; have h2 := hq0.size; show w.heap.size + 1 < _; omega)).trans q5⟩
            have hq1 : Below wA.heap.size wA wA.drew := (Below.refl _ _).drew
            clear q0 q1 q2 q3 q4 q5
            go_region_held3 (fun w' => Below wA.heap.size wA w' ∧ w'.cell? ⟨w.heap.size, 0, none⟩ = some (.int .i64 ka) ∧ w'.cell? ⟨w.heap.size, 1, none⟩ = some (.int .i64 x) ∧ w'.cell? ⟨w.heap.size, 2, none⟩ = some (.string s) ∧ w'.cell? ⟨w.heap.size + 1, 0, none⟩ = some (.int .i64 kb) ∧ w'.cell? ⟨w.heap.size + 1, 1, none⟩ = some (.int .i64 y) ∧ w'.cell? ⟨w.heap.size + 1, 2, none⟩ = some (.string t)) (first | assumption | exact KEEP2.out _ (by assumption) | exact KEEP2.out _ (bel_al (by assumption) _) | exact KEEP2.out _ (bel_s3 (by assumption) (by first | exact bel_sz (by assumption) | omega)) | exact KEEP2.out _ (by repeat (first | assumption | exact bel_dr (by assumption) | refine Below.setCell ?_ (by omega) _ | refine Below.alloc ?_ (by omega) _))) (first | (go_at_call 12; refine (toV_any _ _ _ _).mono ?_; rintro e w' ⟨rfl, hb'⟩; have hq' := bel_step (by assumption) hb'; obtain ⟨hc', hf'⟩ := bcell hb'; have ht' := fun (b : Nat) h => Nat.lt_of_lt_of_le (n := b) h hb'.size; (first | (have hu' := fun (b : Nat) h => ht' b (hu' b h)) | (have hu' := ht')); (first | (have hzc' := zc_b hzc' hb') | (have hzc' := zc_first hb') | (have hzc' := zc_first' hb') | skip); have hs' := hb'.size; (try simp at hs')) | (go_at_call 17; refine (HI.out _).mono ?_; rintro e w' ⟨rfl, hb'⟩; have hq' := bel_step (by assumption) hb'; obtain ⟨hc', hf'⟩ := bcell hb'; have ht' := fun (b : Nat) h => Nat.lt_of_lt_of_le (n := b) h hb'.size; (first | (have hu' := fun (b : Nat) h => ht' b (hu' b h)) | (have hu' := ht')); (first | (have hzc' := zc_b hzc' hb') | (have hzc' := zc_first hb') | (have hzc' := zc_first' hb') | skip); have hs' := hb'.size; (try simp at hs')))
            all_goals
              go_wp2_with fail
              go_meet
              case rel =>
                refine ⟨_, rfl, rfl, ?_, ?_⟩
                · (first | assumption | exact bel_of (by assumption))
                · (first | exact al_set | exact zc_set hzc' | exact zc_set (by assumption))
          case rest =>
            obtain ⟨b10, rfl, rfl, hq2, g3, g0, g1, g2⟩ := hcut
            have B3 : Below w.heap.size w wc := B2.trans ((hqA.trans (hq2.mono hqA.size)).mono B2.size)
            have e0 := (hq2.cell (p := ⟨b8, 0, none⟩) hs8).trans e0
            have e1 := (hq2.cell (p := ⟨b8, 1, none⟩) hs8).trans e1
            have e2 := (hq2.cell (p := ⟨b8, 2, none⟩) hs8).trans e2
            go_wp2_with fail
            refine (eqV_same kk nn ⟨#[]⟩ _).mono ?_
            rintro e w9 ⟨rfl, hb9⟩
            go_wp2_with fail
            go_ret
            exact ⟨rfl, B3.trans (hb9.mono B3.size)⟩
end Go.Proofs.Ytoilhbghjiffeaa
