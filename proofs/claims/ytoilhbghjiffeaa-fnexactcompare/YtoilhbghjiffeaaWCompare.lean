/- The walk of FnExactCompare: it returns true. -/
import Derived.Test.YtoilhbghjiffeaaValG
import Derived.Test.YtoilhbghjiffeaaValI
import Derived.Test.YtoilhbghjiffeaaValR
namespace Go.Proofs.Ytoilhbghjiffeaa
open Go.RowKit

theorem cmR_form (op : ByteArray) (l q : Bool) : ∃ kk nn u, cmR op l q = .tuple #[.agg #[.int .i64 kk, .int .i64 nn, .string ⟨#[]⟩], .string u] := by
  unfold cmR
  repeat' split
  all_goals first | exact ⟨1, _, _, rfl⟩ | exact ⟨0, 0, _, rfl⟩
theorem cmV_form (op : ByteArray) (ka x : Int) (s : ByteArray) (kb y : Int) (t : ByteArray) : ∃ kk nn u, cmV op ka x s kb y t = .tuple #[.agg #[.int .i64 kk, .int .i64 nn, .string ⟨#[]⟩], .string u] := by
  unfold cmV
  repeat' split
  all_goals first | exact ⟨1, _, _, rfl⟩ | exact ⟨0, 0, _, rfl⟩ | exact cmR_form _ _ _

set_option maxRecDepth 100000 in
set_option maxHeartbeats 1600000 in
theorem exact_compare (op : ByteArray) (ka x : Int) (s : ByteArray) (kb y : Int) (t : ByteArray) (w : World) (ho : op.size ≤ maxLen) (hv : ValOk ka x s) (hu : ValOk kb y t) :
    Calls Try.prog 6 #[.string op, .agg #[.int .i64 ka, .int .i64 x, .string s], .agg #[.int .i64 kb, .int .i64 y, .string t]] w fun e w' => e = .returned (.bool true) ∧ Below w.heap.size w w' := by
  unfold maxLen at ho
  by_cases hbig : 1048576 < op.size
  · go_enter Try.func6, Try.ntmps6
    go_wp2_with fail
    go_ret
    exact ⟨rfl, by repeat (first | exact Below.refl _ _ | refine Below.alloc ?_ (by simp <;> omega) _)⟩
  · go_enter Try.func6, Try.ntmps6
    go_wp2_with fail
    refine (szV_any ka x s _ _ hv.s1 (by decide) (by decide)).mono ?_
    rintro e w1 ⟨⟨r, rfl, hr⟩, hb1⟩
    obtain ⟨hc1, hf1⟩ := bcell hb1
    have hz1 : w.heap.size + 1 < w1.heap.size := by have := hb1.size; simp at this; omega
    have B1 : Below w.heap.size w w1 := Below.trans (by repeat (first | exact Below.refl _ _ | refine Below.alloc ?_ (by simp <;> omega) _)) (hb1.mono (by simp <;> omega))
    by_cases hneg : r < 0
    · go_wp2_with fail
      go_ret
      exact ⟨rfl, B1⟩
    · skip
      go_wp2_with fail
      refine (szV_any kb y t _ _ hu.s1 (by omega) (by omega)).mono ?_
      rintro e w2 ⟨⟨r2, rfl, hr2⟩, hb2⟩
      obtain ⟨hc2, hf2⟩ := bcell hb2
      have hz2 : w.heap.size + 1 < w2.heap.size := by have := hb2.size; (try simp at this); omega
      have B2 : Below w.heap.size w w2 := Below.trans (by repeat (first | exact B1 | refine Below.setCell ?_ (by simp <;> omega) _ | refine Below.alloc ?_ (by (try simp); omega) _)) (hb2.mono (by (try simp); omega))
      by_cases hneg2 : r2 < 0
      · go_wp2_with fail
        go_ret
        exact ⟨rfl, B2⟩
      · skip
        obtain ⟨kk, nn, u, hV⟩ := cmV_form op ka x s kb y t
        have HS : Hid (∀ W, Calls Try.prog 19 #[.string op, .agg #[.int .i64 ka, .int .i64 x, .string s], .agg #[.int .i64 kb, .int .i64 y, .string t]] W fun e w' => e = .returned (.tuple #[.agg #[.int .i64 kk, .int .i64 nn, .string ⟨#[]⟩], .string u]) ∧ Below W.heap.size W w') := fun W => hV ▸ compare_spec op ka x kb y s t W
        have HI : Hid (∀ W, Calls Try.prog 20 #[.string op, .agg #[.int .i64 ka, .int .i64 x, .string s], .agg #[.int .i64 kb, .int .i64 y, .string t]] W fun e w' => e = .returned (.tuple #[.agg #[.int .i64 kk, .int .i64 nn, .string ⟨#[]⟩], .string u]) ∧ Below W.heap.size W w') := fun W => hV ▸ compare_impl op ka x kb y s t W
        clear hV
        have q0 : w2.cell? ⟨w.heap.size, 0, none⟩ = some (.int .i64 ka) := by rw [hc2 _ _ (by omega), hc1 _ _ (by simp <;> omega)]; simp
        have q1 : w2.cell? ⟨w.heap.size, 1, none⟩ = some (.int .i64 x) := by rw [hc2 _ _ (by omega), hc1 _ _ (by simp <;> omega)]; simp
        have q2 : w2.cell? ⟨w.heap.size, 2, none⟩ = some (.string s) := by rw [hc2 _ _ (by omega), hc1 _ _ (by simp <;> omega)]; simp
        have q3 : w2.cell? ⟨w.heap.size + 1, 0, none⟩ = some (.int .i64 kb) := by rw [hc2 _ _ (by omega), hc1 _ _ (by simp)]; simp
        have q4 : w2.cell? ⟨w.heap.size + 1, 1, none⟩ = some (.int .i64 y) := by rw [hc2 _ _ (by omega), hc1 _ _ (by simp)]; simp
        have q5 : w2.cell? ⟨w.heap.size + 1, 2, none⟩ = some (.string t) := by rw [hc2 _ _ (by omega), hc1 _ _ (by simp)]; simp
        have KEEP : Hid (∀ W' : World, Below w2.heap.size w2 W' → (fun w' => Below w2.heap.size w2 w' ∧ w'.cell? ⟨w.heap.size, 0, none⟩ = some (.int .i64 ka) ∧ w'.cell? ⟨w.heap.size, 1, none⟩ = some (.int .i64 x) ∧ w'.cell? ⟨w.heap.size, 2, none⟩ = some (.string s) ∧ w'.cell? ⟨w.heap.size + 1, 0, none⟩ = some (.int .i64 kb) ∧ w'.cell? ⟨w.heap.size + 1, 1, none⟩ = some (.int .i64 y) ∧ w'.cell? ⟨w.heap.size + 1, 2, none⟩ = some (.string t)) W') := fun W' hB => ⟨hB, (hB.cell (p := ⟨w.heap.size, 0, none⟩) (by show w.heap.size < _; omega)).trans q0, (hB.cell (p := ⟨w.heap.size, 1, none⟩) (by show w.heap.size < _; omega)).trans q1, (hB.cell (p := ⟨w.heap.size, 2, none⟩) (by show w.heap.size < _; omega)).trans q2, (hB.cell (p := ⟨w.heap.size + 1, 0, none⟩) (by show w.heap.size + 1 < _; omega)).trans q3, (hB.cell (p := ⟨w.heap.size + 1, 1, none⟩) (by show w.heap.size + 1 < _; omega)).trans q4, (hB.cell (p := ⟨w.heap.size + 1, 2, none⟩) (by show w.heap.size + 1 < _; omega)).trans q5⟩
        have hq0 : Below w2.heap.size w2 w2.drew := (Below.refl _ _).drew
        clear q0 q1 q2 q3 q4 q5
        go_wp2_with fail
        go_cut [8, 9] from 12 (fun p8 u9 wx => ∃ b, p8 = .pointer (some ⟨b, 0, none⟩) ∧ u9 = .string u ∧ Below w2.heap.size w2 wx ∧ w2.heap.size ≤ b ∧ b < wx.heap.size ∧ wx.cell? ⟨b, 0, none⟩ = some (.int .i64 kk) ∧ wx.cell? ⟨b, 1, none⟩ = some (.int .i64 nn) ∧ wx.cell? ⟨b, 2, none⟩ = some (.string ⟨#[]⟩))
        case first =>
          go_region_held3 (fun w' => Below w2.heap.size w2 w' ∧ w'.cell? ⟨w.heap.size, 0, none⟩ = some (.int .i64 ka) ∧ w'.cell? ⟨w.heap.size, 1, none⟩ = some (.int .i64 x) ∧ w'.cell? ⟨w.heap.size, 2, none⟩ = some (.string s) ∧ w'.cell? ⟨w.heap.size + 1, 0, none⟩ = some (.int .i64 kb) ∧ w'.cell? ⟨w.heap.size + 1, 1, none⟩ = some (.int .i64 y) ∧ w'.cell? ⟨w.heap.size + 1, 2, none⟩ = some (.string t)) (first | assumption | exact KEEP.out _ (by assumption) | exact KEEP.out _ (bel_al (by assumption) _) | exact KEEP.out _ (bel_s3 (by assumption) (by first | exact bel_sz (by assumption) | omega)) | exact KEEP.out _ (by repeat (first | assumption | exact bel_dr (by assumption) | refine Below.setCell ?_ (by omega) _ | refine Below.alloc ?_ (by omega) _))) (first | (go_at_call 12; refine (toV_any _ _ _ _).mono ?_; rintro e w' ⟨rfl, hb'⟩; have hq' := bel_step (by assumption) hb'; obtain ⟨hc', hf'⟩ := bcell hb'; have ht' := fun (b : Nat) h => Nat.lt_of_lt_of_le (n := b) h hb'.size; (first | (have hu' := fun (b : Nat) h => ht' b (hu' b h)) | (have hu' := ht')); (first | (have hzc' := zc_b hzc' hb') | (have hzc' := zc_first hb') | (have hzc' := zc_first' hb') | skip); have hs' := hb'.size; (try simp at hs')) | (go_at_call 19; refine (HS.out _).mono ?_; rintro e w' ⟨rfl, hb'⟩; have hq' := bel_step (by assumption) hb'; obtain ⟨hc', hf'⟩ := bcell hb'; have ht' := fun (b : Nat) h => Nat.lt_of_lt_of_le (n := b) h hb'.size; (first | (have hu' := fun (b : Nat) h => ht' b (hu' b h)) | (have hu' := ht')); (first | (have hzc' := zc_b hzc' hb') | (have hzc' := zc_first hb') | (have hzc' := zc_first' hb') | skip); have hs' := hb'.size; (try simp at hs')))
          all_goals
            go_wp2_with fail
            go_meet
            case rel =>
              refine ⟨_, rfl, rfl, ?_, ?_, ?_⟩
              · (first | assumption | exact bel_of (by assumption))
              · (first | exact Nat.le_refl _ | exact bel_sz (by assumption) | omega)
              · (first | exact al_set | exact zc_set hzc' | exact zc_set (by assumption))
        case rest =>
          rename World => wA
          obtain ⟨b8, rfl, rfl, hqA, hl8, hs8, e0, e1, e2⟩ := hcut
          have hq0 := bel_dr hqA
          go_wp2_with fail
          go_cut [10, 11] from 12 (fun p u9 wx => ∃ b, p = .pointer (some ⟨b, 0, none⟩) ∧ u9 = .string u ∧ Below wA.heap.size wA wx ∧ b < wx.heap.size ∧ wx.cell? ⟨b, 0, none⟩ = some (.int .i64 kk) ∧ wx.cell? ⟨b, 1, none⟩ = some (.int .i64 nn) ∧ wx.cell? ⟨b, 2, none⟩ = some (.string ⟨#[]⟩))
          case first =>
            have q0 := (KEEP.out _ hq0).2.1
            have q1 := (KEEP.out _ hq0).2.2.1
            have q2 := (KEEP.out _ hq0).2.2.2.1
            have q3 := (KEEP.out _ hq0).2.2.2.2.1
            have q4 := (KEEP.out _ hq0).2.2.2.2.2.1
            have q5 := (KEEP.out _ hq0).2.2.2.2.2.2
            have q0 : wA.cell? ⟨w.heap.size, 0, none⟩ = some (.int .i64 ka) := q0
            have q1 : wA.cell? ⟨w.heap.size, 1, none⟩ = some (.int .i64 x) := q1
            have q2 : wA.cell? ⟨w.heap.size, 2, none⟩ = some (.string s) := q2
            have q3 : wA.cell? ⟨w.heap.size + 1, 0, none⟩ = some (.int .i64 kb) := q3
            have q4 : wA.cell? ⟨w.heap.size + 1, 1, none⟩ = some (.int .i64 y) := q4
            have q5 : wA.cell? ⟨w.heap.size + 1, 2, none⟩ = some (.string t) := q5
            have KEEP2 : Hid (∀ W' : World, Below wA.heap.size wA W' → (fun w' => Below wA.heap.size wA w' ∧ w'.cell? ⟨w.heap.size, 0, none⟩ = some (.int .i64 ka) ∧ w'.cell? ⟨w.heap.size, 1, none⟩ = some (.int .i64 x) ∧ w'.cell? ⟨w.heap.size, 2, none⟩ = some (.string s) ∧ w'.cell? ⟨w.heap.size + 1, 0, none⟩ = some (.int .i64 kb) ∧ w'.cell? ⟨w.heap.size + 1, 1, none⟩ = some (.int .i64 y) ∧ w'.cell? ⟨w.heap.size + 1, 2, none⟩ = some (.string t)) W') := fun W' hB => ⟨hB, (hB.cell (p := ⟨w.heap.size, 0, none⟩) (by have h1 := hz2; have h2 := hq0.size; show w.heap.size < _; omega)).trans q0, (hB.cell (p := ⟨w.heap.size, 1, none⟩) (by have h1 := hz2; have h2 := hq0.size; show w.heap.size < _; omega)).trans q1, (hB.cell (p := ⟨w.heap.size, 2, none⟩) (by have h1 := hz2; have h2 := hq0.size; show w.heap.size < _; omega)).trans q2, (hB.cell (p := ⟨w.heap.size + 1, 0, none⟩) (by have h1 := hz2; have h2 := hq0.size; show w.heap.size + 1 < _; omega)).trans q3, (hB.cell (p := ⟨w.heap.size + 1, 1, none⟩) (by have h1 := hz2; have h2 := hq0.size; show w.heap.size + 1 < _; omega)).trans q4, (hB.cell (p := ⟨w.heap.size + 1, 2, none⟩) (by have h1 := hz2; have h2 := hq0.size; show w.heap.size + 1 < _; omega)).trans q5⟩
            have hq1 : Below wA.heap.size wA wA.drew := (Below.refl _ _).drew
            clear q0 q1 q2 q3 q4 q5
            go_region_held3 (fun w' => Below wA.heap.size wA w' ∧ w'.cell? ⟨w.heap.size, 0, none⟩ = some (.int .i64 ka) ∧ w'.cell? ⟨w.heap.size, 1, none⟩ = some (.int .i64 x) ∧ w'.cell? ⟨w.heap.size, 2, none⟩ = some (.string s) ∧ w'.cell? ⟨w.heap.size + 1, 0, none⟩ = some (.int .i64 kb) ∧ w'.cell? ⟨w.heap.size + 1, 1, none⟩ = some (.int .i64 y) ∧ w'.cell? ⟨w.heap.size + 1, 2, none⟩ = some (.string t)) (first | assumption | exact KEEP2.out _ (by assumption) | exact KEEP2.out _ (bel_al (by assumption) _) | exact KEEP2.out _ (bel_s3 (by assumption) (by first | exact bel_sz (by assumption) | omega)) | exact KEEP2.out _ (by repeat (first | assumption | exact bel_dr (by assumption) | refine Below.setCell ?_ (by omega) _ | refine Below.alloc ?_ (by omega) _))) (first | (go_at_call 12; refine (toV_any _ _ _ _).mono ?_; rintro e w' ⟨rfl, hb'⟩; have hq' := bel_step (by assumption) hb'; obtain ⟨hc', hf'⟩ := bcell hb'; have ht' := fun (b : Nat) h => Nat.lt_of_lt_of_le (n := b) h hb'.size; (first | (have hu' := fun (b : Nat) h => ht' b (hu' b h)) | (have hu' := ht')); (first | (have hzc' := zc_b hzc' hb') | (have hzc' := zc_first hb') | (have hzc' := zc_first' hb') | skip); have hs' := hb'.size; (try simp at hs')) | (go_at_call 20; refine (HI.out _).mono ?_; rintro e w' ⟨rfl, hb'⟩; have hq' := bel_step (by assumption) hb'; obtain ⟨hc', hf'⟩ := bcell hb'; have ht' := fun (b : Nat) h => Nat.lt_of_lt_of_le (n := b) h hb'.size; (first | (have hu' := fun (b : Nat) h => ht' b (hu' b h)) | (have hu' := ht')); (first | (have hzc' := zc_b hzc' hb') | (have hzc' := zc_first hb') | (have hzc' := zc_first' hb') | skip); have hs' := hb'.size; (try simp at hs')))
            all_goals
              go_wp2_with fail
              go_meet
              case rel =>
                refine ⟨_, rfl, rfl, ?_, ?_⟩
                · (first | assumption | exact bel_of (by assumption))
                · (first | exact al_set | exact zc_set hzc' | exact zc_set (by assumption))
          case rest =>
            obtain ⟨b10, rfl, rfl, hq2, g3, g0, g1, g2⟩ := hcut
            have B3 : Below w.heap.size w wc := B2.trans ((hqA.trans (hq2.mono hqA.size)).mono B2.size)
            have e0 := (hq2.cell (p := ⟨b8, 0, none⟩) hs8).trans e0
            have e1 := (hq2.cell (p := ⟨b8, 1, none⟩) hs8).trans e1
            have e2 := (hq2.cell (p := ⟨b8, 2, none⟩) hs8).trans e2
            go_wp2_with fail
            refine (eqV_same kk nn ⟨#[]⟩ _).mono ?_
            rintro e w9 ⟨rfl, hb9⟩
            go_wp2_with fail
            go_ret
            exact ⟨rfl, B3.trans (hb9.mono B3.size)⟩
end Go.Proofs.Ytoilhbghjiffeaa
