/- Comparing: the program's walk. -/
import Derived.Test.YtoilhbghjiffeaaValH
import Derived.Test.YtoilhbghjiffeaaValR
namespace Go.Proofs.Ytoilhbghjiffeaa
open Go.RowKit

theorem cmpI_lt (x y : Int) : decide (cmpIV x y < 0) = decide (x < y) := by unfold cmpIV; (repeat' split) <;> simp <;> omega
theorem cmpI_le (x y : Int) : decide (cmpIV x y ≤ 0) = (decide (x < y) || x == y) := by unfold cmpIV; (repeat' split) <;> simp <;> omega
theorem cmpI_gt (x y : Int) : decide (0 < cmpIV x y) = (!decide (x < y) && !(x == y)) := by unfold cmpIV; (repeat' split) <;> simp <;> omega
theorem cmpI_ge (x y : Int) : decide (0 ≤ cmpIV x y) = (!decide (x < y)) := by unfold cmpIV; (repeat' split) <;> simp <;> omega
theorem less_irrefl (l : List UInt8) : Op.bytesLess l l = false := by
  induction l with
  | nil => rfl
  | cons a l ih => simp [Op.bytesLess, ih]
theorem cmpS_lt (x y : ByteArray) : decide (cmpSV x y < 0) = Op.bytesLess x.toList y.toList := by unfold cmpSV; (repeat' split) <;> simp_all
theorem cmpS_le (x y : ByteArray) : decide (cmpSV x y ≤ 0) = (Op.bytesLess x.toList y.toList || (x.toList == y.toList)) := by unfold cmpSV; (repeat' split) <;> simp_all
theorem cmpS_gt (x y : ByteArray) : decide (0 < cmpSV x y) = (!Op.bytesLess x.toList y.toList && !(x.toList == y.toList)) := by unfold cmpSV; (repeat' split) <;> simp_all
theorem cmpS_ge (x y : ByteArray) : decide (0 ≤ cmpSV x y) = (!Op.bytesLess x.toList y.toList) := by unfold cmpSV; (repeat' split) <;> simp_all
/-- What is told of two values by a sign that asks for their order. -/
theorem cm_rest (op : ByteArray) (ka x kb y : Int) (s t : ByteArray) (h1 : (op.toList == [61, 61]) = false) (h2 : (op.toList == [126, 61]) = false) :
    cmV op ka x s kb y t = if ((ordV ka x s kb y t).2 && (holdV op (ordV ka x s kb y t).1).2) = true then bvV (holdV op (ordV ka x s kb y t).1).1 else refV := by
  unfold cmV
  rw [if_neg (by simp [h1]), if_neg (by simp [h2])]
  by_cases a : ka = 2
  · subst a
    by_cases b : kb = 2
    · subst b
      simp only [ordV, if_true, cmR, holdV, true_and]
      (repeat' split) <;> simp_all [cmpI_lt, cmpI_le, cmpI_gt, cmpI_ge]
    · simp [ordV, b]
  · by_cases a' : ka = 3
    · subst a'
      by_cases b : kb = 3
      · subst b
        simp only [ordV, if_true, cmR, holdV, true_and]
        (repeat' split) <;> simp_all [cmpS_lt, cmpS_le, cmpS_gt, cmpS_ge]
      · simp [ordV, b]
    · simp [ordV, a, a']

set_option maxRecDepth 100000 in
set_option maxHeartbeats 1600000 in
theorem compare_eq (op : ByteArray) (ka x kb y : Int) (s t : ByteArray) (w : World) (h1 : (op.toList == [61, 61]) = true) :
    Calls Try.prog 20 #[.string op, .agg #[.int .i64 ka, .int .i64 x, .string s], .agg #[.int .i64 kb, .int .i64 y, .string t]] w fun e w' => e = .returned (cmV op ka x s kb y t) ∧ Below w.heap.size w w' := by
  go_enter Try.func20, Try.ntmps20
  go_wp2_with (go_at_call 36; refine (bool_impl _ _).mono ?_; rintro e w1 ⟨rfl, hb⟩; obtain ⟨hc, hf⟩ := bcell hb; have hz : w.heap.size + 1 + 1 < w1.heap.size := (by have := hb.size; simp at this; omega))
  all_goals
    first
    | (refine bodyPost_ret (v := .tuple #[.agg #[.int .i64 1, .int .i64 1, .string ⟨#[]⟩], .string ⟨#[]⟩]) ?_ rfl ⟨ret_val (Eq.symm ?_), ?_⟩; (simp [results, Try.results20, go_sem, *] <;> done); (simp_all [cmV, cmE, bvV] <;> done); (repeat (first | exact Below.refl _ _ | exact B1 | exact B2 | refine Below.drew ?_ | refine Below.setCell ?_ (by simp <;> omega) _ | refine Below.alloc ?_ (by simp <;> omega) _ | refine Below.trans ?_ (hb.mono (by simp <;> omega)))))
    | (refine bodyPost_ret (v := .tuple #[.agg #[.int .i64 1, .int .i64 0, .string ⟨#[]⟩], .string ⟨#[]⟩]) ?_ rfl ⟨ret_val (Eq.symm ?_), ?_⟩; (simp [results, Try.results20, go_sem, *] <;> done); (simp_all [cmV, cmE, bvV] <;> done); (repeat (first | exact Below.refl _ _ | exact B1 | exact B2 | refine Below.drew ?_ | refine Below.setCell ?_ (by simp <;> omega) _ | refine Below.alloc ?_ (by simp <;> omega) _ | refine Below.trans ?_ (hb.mono (by simp <;> omega)))))
    | (refine bodyPost_ret (v := .tuple #[.agg #[.int .i64 0, .int .i64 0, .string ⟨#[]⟩], .string ⟨#[99, 111, 109, 112, 97, 114, 101]⟩]) ?_ rfl ⟨ret_val (Eq.symm ?_), ?_⟩; (simp [results, Try.results20, go_sem, *] <;> done); (simp_all [cmV, refV] <;> done); (repeat (first | exact Below.refl _ _ | exact B1 | exact B2 | refine Below.drew ?_ | refine Below.setCell ?_ (by simp <;> omega) _ | refine Below.alloc ?_ (by simp <;> omega) _ | refine Below.trans ?_ (hb.mono (by simp <;> omega)))))
  
set_option maxRecDepth 100000 in
set_option maxHeartbeats 1600000 in
theorem compare_ne (op : ByteArray) (ka x kb y : Int) (s t : ByteArray) (w : World) (h1 : (op.toList == [61, 61]) = false) (h2 : (op.toList == [126, 61]) = true) :
    Calls Try.prog 20 #[.string op, .agg #[.int .i64 ka, .int .i64 x, .string s], .agg #[.int .i64 kb, .int .i64 y, .string t]] w fun e w' => e = .returned (cmV op ka x s kb y t) ∧ Below w.heap.size w w' := by
  go_enter Try.func20, Try.ntmps20
  go_wp2_with (go_at_call 36; refine (bool_impl _ _).mono ?_; rintro e w1 ⟨rfl, hb⟩; obtain ⟨hc, hf⟩ := bcell hb; have hz : w.heap.size + 1 + 1 < w1.heap.size := (by have := hb.size; simp at this; omega))
  all_goals
    first
    | (refine bodyPost_ret (v := .tuple #[.agg #[.int .i64 1, .int .i64 1, .string ⟨#[]⟩], .string ⟨#[]⟩]) ?_ rfl ⟨ret_val (Eq.symm ?_), ?_⟩; (simp [results, Try.results20, go_sem, *] <;> done); (simp_all [cmV, cmE, bvV] <;> done); (repeat (first | exact Below.refl _ _ | exact B1 | exact B2 | refine Below.drew ?_ | refine Below.setCell ?_ (by simp <;> omega) _ | refine Below.alloc ?_ (by simp <;> omega) _ | refine Below.trans ?_ (hb.mono (by simp <;> omega)))))
    | (refine bodyPost_ret (v := .tuple #[.agg #[.int .i64 1, .int .i64 0, .string ⟨#[]⟩], .string ⟨#[]⟩]) ?_ rfl ⟨ret_val (Eq.symm ?_), ?_⟩; (simp [results, Try.results20, go_sem, *] <;> done); (simp_all [cmV, cmE, bvV] <;> done); (repeat (first | exact Below.refl _ _ | exact B1 | exact B2 | refine Below.drew ?_ | refine Below.setCell ?_ (by simp <;> omega) _ | refine Below.alloc ?_ (by simp <;> omega) _ | refine Below.trans ?_ (hb.mono (by simp <;> omega)))))
    | (refine bodyPost_ret (v := .tuple #[.agg #[.int .i64 0, .int .i64 0, .string ⟨#[]⟩], .string ⟨#[99, 111, 109, 112, 97, 114, 101]⟩]) ?_ rfl ⟨ret_val (Eq.symm ?_), ?_⟩; (simp [results, Try.results20, go_sem, *] <;> done); (simp_all [cmV, refV] <;> done); (repeat (first | exact Below.refl _ _ | exact B1 | exact B2 | refine Below.drew ?_ | refine Below.setCell ?_ (by simp <;> omega) _ | refine Below.alloc ?_ (by simp <;> omega) _ | refine Below.trans ?_ (hb.mono (by simp <;> omega)))))
  
set_option maxRecDepth 100000 in
set_option maxHeartbeats 1600000 in
theorem compare_ord (op : ByteArray) (ka x kb y : Int) (s t : ByteArray) (w : World) (h1 : (op.toList == [61, 61]) = false) (h2 : (op.toList == [126, 61]) = false) :
    Calls Try.prog 20 #[.string op, .agg #[.int .i64 ka, .int .i64 x, .string s], .agg #[.int .i64 kb, .int .i64 y, .string t]] w fun e w' => e = .returned (cmV op ka x s kb y t) ∧ Below w.heap.size w w' := by
  go_enter Try.func20, Try.ntmps20
  go_wp2_with fail
  obtain ⟨W0, hW0⟩ : ∃ W0, W0 = ((w.alloc (Obj.cells #[Value.int IntKind.i64 ka, Value.int IntKind.i64 x, Value.string s] 26)).alloc (Obj.cells #[Value.int IntKind.i64 kb, Value.int IntKind.i64 y, Value.string t] 26)).alloc (Obj.cells #[Value.int IntKind.i64 0, Value.int IntKind.i64 0, Value.string ⟨#[]⟩] 26) := ⟨_, rfl⟩
  obtain ⟨hrA, hrB, hrC, hs0, hB0⟩ := rows3 w (Obj.cells #[Value.int IntKind.i64 ka, Value.int IntKind.i64 x, Value.string s] 26) (Obj.cells #[Value.int IntKind.i64 kb, Value.int IntKind.i64 y, Value.string t] 26) (Obj.cells #[Value.int IntKind.i64 0, Value.int IntKind.i64 0, Value.string ⟨#[]⟩] 26)
  rw [← hW0] at hrA hrB hrC hs0 hB0
  have hr : W0.frozen? ⟨w.heap.size + 1 + 1, 0, none⟩ = false ∧ W0.frozen? ⟨w.heap.size + 1 + 1, 1, none⟩ = false ∧ W0.frozen? ⟨w.heap.size + 1 + 1, 2, none⟩ = false ∧ W0.cell? ⟨w.heap.size + 1 + 1, 0, none⟩ = some (.int .i64 0) ∧ W0.cell? ⟨w.heap.size + 1 + 1, 1, none⟩ = some (.int .i64 0) ∧ W0.cell? ⟨w.heap.size + 1 + 1, 2, none⟩ = some (.string ⟨#[]⟩) := ⟨frozen_of_row _ _ _ _ _ hrC, frozen_of_row _ _ _ _ _ hrC, frozen_of_row _ _ _ _ _ hrC, cell_of_row _ _ _ _ _ _ hrC, cell_of_row _ _ _ _ _ _ hrC, cell_of_row _ _ _ _ _ _ hrC⟩
  have q0 : W0.cell? ⟨w.heap.size, 0, none⟩ = some (.int .i64 ka) := cell_of_row _ _ _ _ _ _ hrA
  have q1 : W0.cell? ⟨w.heap.size, 1, none⟩ = some (.int .i64 x) := cell_of_row _ _ _ _ _ _ hrA
  have q2 : W0.cell? ⟨w.heap.size, 2, none⟩ = some (.string s) := cell_of_row _ _ _ _ _ _ hrA
  have q3 : W0.cell? ⟨w.heap.size + 1, 0, none⟩ = some (.int .i64 kb) := cell_of_row _ _ _ _ _ _ hrB
  have q4 : W0.cell? ⟨w.heap.size + 1, 1, none⟩ = some (.int .i64 y) := cell_of_row _ _ _ _ _ _ hrB
  have q5 : W0.cell? ⟨w.heap.size + 1, 2, none⟩ = some (.string t) := cell_of_row _ _ _ _ _ _ hrB
  have KEEP : Hid (∀ W' : World, Below W0.heap.size W0 W' → (fun w' => Below W0.heap.size W0 w' ∧ w'.cell? ⟨w.heap.size, 0, none⟩ = some (.int .i64 ka) ∧ w'.cell? ⟨w.heap.size, 1, none⟩ = some (.int .i64 x) ∧ w'.cell? ⟨w.heap.size, 2, none⟩ = some (.string s) ∧ w'.cell? ⟨w.heap.size + 1, 0, none⟩ = some (.int .i64 kb) ∧ w'.cell? ⟨w.heap.size + 1, 1, none⟩ = some (.int .i64 y) ∧ w'.cell? ⟨w.heap.size + 1, 2, none⟩ = some (.string t)) W') := fun W' hB => ⟨hB, (hB.cell (p := ⟨w.heap.size, 0, none⟩) (by rw [hs0]; show w.heap.size < _; omega)).trans q0, (hB.cell (p := ⟨w.heap.size, 1, none⟩) (by rw [hs0]; show w.heap.size < _; omega)).trans q1, (hB.cell (p := ⟨w.heap.size, 2, none⟩) (by rw [hs0]; show w.heap.size < _; omega)).trans q2, (hB.cell (p := ⟨w.heap.size + 1, 0, none⟩) (by rw [hs0]; show w.heap.size + 1 < _; omega)).trans q3, (hB.cell (p := ⟨w.heap.size + 1, 1, none⟩) (by rw [hs0]; show w.heap.size + 1 < _; omega)).trans q4, (hB.cell (p := ⟨w.heap.size + 1, 2, none⟩) (by rw [hs0]; show w.heap.size + 1 < _; omega)).trans q5⟩
  have hq0 : Below W0.heap.size W0 W0.drew := (Below.refl _ _).drew
  clear q0 q1 q2 q3 q4 q5
  rw [← hW0]
  clear hW0
  obtain ⟨o, k, hO⟩ : ∃ o k, ordV ka x s kb y t = (o, k) := ⟨_, _, rfl⟩
  obtain ⟨b, kn, hH⟩ : ∃ b kn, holdV op o = (b, kn) := ⟨_, _, rfl⟩
  have HO : Hid (∀ W, Calls Try.prog 37 #[datV ka x s, datV kb y t] W fun e w' => e = .returned (.tuple #[.int .i64 o, .bool k]) ∧ W = w') := fun W => by have := order_any ka x kb y s t W; rw [hO] at this; exact this
  have HH : Hid (∀ W, Calls Try.prog 38 #[.string op, .int .i64 o] W fun e w' => e = .returned (.tuple #[.bool b, .bool kn]) ∧ W = w') := fun W => by have := holds_any op o W; rw [hH] at this; exact this
  have HV : Hid (cmV op ka x s kb y t = if (k && kn) = true then bvV b else refV) := by have := cm_rest op ka x kb y s t h1 h2; rw [hO] at this; simp only [hH] at this; exact this
  clear hO hH
  go_region_held3 (fun w' => Below W0.heap.size W0 w' ∧ w'.cell? ⟨w.heap.size, 0, none⟩ = some (.int .i64 ka) ∧ w'.cell? ⟨w.heap.size, 1, none⟩ = some (.int .i64 x) ∧ w'.cell? ⟨w.heap.size, 2, none⟩ = some (.string s) ∧ w'.cell? ⟨w.heap.size + 1, 0, none⟩ = some (.int .i64 kb) ∧ w'.cell? ⟨w.heap.size + 1, 1, none⟩ = some (.int .i64 y) ∧ w'.cell? ⟨w.heap.size + 1, 2, none⟩ = some (.string t)) (first | assumption | exact KEEP.out _ (by assumption) | exact KEEP.out _ (bel_al (by assumption) _) | exact KEEP.out _ (bel_s3 (by assumption) (by first | exact bel_sz (by assumption) | omega)) | exact KEEP.out _ (by repeat (first | assumption | exact bel_dr (by assumption) | refine Below.setCell ?_ (by omega) _ | refine Below.alloc ?_ (by omega) _))) (first | (go_at_call 37; refine (HO.out _).mono ?_; rintro e w' ⟨rfl, rfl⟩) | (go_at_call 28; refine (datum_any _ _ _ _).mono ?_; rintro e w' ⟨rfl, hb'⟩; have hq' := bel_step (by assumption) hb'; obtain ⟨hc', hf'⟩ := bcell hb'; have ht' := fun (b : Nat) h => Nat.lt_of_lt_of_le (n := b) h hb'.size; (first | (have hu' := fun (b : Nat) h => ht' b (hu' b h)) | (have hu' := ht')); (first | (have hzc' := zc_b hzc' hb') | (have hzc' := zc_first hb') | (have hzc' := zc_first' hb') | skip); have hs' := hb'.size; (try simp at hs')))
  rename_i wq
  obtain ⟨hr0, hr1, hr2, hr3, hr4, hr5⟩ := hr
  have hq0' := hq'
  have hz : w.heap.size + 1 + 1 < w'.heap.size := by have := hq'.size; omega
  obtain ⟨hcq, hfq⟩ := bcell hq'
  have hsz0 : w.heap.size + 1 + 1 < W0.heap.size := by omega
  have HQ : Below w.heap.size w w' := hB0.trans (hq'.mono hB0.size)
  clear hc' hf' ht' hu' hs' wq hb' hq0' hq0 KEEP
  cases k <;> cases kn
  all_goals
    go_wp2_with (first | (go_at_call 38; refine (HH.out _).mono ?_; rintro e w1 ⟨rfl, rfl⟩) | (go_at_call 36; refine (bool_impl _ _).mono ?_; rintro e w1 ⟨rfl, hb⟩; obtain ⟨hc, hf⟩ := bcell hb; have hz1 : w.heap.size + 1 + 1 < w1.heap.size := (by have := hb.size; (try simp at this); omega)))
    all_goals first
    | (refine bodyPost_ret (v := refV) ?_ rfl ⟨ret_val ?_, ?_⟩; (simp [refV, results, Try.results20, go_sem, *] <;> done); (rw [HV.out]; rfl); (repeat (first | exact HQ | refine Below.drew ?_ | refine Below.setCell ?_ (by simp <;> omega) _ | refine Below.alloc ?_ (by simp <;> omega) _ | refine Below.trans ?_ (hb.mono (by omega)))))
    | (refine bodyPost_ret (v := bvV b) ?_ rfl ⟨ret_val ?_, ?_⟩; (simp [bvV, results, Try.results20, go_sem, *] <;> done); (rw [HV.out]; rfl); (repeat (first | exact HQ | refine Below.drew ?_ | refine Below.setCell ?_ (by simp <;> omega) _ | refine Below.alloc ?_ (by simp <;> omega) _ | refine Below.trans ?_ (hb.mono (by omega)))))

set_option maxRecDepth 100000 in
theorem compare_impl (op : ByteArray) (ka x kb y : Int) (s t : ByteArray) (w : World) :
    Calls Try.prog 20 #[.string op, .agg #[.int .i64 ka, .int .i64 x, .string s], .agg #[.int .i64 kb, .int .i64 y, .string t]] w fun e w' => e = .returned (cmV op ka x s kb y t) ∧ Below w.heap.size w w' := by
  by_cases h1 : (op.toList == [61, 61]) = true
  · exact compare_eq op ka x kb y s t w h1
  · by_cases h2 : (op.toList == [126, 61]) = true
    · exact compare_ne op ka x kb y s t w (by simpa using h1) h2
    · exact compare_ord op ka x kb y s t w (by simpa using h1) (by simpa using h2)
end Go.Proofs.Ytoilhbghjiffeaa
