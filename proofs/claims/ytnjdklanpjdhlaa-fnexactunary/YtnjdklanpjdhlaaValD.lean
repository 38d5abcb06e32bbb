/- Arith: the specification's walk. -/
import Derived.Test.YtnjdklanpjdhlaaValC
namespace Go.Proofs.Ytnjdklanpjdhlaa
open Go.RowKit

set_option maxRecDepth 100000 in
set_option maxHeartbeats 1600000 in
theorem arith_spec (op : ByteArray) (ka x kb y : Int) (s t : ByteArray) (w : World) :
    Calls Try.prog 39 #[.string op, .agg #[.int .i64 ka, .int .i64 x, .string s], .agg #[.int .i64 kb, .int .i64 y, .string t]] w fun e w' => e = .returned (arV op ka x kb y) ∧ Below w.heap.size w w' := by
  have z0 : wrap64 0 = 0 := IntWalk.wrap64_in 0 ⟨by decide, by decide⟩
  by_cases hy : y = 0
  · subst hy
    go_enter Try.func39, Try.ntmps39
    go_wp2_with (go_at_call 40; refine (int_spec _ _).mono ?_; rintro e w1 ⟨rfl, hb⟩; obtain ⟨hc, hf⟩ := bcell hb; have hz : w.heap.size + 1 + 1 < w1.heap.size := (by have := hb.size; simp at this; omega); unfold numB)
    all_goals
      first
      | (refine bodyPost_ret (v := .tuple #[nilB, .string ⟨#[97, 114, 105, 116, 104]⟩]) ?_ rfl ⟨ret_val (Eq.symm ?_), ?_⟩; (simp [nilB, results, Try.results39, go_sem, *] <;> done); (apply arV_no; (simp_all <;> done)); (repeat (first | exact Below.refl _ _ | refine Below.setCell ?_ (by simp <;> omega) _ | refine Below.alloc ?_ (by simp <;> omega) _ | refine Below.trans ?_ (hb.mono (by simp <;> omega)))))
      | (refine bodyPost_ret (v := .tuple #[nilB, .string ⟨#[97, 114, 105, 116, 104]⟩]) ?_ rfl ⟨ret_val (Eq.symm ?_), ?_⟩; (simp [nilB, results, Try.results39, go_sem, *] <;> done); (refine arV_ref ?_ ?_ (by decide); (simp_all <;> done); (simp_all [arR, wArith] <;> done)); (repeat (first | exact Below.refl _ _ | refine Below.setCell ?_ (by simp <;> omega) _ | refine Below.alloc ?_ (by simp <;> omega) _ | refine Below.trans ?_ (hb.mono (by simp <;> omega)))))
      | (refine bodyPost_ret (v := .tuple #[nilB, .string ⟨#[100, 105, 118, 105, 100, 101]⟩]) ?_ rfl ⟨ret_val (Eq.symm ?_), ?_⟩; (simp [nilB, results, Try.results39, go_sem, *] <;> done); (refine arV_ref ?_ ?_ (by decide); (simp_all <;> done); (simp_all [arR, wDivide] <;> done)); (repeat (first | exact Below.refl _ _ | refine Below.setCell ?_ (by simp <;> omega) _ | refine Below.alloc ?_ (by simp <;> omega) _ | refine Below.trans ?_ (hb.mono (by simp <;> omega)))))
      | (refine bodyPost_ret (v := .tuple #[numB (wrap64 x), .string ⟨#[]⟩]) ?_ rfl ⟨ret_val (Eq.symm ?_), ?_⟩; (simp [numB, results, Try.results39, go_sem, *] <;> done); (refine arV_num ?_ ?_; (simp_all <;> done); (simp_all [arR] <;> done)); (repeat (first | exact Below.refl _ _ | refine Below.setCell ?_ (by simp <;> omega) _ | refine Below.alloc ?_ (by simp <;> omega) _ | refine Below.trans ?_ (hb.mono (by simp <;> omega)))))
      | (refine bodyPost_ret (v := .tuple #[numB 0, .string ⟨#[]⟩]) ?_ rfl ⟨ret_val (Eq.symm ?_), ?_⟩; (simp [numB, results, Try.results39, go_sem, *] <;> done); (refine arV_num ?_ ?_; (simp_all <;> done); (simp_all [arR] <;> done)); (repeat (first | exact Below.refl _ _ | refine Below.setCell ?_ (by simp <;> omega) _ | refine Below.alloc ?_ (by simp <;> omega) _ | refine Below.trans ?_ (hb.mono (by simp <;> omega)))))
  · go_enter Try.func39, Try.ntmps39
    go_wp2_with (first | (go_at_call 40; refine (int_spec _ _).mono ?_; rintro e w1 ⟨rfl, hb⟩; obtain ⟨hc, hf⟩ := bcell hb; have hz : w.heap.size + 1 + 1 < w1.heap.size := (by have := hb.size; simp at this; omega); unfold numB) | (go_at_call 74; refine (quot_spec _ _ _ hy).mono ?_; rintro e w' ⟨rfl, rfl⟩))
    all_goals
      first
      | (refine bodyPost_ret (v := .tuple #[nilB, .string ⟨#[97, 114, 105, 116, 104]⟩]) ?_ rfl ⟨ret_val (Eq.symm ?_), ?_⟩; (simp [nilB, results, Try.results39, go_sem, *] <;> done); (apply arV_no; (simp_all <;> done)); (repeat (first | exact Below.refl _ _ | refine Below.setCell ?_ (by simp <;> omega) _ | refine Below.alloc ?_ (by simp <;> omega) _ | refine Below.trans ?_ (hb.mono (by simp <;> omega)))))
      | (refine bodyPost_ret (v := .tuple #[nilB, .string ⟨#[97, 114, 105, 116, 104]⟩]) ?_ rfl ⟨ret_val (Eq.symm ?_), ?_⟩; (simp [nilB, results, Try.results39, go_sem, *] <;> done); (refine arV_ref ?_ ?_ (by decide); (simp_all <;> done); (simp_all [arR, wArith] <;> done)); (repeat (first | exact Below.refl _ _ | refine Below.setCell ?_ (by simp <;> omega) _ | refine Below.alloc ?_ (by simp <;> omega) _ | refine Below.trans ?_ (hb.mono (by simp <;> omega)))))
      | (refine bodyPost_ret (v := .tuple #[numB (wrap64 (x + y)), .string ⟨#[]⟩]) ?_ rfl ⟨ret_val (Eq.symm ?_), ?_⟩; (simp [numB, results, Try.results39, go_sem, *] <;> done); (refine arV_num ?_ ?_; (simp_all <;> done); (simp_all [arR] <;> done)); (repeat (first | exact Below.refl _ _ | refine Below.setCell ?_ (by simp <;> omega) _ | refine Below.alloc ?_ (by simp <;> omega) _ | refine Below.trans ?_ (hb.mono (by simp <;> omega)))))
      | (refine bodyPost_ret (v := .tuple #[numB (wrap64 (x - y)), .string ⟨#[]⟩]) ?_ rfl ⟨ret_val (Eq.symm ?_), ?_⟩; (simp [numB, results, Try.results39, go_sem, *] <;> done); (refine arV_num ?_ ?_; (simp_all <;> done); (simp_all [arR] <;> done)); (repeat (first | exact Below.refl _ _ | refine Below.setCell ?_ (by simp <;> omega) _ | refine Below.alloc ?_ (by simp <;> omega) _ | refine Below.trans ?_ (hb.mono (by simp <;> omega)))))
      | (refine bodyPost_ret (v := .tuple #[numB (wrap64 (x * y)), .string ⟨#[]⟩]) ?_ rfl ⟨ret_val (Eq.symm ?_), ?_⟩; (simp [numB, results, Try.results39, go_sem, *] <;> done); (refine arV_num ?_ ?_; (simp_all <;> done); (simp_all [arR] <;> done)); (repeat (first | exact Below.refl _ _ | refine Below.setCell ?_ (by simp <;> omega) _ | refine Below.alloc ?_ (by simp <;> omega) _ | refine Below.trans ?_ (hb.mono (by simp <;> omega)))))
      | (refine bodyPost_ret (v := .tuple #[numB (divD x y), .string ⟨#[]⟩]) ?_ rfl ⟨ret_val (Eq.symm ?_), ?_⟩; (simp [numB, results, Try.results39, go_sem, *] <;> done); (refine arV_num ?_ ?_; (simp_all <;> done); (simp_all [arR] <;> done)); (repeat (first | exact Below.refl _ _ | refine Below.setCell ?_ (by simp <;> omega) _ | refine Below.alloc ?_ (by simp <;> omega) _ | refine Below.trans ?_ (hb.mono (by simp <;> omega)))))
      | (refine bodyPost_ret (v := .tuple #[numB (wrap64 (x - wrap64 (y * divD x y))), .string ⟨#[]⟩]) ?_ rfl ⟨ret_val (Eq.symm ?_), ?_⟩; (simp [numB, results, Try.results39, go_sem, *] <;> done); (refine arV_num ?_ ?_; (simp_all <;> done); (simp_all [arR] <;> done)); (repeat (first | exact Below.refl _ _ | refine Below.setCell ?_ (by simp <;> omega) _ | refine Below.alloc ?_ (by simp <;> omega) _ | refine Below.trans ?_ (hb.mono (by simp <;> omega)))))
end Go.Proofs.Ytnjdklanpjdhlaa
