/- Comparing: the specification's walk. -/
import Derived.Test.YtoilhbghjiffeaaValF
namespace Go.Proofs.Ytoilhbghjiffeaa
open Go.RowKit

set_option maxRecDepth 100000 in
set_option maxHeartbeats 3200000 in
theorem compare_spec (op : ByteArray) (ka x kb y : Int) (s t : ByteArray) (w : World) :
    Calls Try.prog 19 #[.string op, .agg #[.int .i64 ka, .int .i64 x, .string s], .agg #[.int .i64 kb, .int .i64 y, .string t]] w fun e w' => e = .returned (cmV op ka x s kb y t) ∧ Below w.heap.size w w' := by
  go_enter Try.func19, Try.ntmps19
  go_wp2_with (go_at_call 35; refine (bool_spec _ _).mono ?_; rintro e w1 ⟨rfl, hb⟩; obtain ⟨hc, hf⟩ := bcell hb; have hz : w.heap.size + 1 + 1 < w1.heap.size := (by have := hb.size; simp at this; omega))
  all_goals
    first
    | (refine bodyPost_ret (v := .tuple #[.agg #[.int .i64 1, .int .i64 1, .string ⟨#[]⟩], .string ⟨#[]⟩]) ?_ rfl ⟨ret_val (Eq.symm ?_), ?_⟩; (simp [results, Try.results19, go_sem, *] <;> done); (simp_all [cmV, cmE, bvV] <;> done); (repeat (first | exact Below.refl _ _ | exact B1 | exact B2 | refine Below.drew ?_ | refine Below.setCell ?_ (by simp <;> omega) _ | refine Below.alloc ?_ (by simp <;> omega) _ | refine Below.trans ?_ (hb.mono (by simp <;> omega)))))
    | (refine bodyPost_ret (v := .tuple #[.agg #[.int .i64 1, .int .i64 0, .string ⟨#[]⟩], .string ⟨#[]⟩]) ?_ rfl ⟨ret_val (Eq.symm ?_), ?_⟩; (simp [results, Try.results19, go_sem, *] <;> done); (simp_all [cmV, cmE, bvV] <;> done); (repeat (first | exact Below.refl _ _ | exact B1 | exact B2 | refine Below.drew ?_ | refine Below.setCell ?_ (by simp <;> omega) _ | refine Below.alloc ?_ (by simp <;> omega) _ | refine Below.trans ?_ (hb.mono (by simp <;> omega)))))
    | (refine bodyPost_ret (v := .tuple #[.agg #[.int .i64 0, .int .i64 0, .string ⟨#[]⟩], .string ⟨#[99, 111, 109, 112, 97, 114, 101]⟩]) ?_ rfl ⟨ret_val (Eq.symm ?_), ?_⟩; (simp [results, Try.results19, go_sem, *] <;> done); (simp_all [cmV, refV] <;> done); (repeat (first | exact Below.refl _ _ | exact B1 | exact B2 | refine Below.drew ?_ | refine Below.setCell ?_ (by simp <;> omega) _ | refine Below.alloc ?_ (by simp <;> omega) _ | refine Below.trans ?_ (hb.mono (by simp <;> omega)))))
    | skip
  · rcases Int.lt_trichotomy x y with hl | hl | hl
    · have h1 : decide (x < y) = true := by simpa using hl
      have h2 : (x == y) = false := by simp; omega
      go_region
      go_wp2_with (go_at_call 35; refine (bool_spec _ _).mono ?_; rintro e w1 ⟨rfl, hb⟩; obtain ⟨hc, hf⟩ := bcell hb; have hz : w.heap.size + 1 + 1 < w1.heap.size := (by have := hb.size; simp at this; omega))
      all_goals
        first
        | (refine bodyPost_ret (v := .tuple #[.agg #[.int .i64 1, .int .i64 1, .string ⟨#[]⟩], .string ⟨#[]⟩]) ?_ rfl ⟨ret_val (Eq.symm ?_), ?_⟩; (simp [results, Try.results19, go_sem, *] <;> done); (simp_all [cmV, cmR, bvV] <;> done); (repeat (first | exact Below.refl _ _ | exact B1 | exact B2 | refine Below.drew ?_ | refine Below.setCell ?_ (by simp <;> omega) _ | refine Below.alloc ?_ (by simp <;> omega) _ | refine Below.trans ?_ (hb.mono (by simp <;> omega)))))
        | (refine bodyPost_ret (v := .tuple #[.agg #[.int .i64 1, .int .i64 0, .string ⟨#[]⟩], .string ⟨#[]⟩]) ?_ rfl ⟨ret_val (Eq.symm ?_), ?_⟩; (simp [results, Try.results19, go_sem, *] <;> done); (simp_all [cmV, cmR, bvV] <;> done); (repeat (first | exact Below.refl _ _ | exact B1 | exact B2 | refine Below.drew ?_ | refine Below.setCell ?_ (by simp <;> omega) _ | refine Below.alloc ?_ (by simp <;> omega) _ | refine Below.trans ?_ (hb.mono (by simp <;> omega)))))
        | (refine bodyPost_ret (v := .tuple #[.agg #[.int .i64 0, .int .i64 0, .string ⟨#[]⟩], .string ⟨#[99, 111, 109, 112, 97, 114, 101]⟩]) ?_ rfl ⟨ret_val (Eq.symm ?_), ?_⟩; (simp [results, Try.results19, go_sem, *] <;> done); (simp_all [cmV, cmR, refV] <;> done); (repeat (first | exact Below.refl _ _ | exact B1 | exact B2 | refine Below.drew ?_ | refine Below.setCell ?_ (by simp <;> omega) _ | refine Below.alloc ?_ (by simp <;> omega) _ | refine Below.trans ?_ (hb.mono (by simp <;> omega)))))
    · subst hl
      have h1 : decide (x < x) = false := by simp
      have h2 : (x == x) = true := by simp
      go_region
      go_wp2_with (go_at_call 35; refine (bool_spec _ _).mono ?_; rintro e w1 ⟨rfl, hb⟩; obtain ⟨hc, hf⟩ := bcell hb; have hz : w.heap.size + 1 + 1 < w1.heap.size := (by have := hb.size; simp at this; omega))
      all_goals
        first
        | (refine bodyPost_ret (v := .tuple #[.agg #[.int .i64 1, .int .i64 1, .string ⟨#[]⟩], .string ⟨#[]⟩]) ?_ rfl ⟨ret_val (Eq.symm ?_), ?_⟩; (simp [results, Try.results19, go_sem, *] <;> done); (simp_all [cmV, cmR, bvV] <;> done); (repeat (first | exact Below.refl _ _ | exact B1 | exact B2 | refine Below.drew ?_ | refine Below.setCell ?_ (by simp <;> omega) _ | refine Below.alloc ?_ (by simp <;> omega) _ | refine Below.trans ?_ (hb.mono (by simp <;> omega)))))
        | (refine bodyPost_ret (v := .tuple #[.agg #[.int .i64 1, .int .i64 0, .string ⟨#[]⟩], .string ⟨#[]⟩]) ?_ rfl ⟨ret_val (Eq.symm ?_), ?_⟩; (simp [results, Try.results19, go_sem, *] <;> done); (simp_all [cmV, cmR, bvV] <;> done); (repeat (first | exact Below.refl _ _ | exact B1 | exact B2 | refine Below.drew ?_ | refine Below.setCell ?_ (by simp <;> omega) _ | refine Below.alloc ?_ (by simp <;> omega) _ | refine Below.trans ?_ (hb.mono (by simp <;> omega)))))
        | (refine bodyPost_ret (v := .tuple #[.agg #[.int .i64 0, .int .i64 0, .string ⟨#[]⟩], .string ⟨#[99, 111, 109, 112, 97, 114, 101]⟩]) ?_ rfl ⟨ret_val (Eq.symm ?_), ?_⟩; (simp [results, Try.results19, go_sem, *] <;> done); (simp_all [cmV, cmR, refV] <;> done); (repeat (first | exact Below.refl _ _ | exact B1 | exact B2 | refine Below.drew ?_ | refine Below.setCell ?_ (by simp <;> omega) _ | refine Below.alloc ?_ (by simp <;> omega) _ | refine Below.trans ?_ (hb.mono (by simp <;> omega)))))
    · have h1 : decide (x < y) = false := by simp; omega
      have h2 : (x == y) = false := by simp; omega
      have h3 : ¬ x < y := by omega
      go_region
      go_wp2_with (go_at_call 35; refine (bool_spec _ _).mono ?_; rintro e w1 ⟨rfl, hb⟩; obtain ⟨hc, hf⟩ := bcell hb; have hz : w.heap.size + 1 + 1 < w1.heap.size := (by have := hb.size; simp at this; omega))
      all_goals
        first
        | (refine bodyPost_ret (v := .tuple #[.agg #[.int .i64 1, .int .i64 1, .string ⟨#[]⟩], .string ⟨#[]⟩]) ?_ rfl ⟨ret_val (Eq.symm ?_), ?_⟩; (simp [results, Try.results19, go_sem, *] <;> done); (simp_all [cmV, cmR, bvV] <;> done); (repeat (first | exact Below.refl _ _ | exact B1 | exact B2 | refine Below.drew ?_ | refine Below.setCell ?_ (by simp <;> omega) _ | refine Below.alloc ?_ (by simp <;> omega) _ | refine Below.trans ?_ (hb.mono (by simp <;> omega)))))
        | (refine bodyPost_ret (v := .tuple #[.agg #[.int .i64 1, .int .i64 0, .string ⟨#[]⟩], .string ⟨#[]⟩]) ?_ rfl ⟨ret_val (Eq.symm ?_), ?_⟩; (simp [results, Try.results19, go_sem, *] <;> done); (simp_all [cmV, cmR, bvV] <;> done); (repeat (first | exact Below.refl _ _ | exact B1 | exact B2 | refine Below.drew ?_ | refine Below.setCell ?_ (by simp <;> omega) _ | refine Below.alloc ?_ (by simp <;> omega) _ | refine Below.trans ?_ (hb.mono (by simp <;> omega)))))
        | (refine bodyPost_ret (v := .tuple #[.agg #[.int .i64 0, .int .i64 0, .string ⟨#[]⟩], .string ⟨#[99, 111, 109, 112, 97, 114, 101]⟩]) ?_ rfl ⟨ret_val (Eq.symm ?_), ?_⟩; (simp [results, Try.results19, go_sem, *] <;> done); (simp_all [cmV, cmR, refV] <;> done); (repeat (first | exact Below.refl _ _ | exact B1 | exact B2 | refine Below.drew ?_ | refine Below.setCell ?_ (by simp <;> omega) _ | refine Below.alloc ?_ (by simp <;> omega) _ | refine Below.trans ?_ (hb.mono (by simp <;> omega)))))
  · obtain ⟨l, hl⟩ : ∃ l, Op.bytesLess s.toList t.toList = l := ⟨_, rfl⟩
    obtain ⟨q, hq⟩ : ∃ q, (s.toList == t.toList) = q := ⟨_, rfl⟩
    cases l <;> cases q
    all_goals
      go_region
      go_wp2_with (go_at_call 35; refine (bool_spec _ _).mono ?_; rintro e w1 ⟨rfl, hb⟩; obtain ⟨hc, hf⟩ := bcell hb; have hz : w.heap.size + 1 + 1 < w1.heap.size := (by have := hb.size; simp at this; omega))
      all_goals
        first
        | (refine bodyPost_ret (v := .tuple #[.agg #[.int .i64 1, .int .i64 1, .string ⟨#[]⟩], .string ⟨#[]⟩]) ?_ rfl ⟨ret_val (Eq.symm ?_), ?_⟩; (simp [results, Try.results19, go_sem, *] <;> done); (simp_all [cmV, cmR, bvV] <;> done); (repeat (first | exact Below.refl _ _ | exact B1 | exact B2 | refine Below.drew ?_ | refine Below.setCell ?_ (by simp <;> omega) _ | refine Below.alloc ?_ (by simp <;> omega) _ | refine Below.trans ?_ (hb.mono (by simp <;> omega)))))
        | (refine bodyPost_ret (v := .tuple #[.agg #[.int .i64 1, .int .i64 0, .string ⟨#[]⟩], .string ⟨#[]⟩]) ?_ rfl ⟨ret_val (Eq.symm ?_), ?_⟩; (simp [results, Try.results19, go_sem, *] <;> done); (simp_all [cmV, cmR, bvV] <;> done); (repeat (first | exact Below.refl _ _ | exact B1 | exact B2 | refine Below.drew ?_ | refine Below.setCell ?_ (by simp <;> omega) _ | refine Below.alloc ?_ (by simp <;> omega) _ | refine Below.trans ?_ (hb.mono (by simp <;> omega)))))
        | (refine bodyPost_ret (v := .tuple #[.agg #[.int .i64 0, .int .i64 0, .string ⟨#[]⟩], .string ⟨#[99, 111, 109, 112, 97, 114, 101]⟩]) ?_ rfl ⟨ret_val (Eq.symm ?_), ?_⟩; (simp [results, Try.results19, go_sem, *] <;> done); (simp_all [cmV, cmR, refV] <;> done); (repeat (first | exact Below.refl _ _ | exact B1 | exact B2 | refine Below.drew ?_ | refine Below.setCell ?_ (by simp <;> omega) _ | refine Below.alloc ?_ (by simp <;> omega) _ | refine Below.trans ?_ (hb.mono (by simp <;> omega)))))
end Go.Proofs.Ytoilhbghjiffeaa
