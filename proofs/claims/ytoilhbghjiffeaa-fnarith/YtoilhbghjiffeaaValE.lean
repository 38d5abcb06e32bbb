/- Arith: the program's walk. -/
import Derived.Test.YtoilhbghjiffeaaValC
namespace Go.Proofs.Ytoilhbghjiffeaa
open Go.RowKit

set_option maxRecDepth 100000 in
set_option maxHeartbeats 1600000 in
theorem arith_c (op : ByteArray) (ka x kb y : Int) (s t : ByteArray) (w : World) (h1 : ¬ ka = 2) :
    Calls Try.prog 17 #[.string op, .agg #[.int .i64 ka, .int .i64 x, .string s], .agg #[.int .i64 kb, .int .i64 y, .string t]] w fun e w' => e = .returned (arV op ka x kb y) ∧ Below w.heap.size w w' := by
  have h1e : (ka == 2) = false := by simpa using h1
  have a1 := fun w => as_int ka x s w
  have a2 := fun w => as_int kb y t w
  simp only [h1, h1e, if_false] at a1 a2
  go_enter Try.func17, Try.ntmps17
  go_wp2_with fail
  refine (datum_any ka x s _).mono ?_
  rintro e w1 ⟨rfl, hb1⟩
  obtain ⟨hc1, hf1⟩ := bcell hb1
  have hz1 : w.heap.size + 1 + 1 < w1.heap.size := by have := hb1.size; simp at this; omega
  have B1 : Below w.heap.size w w1 := Below.trans (by repeat (first | exact Below.refl _ _ | refine Below.alloc ?_ (by simp <;> omega) _)) (hb1.mono (by simp <;> omega))
  go_wp2_with fail
  refine (datum_any kb y t _).mono ?_
  rintro e w2 ⟨rfl, hb2⟩
  obtain ⟨hc2, hf2⟩ := bcell hb2
  have hz2 : w.heap.size + 1 + 1 < w2.heap.size := by have := hb2.size; omega
  have B2 : Below w.heap.size w w2 := B1.trans (hb2.mono (by omega))
  go_wp2_with fail
  all_goals
    exact bodyPost_ret (v := .tuple #[nilB, .string ⟨#[97, 114, 105, 116, 104]⟩]) (by simp [nilB, results, Try.results17, go_sem, *]) rfl ⟨ret_val (arV_no (by simp_all)).symm, by repeat (first | exact B2 | refine Below.setCell ?_ (by simp <;> omega) _ | refine Below.alloc ?_ (by simp <;> omega) _)⟩
set_option maxRecDepth 100000 in
set_option maxHeartbeats 1600000 in
theorem arith_b (op : ByteArray) (x kb y : Int) (s t : ByteArray) (w : World) (h2 : ¬ kb = 2) :
    Calls Try.prog 17 #[.string op, .agg #[.int .i64 2, .int .i64 x, .string s], .agg #[.int .i64 kb, .int .i64 y, .string t]] w fun e w' => e = .returned (arV op 2 x kb y) ∧ Below w.heap.size w w' := by
  have h2e : (kb == 2) = false := by simpa using h2
  have a1 := fun w => as_int 2 x s w
  have a2 := fun w => as_int kb y t w
  simp only [h2, h2e, if_true, if_false] at a1 a2
  go_enter Try.func17, Try.ntmps17
  go_wp2_with fail
  refine (datum_any 2 x s _).mono ?_
  rintro e w1 ⟨rfl, hb1⟩
  obtain ⟨hc1, hf1⟩ := bcell hb1
  have hz1 : w.heap.size + 1 + 1 < w1.heap.size := by have := hb1.size; simp at this; omega
  have B1 : Below w.heap.size w w1 := Below.trans (by repeat (first | exact Below.refl _ _ | refine Below.alloc ?_ (by simp <;> omega) _)) (hb1.mono (by simp <;> omega))
  go_wp2_with fail
  refine (datum_any kb y t _).mono ?_
  rintro e w2 ⟨rfl, hb2⟩
  obtain ⟨hc2, hf2⟩ := bcell hb2
  have hz2 : w.heap.size + 1 + 1 < w2.heap.size := by have := hb2.size; omega
  have B2 : Below w.heap.size w w2 := B1.trans (hb2.mono (by omega))
  go_wp2_with fail
  exact bodyPost_ret (v := .tuple #[nilB, .string ⟨#[97, 114, 105, 116, 104]⟩]) (by simp [nilB, results, Try.results17, go_sem, *]) rfl ⟨ret_val (arV_no (by simp_all)).symm, by repeat (first | exact B2 | refine Below.setCell ?_ (by simp <;> omega) _ | refine Below.alloc ?_ (by simp <;> omega) _)⟩
set_option maxRecDepth 100000 in
set_option maxHeartbeats 1600000 in
theorem arith_a (op : ByteArray) (x y : Int) (s t : ByteArray) (w : World) :
    Calls Try.prog 17 #[.string op, .agg #[.int .i64 2, .int .i64 x, .string s], .agg #[.int .i64 2, .int .i64 y, .string t]] w fun e w' => e = .returned (arV op 2 x 2 y) ∧ Below w.heap.size w w' := by
  have a1 := fun w => as_int 2 x s w
  have a2 := fun w => as_int 2 y t w
  simp only [if_true] at a1 a2
  go_enter Try.func17, Try.ntmps17
  go_wp2_with fail
  refine (datum_any 2 x s _).mono ?_
  rintro e w1 ⟨rfl, hb1⟩
  obtain ⟨hc1, hf1⟩ := bcell hb1
  have hz1 : w.heap.size + 1 + 1 < w1.heap.size := by have := hb1.size; simp at this; omega
  have B1 : Below w.heap.size w w1 := Below.trans (by repeat (first | exact Below.refl _ _ | refine Below.alloc ?_ (by simp <;> omega) _)) (hb1.mono (by simp <;> omega))
  go_wp2_with fail
  refine (datum_any 2 y t _).mono ?_
  rintro e w2 ⟨rfl, hb2⟩
  obtain ⟨hc2, hf2⟩ := bcell hb2
  have hz2 : w.heap.size + 1 + 1 < w2.heap.size := by have := hb2.size; omega
  have B2 : Below w.heap.size w w2 := B1.trans (hb2.mono (by omega))
  obtain ⟨⟨n, u⟩, hR⟩ : ∃ q, arR op x y = q := ⟨_, rfl⟩
  have HR : Hid (arR op x y = (n, u)) := hR
  go_wp2_with fail
  refine (reckon_impl op x y _).mono ?_
  rw [hR]
  clear hR
  rintro e w3 ⟨rfl, rfl⟩
  by_cases hu : u = ⟨#[]⟩
  · subst hu
    go_wp2_with fail
    refine (int_impl _ _).mono ?_
    rintro e w3 ⟨rfl, hb3⟩
    obtain ⟨hc3, hf3⟩ := bcell hb3
    have hz3 : w.heap.size + 1 + 1 < w3.heap.size := by have := hb3.size; omega
    unfold numB
    go_wp2_with fail
    have B3 : Below w.heap.size w w3 := B2.trans (hb3.mono (by omega))
    exact bodyPost_ret (v := .tuple #[numB n, .string ⟨#[]⟩]) (by simp [numB, results, Try.results17, go_sem, *]) rfl ⟨ret_val (arV_num ⟨rfl, rfl⟩ HR.out).symm, by repeat (first | exact B3 | refine Below.setCell ?_ (by simp <;> omega) _ | refine Below.alloc ?_ (by simp <;> omega) _)⟩
  · have hu' : (u.toList == []) = false := by
      cases h : u.toList with
      | nil => exact absurd (by cases u; simpa [ByteArray.toList_eq] using h) hu
      | cons a l => rfl
    have hn : n = 0 := arR_ref HR.out hu
    subst hn
    go_wp2_with fail
    exact bodyPost_ret (v := .tuple #[nilB, .string u]) (by simp [nilB, results, Try.results17, go_sem, *]) rfl ⟨ret_val (arV_ref ⟨rfl, rfl⟩ HR.out hu).symm, by repeat (first | exact B2 | refine Below.setCell ?_ (by simp <;> omega) _ | refine Below.alloc ?_ (by simp <;> omega) _)⟩

set_option maxRecDepth 100000 in
theorem arith_impl (op : ByteArray) (ka x kb y : Int) (s t : ByteArray) (w : World) :
    Calls Try.prog 17 #[.string op, .agg #[.int .i64 ka, .int .i64 x, .string s], .agg #[.int .i64 kb, .int .i64 y, .string t]] w fun e w' => e = .returned (arV op ka x kb y) ∧ Below w.heap.size w w' := by
  by_cases h1 : ka = 2
  · by_cases h2 : kb = 2
    · subst h1 h2; exact arith_a op x y s t w
    · subst h1; exact arith_b op x kb y s t w h2
  · exact arith_c op ka x kb y s t w h1
end Go.Proofs.Ytoilhbghjiffeaa
