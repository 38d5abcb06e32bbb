/- Whether a table is there, and its pairs. -/
import Derived.Test.YtbdpfmkpjeleaaaHeapG
namespace Go.Proofs.Ytbdpfmkpjeleaaa
open Go.RowKit

def tabB (tl : Nat) (k n : Int) : Bool := k == 4 && (decide (0 ≤ n) && decide (n < (tl : Int)))
set_option maxRecDepth 100000 in
set_option maxHeartbeats 800000 in
theorem table_spec (a b : Option Addr) (tl ca vl cb : Nat) (k n : Int) (s : ByteArray) (w : World) (hl : tl ≤ maxLen) :
    Calls Try.prog 49 #[.agg #[.slice a tl ca, .slice b vl cb], .agg #[.int .i64 k, .int .i64 n, .string s]] w fun e w' => e = .returned (.bool (tabB tl k n)) ∧ Below w.heap.size w w' := by
  unfold maxLen at hl
  have hal : Below w.heap.size w ((w.alloc (Obj.cells #[.slice a tl ca, .slice b vl cb] 30)).alloc (Obj.cells #[.int .i64 k, .int .i64 n, .string s] 32)) := (rows2 w _ _).2.2.2
  by_cases h4 : k = 4
  · subst h4
    by_cases hi : 0 ≤ n ∧ n ≤ (tl : Int) - 1
    · go_enter Try.func49, Try.ntmps49
      go_wp2_with (go_at_call 56; refine (in_yes _ _ _ _ hi).mono ?_; rintro e w' ⟨rfl, rfl⟩)
      go_ret
      exact ⟨ret_bool (by simp [tabB]; omega), hal⟩
    · have hi' : n < 0 ∨ (tl : Int) - 1 < n := by omega
      go_enter Try.func49, Try.ntmps49
      go_wp2_with (go_at_call 56; refine (in_no _ _ _ _ hi').mono ?_; rintro e w' ⟨rfl, rfl⟩)
      go_ret
      exact ⟨ret_bool (by simp [tabB]; omega), hal⟩
  · have h4' : (k == 4) = false := by simpa using h4
    go_enter Try.func49, Try.ntmps49
    go_wp2
    go_ret
    exact ⟨ret_bool (by simp [tabB, h4']), hal⟩

set_option maxRecDepth 100000 in
set_option maxHeartbeats 800000 in
theorem has_any (a b : Option Addr) (tl ca vl cb : Nat) (k n : Int) (s : ByteArray) (w : World) :
    Calls Try.prog 51 #[.agg #[.slice a tl ca, .slice b vl cb], .agg #[.int .i64 k, .int .i64 n, .string s]] w fun e w' => e = .returned (.bool (tabB tl k n)) ∧ Below w.heap.size w w' := by
  obtain ⟨rA, rB, hs0, B0⟩ := rows2 w (Obj.cells #[.slice a tl ca, .slice b vl cb] 30) (Obj.cells #[.int .i64 k, .int .i64 n, .string s] 32)
  by_cases h4 : k = 4
  · subst h4
    have ha := fun w => as_table 4 n s w
    simp only [if_true] at ha
    go_enter Try.func51, Try.ntmps51
    go_wp2_with fail
    refine (datum_any 4 n s _).mono ?_
    rintro e w1 ⟨rfl, hb1⟩
    have rA1 := (hb1.block w.heap.size (by rw [hs0]; omega)).trans rA
    have BW : Below w.heap.size w w1 := B0.trans (hb1.mono (by rw [hs0]; omega))
    have k0 := cell_of_row _ _ 0 _ _ _ rA1
    simp only [List.getElem?_toArray, List.getElem?_cons_zero] at k0
    by_cases h0 : 0 ≤ n
    · by_cases h1 : n < (tl : Int)
      · go_wp2_with fail
        go_ret
        exact ⟨ret_bool (by simp [tabB, h0, h1]), BW⟩
      · go_wp2_with fail
        go_ret
        exact ⟨ret_bool (by simp [tabB]; omega), BW⟩
    · go_wp2_with fail
      go_ret
      exact ⟨ret_bool (by simp [tabB]; omega), BW⟩
  · have h4' : (k == 4) = false := by simpa using h4
    have ha := fun w => as_table k n s w
    simp only [h4, h4', if_false] at ha
    go_enter Try.func51, Try.ntmps51
    go_wp2_with fail
    refine (datum_any k n s _).mono ?_
    rintro e w1 ⟨rfl, hb1⟩
    have BW : Below w.heap.size w w1 := B0.trans (hb1.mono (by rw [hs0]; omega))
    go_wp2_with fail
    go_ret
    exact ⟨ret_bool (by simp [tabB, h4']), BW⟩

theorem as_table4 (n : Int) (s : ByteArray) (w : World) : (Instr.typeAssert (datV 4 n s) 89 118 false).run Try.prog w = .ok (.int .i64 n) w := by kernel_rfl
set_option maxRecDepth 100000 in
set_option maxHeartbeats 1600000 in
theorem pairs_any (g o tl ca vl cb i : Nat) (b : Option Addr) (s : ByteArray) (w : World) (hi : i < tl) :
    Calls Try.prog 53 #[.agg #[.slice (some ⟨g, o, none⟩) tl ca, .slice b vl cb], .agg #[.int .i64 4, .int .i64 i, .string s]] w fun e w' => e = .returned (.pointer (some ⟨g, o + i, none⟩)) ∧ Below w.heap.size w w' := by
  have ha := fun w => as_table4 i s w
  have i0 : (0 : Int) ≤ (i : Int) := by omega
  have i1 : (i : Int) < (tl : Int) := by omega
  obtain ⟨W0, hW0⟩ : ∃ W0, W0 = (w.alloc (Obj.cells #[.slice (some ⟨g, o, none⟩) tl ca, .slice b vl cb] 30)).alloc (Obj.cells #[.int .i64 4, .int .i64 i, .string s] 32) := ⟨_, rfl⟩
  obtain ⟨rA, rB, hs0, B0⟩ := rows2 w (Obj.cells #[.slice (some ⟨g, o, none⟩) tl ca, .slice b vl cb] 30) (Obj.cells #[.int .i64 4, .int .i64 i, .string s] 32)
  rw [← hW0] at rA rB hs0 B0
  have x0 := cell_of_row _ _ 0 _ _ _ rA
  have y0 := cell_of_row _ _ 0 _ _ _ rB
  have y1 := cell_of_row _ _ 1 _ _ _ rB
  have y2 := cell_of_row _ _ 2 _ _ _ rB
  simp only [List.getElem?_toArray, List.getElem?_cons_zero, List.getElem?_cons_succ] at x0 y0 y1 y2
  have n0 : w.heap.size < W0.heap.size := by omega
  have n1 : w.heap.size + 1 < W0.heap.size := by omega
  go_enter Try.func53, Try.ntmps53
  go_wp2_with fail
  rw [← hW0]
  clear hW0
  go_region_held3 (fun w' => w'.cell? ⟨w.heap.size, 0, none⟩ = some (.slice (some ⟨g, o, none⟩) tl ca) ∧ w'.cell? ⟨w.heap.size + 1, 0, none⟩ = some (.int .i64 4) ∧ w'.cell? ⟨w.heap.size + 1, 1, none⟩ = some (.int .i64 i) ∧ w'.cell? ⟨w.heap.size + 1, 2, none⟩ = some (.string s)) (go_keep) (first | (go_at_call 54; refine (datum_any _ _ _ _).mono ?_; rintro e w' ⟨rfl, hb'⟩; have hq' := (Below.refl W0.heap.size W0).drew.trans hb'; have z0 := (hq'.cell (p := ⟨w.heap.size, 0, none⟩) n0).trans x0; have z1 := (hq'.cell (p := ⟨w.heap.size + 1, 0, none⟩) n1).trans y0; have z2 := (hq'.cell (p := ⟨w.heap.size + 1, 1, none⟩) n1).trans y1; have z3 := (hq'.cell (p := ⟨w.heap.size + 1, 2, none⟩) n1).trans y2))
  go_wp2_with fail
  go_ret
  exact ⟨rfl, B0.trans (hq'.mono B0.size)⟩

theorem textI_any (s : ByteArray) (w : World) : Calls Try.prog 80 #[.string s] w fun e w' => e = .returned (.agg #[.int .i64 3, .int .i64 0, .string s]) ∧ Below w.heap.size w w' := by
  go_enter Try.func80, Try.ntmps80
  go_wp2
  exact bodyPost_ret (v := .agg #[.int .i64 3, .int .i64 0, .string s]) (by simp [results, Try.results80, go_sem]) rfl ⟨rfl, by repeat (first | exact Below.refl _ _ | refine Below.setCell ?_ (by simp <;> omega) _ | refine Below.alloc ?_ (by simp <;> omega) _)⟩
theorem textS_any (s : ByteArray) (w : World) : Calls Try.prog 57 #[.string s] w fun e w' => e = .returned (.agg #[.int .i64 3, .int .i64 0, .string s]) ∧ Below w.heap.size w w' := by
  go_enter Try.func57, Try.ntmps57
  go_wp2
  exact bodyPost_ret (v := .agg #[.int .i64 3, .int .i64 0, .string s]) (by simp [results, Try.results57, go_sem]) rfl ⟨rfl, by repeat (first | exact Below.refl _ _ | refine Below.setCell ?_ (by simp <;> omega) _ | refine Below.alloc ?_ (by simp <;> omega) _)⟩

/-- The byte of a text at a number, as a value. -/
def byteV (s : ByteArray) (k n : Int) : Value := if k = 2 ∧ 1 ≤ n ∧ n ≤ (s.size : Int) then .agg #[.int .i64 3, .int .i64 0, .string (s.extract (n.toNat - 1) n.toNat)] else nilB
set_option maxRecDepth 100000 in
set_option maxHeartbeats 800000 in
theorem byte_impl (t : ByteArray) (k n : Int) (s : ByteArray) (w : World) (hs : t.size ≤ 1048576) :
    Calls Try.prog 55 #[.string t, datV k n s] w fun e w' => e = .returned (byteV t k n) ∧ Below w.heap.size w w' := by
  have rA := heap_alloc_new w (Obj.cells #[.int .i64 0, .int .i64 0, .string ⟨#[]⟩] 32)
  have BN : Below w.heap.size w (w.alloc (Obj.cells #[.int .i64 0, .int .i64 0, .string ⟨#[]⟩] 32)) := bel_alloc _ _
  by_cases hk : k = 2 ∧ 1 ≤ n ∧ n ≤ (t.size : Int)
  · obtain ⟨rfl, h1, h2⟩ := hk
    have ha := fun w => as_int 2 n s w
    simp only [if_true] at ha
    obtain ⟨m, rfl⟩ : ∃ m : Nat, n = (m : Int) + 1 := ⟨n.toNat - 1, by omega⟩
    have hv : byteV t 2 ((m : Int) + 1) = .agg #[.int .i64 3, .int .i64 0, .string (t.extract m (m + 1))] := by
      unfold byteV
      rw [if_pos ⟨rfl, h1, h2⟩, show ((m : Int) + 1).toNat = m + 1 by omega, show m + 1 - 1 = m by omega]
    have HV : Hid (byteV t 2 ((m : Int) + 1) = .agg #[.int .i64 3, .int .i64 0, .string (t.extract m (m + 1))]) := hv
    clear hv
    go_enter Try.func55, Try.ntmps55
    go_wp2_with fail
    refine (clone_any _ _ (by rw [ByteArray.size_extract]; omega)).mono ?_
    rintro e w1 ⟨rfl, hb1⟩
    have hs1 := hb1.size
    simp at hs1
    have rA1 := (hb1.block w.heap.size (by simp)).trans rA
    have B1 := BN.trans (hb1.mono BN.size)
    clear hb1 rA
    go_wp2_with fail
    refine (textI_any _ _).mono ?_
    rintro e w2 ⟨rfl, hb2⟩
    have hs2 := hb2.size
    have rA2 := (hb2.block w.heap.size (by omega)).trans rA1
    have B2 := B1.trans (hb2.mono B1.size)
    obtain ⟨f0, f1, f2, c0, c1, c2⟩ := rowZ' rA2
    clear rA1 rA2 hb2
    go_wp2_with fail
    exact bodyPost_ret (v := .agg #[.int .i64 3, .int .i64 0, .string (t.extract m (m + 1))]) (by simp [results, Try.results55, go_sem, *]) rfl ⟨ret_val HV.out.symm, ((B2.setCell (Nat.le_refl _) _).setCell (Nat.le_refl _) _).setCell (Nat.le_refl _) _⟩
  · have hv : byteV t k n = nilB := if_neg hk
    have HV : Hid (byteV t k n = nilB) := hv
    clear hv
    by_cases h2 : k = 2
    · subst h2
      have ha := fun w => as_int 2 n s w
      simp only [if_true] at ha
      have hn : n < 1 ∨ (t.size : Int) < n := by omega
      clear hk
      rcases hn with h1 | h1
      · go_enter Try.func55, Try.ntmps55
        go_wp2_with fail
        exact bodyPost_ret (v := nilB) (by simp [nilB, results, Try.results55, go_sem]) rfl ⟨ret_val HV.out.symm, by repeat (first | exact Below.refl _ _ | refine Below.setCell ?_ (by simp <;> omega) _ | refine Below.alloc ?_ (by simp <;> omega) _)⟩
      · have h0 : 1 ≤ n := by omega
        go_enter Try.func55, Try.ntmps55
        go_wp2_with fail
        exact bodyPost_ret (v := nilB) (by simp [nilB, results, Try.results55, go_sem]) rfl ⟨ret_val HV.out.symm, by repeat (first | exact Below.refl _ _ | refine Below.setCell ?_ (by simp <;> omega) _ | refine Below.alloc ?_ (by simp <;> omega) _)⟩
    · have h2' : (k == 2) = false := by simpa using h2
      have ha := fun w => as_int k n s w
      simp only [h2, h2', if_false] at ha
      clear hk
      go_enter Try.func55, Try.ntmps55
      go_wp2_with fail
      exact bodyPost_ret (v := nilB) (by simp [nilB, results, Try.results55, go_sem]) rfl ⟨ret_val HV.out.symm, by repeat (first | exact Below.refl _ _ | refine Below.setCell ?_ (by simp <;> omega) _ | refine Below.alloc ?_ (by simp <;> omega) _)⟩
end Go.Proofs.Ytbdpfmkpjeleaaa
