/- Both CmdText of the specification: the word's kind, the command's text. -/
import Derived.Test.YtadjhnaiphnpoaaDoorCmP
import Derived.Test.YtadjhnaiphnpoaaDoorInW
import Derived.Test.YtadjhnaiphnpoaaDoorDecW
import Derived.Test.YtadjhnaiphnpoaaDoorValU
namespace Go.Proofs.YtadjhnaiphnpoaaDoor
open Go.RowKit Go.Lib

theorem below_dn {B : Nat} {a w : World} (n : Nat) (h : Below B a w) : Below B a (w.drewN n) := ⟨h.os, h.tape, h.output, h.size, h.block⟩
theorem has_row (L : List ByteArray) (s : ByteArray) (w : World) (T : TypeId) (hl : L.length ≤ 1000) : Calls Tryd.prog 62 #[.slice (some ⟨w.heap.size, 0, none⟩) L.length L.length, .string s] (w.alloc (.cells (L.map Value.string).toArray T)) fun e w' => e = .returned (.bool (hasS L s)) ∧ (w.alloc (.cells (L.map Value.string).toArray T)) = w' :=
  has_any L s w.heap.size L.length _ hl (has_lits w T L)

theorem has_grow (L : List ByteArray) (s : ByteArray) (w : World) (T : TypeId) (hl : L.length ≤ 1000) : Calls Tryd.prog 62 #[.slice (some ⟨w.heap.size, 0, none⟩) L.length L.length, .string s] (w.alloc (.cells (L.map Value.string).toArray T)) fun e w' => e = .returned (.bool (hasS L s)) ∧ Below w.heap.size w w' :=
  (has_row L s w T hl).mono fun _ _ h => ⟨h.1, h.2 ▸ (Below.refl _ _).alloc (Nat.le_refl _) _⟩

set_option maxRecDepth 100000 in
set_option maxHeartbeats 1600000 in
theorem kind_spec (s : ByteArray) (w : World) :
    Calls Tryd.prog 43 #[.string s] w fun e w' => e = .returned (.int .i64 (kindOf s - 1)) ∧ Below w.heap.size w w' := by
  go_enter Tryd.func43, Tryd.ntmps43
  go_wp2_with fail
  refine (has_grow bareL s w 9 (by decide)).mono ?_
  rintro e w1 ⟨rfl, hb1⟩
  by_cases h1 : hasS bareL s = true
  · have HK : Hid (kindOf s = 1) := by show _ = _; rw [kindOf, if_pos h1]
    go_wp2_with fail
    go_ret
    exact ⟨by rw [HK.out]; rfl, hb1⟩
  · have h1' : hasS bareL s = false := by simpa using h1
    clear h1
    go_wp2_with fail
    refine (has_grow numL s w1 9 (by decide)).mono ?_
    rintro e w2 ⟨rfl, hb2⟩
    have hb12 := hb1.trans (hb2.mono hb1.size)
    by_cases h2 : hasS numL s = true
    · have HK : Hid (kindOf s = 2) := by show _ = _; rw [kindOf, if_neg (by rw [h1']; simp), if_pos h2]
      go_wp2_with fail
      go_ret
      exact ⟨by rw [HK.out]; rfl, hb12⟩
    · have h2' : hasS numL s = false := by simpa using h2
      clear h2
      go_wp2_with fail
      refine (has_grow textL s w2 9 (by decide)).mono ?_
      rintro e w3 ⟨rfl, hb3⟩
      have hb13 := hb12.trans (hb3.mono hb12.size)
      by_cases h3 : hasS textL s = true
      · have HK : Hid (kindOf s = 3) := by show _ = _; rw [kindOf, if_neg (by rw [h1']; simp), if_neg (by rw [h2']; simp), if_pos h3]
        go_wp2_with fail
        go_ret
        exact ⟨by rw [HK.out]; rfl, hb13⟩
      · have h3' : hasS textL s = false := by simpa using h3
        clear h3
        have HK : Hid (kindOf s = 0) := by show _ = _; rw [kindOf, if_neg (by rw [h1']; simp), if_neg (by rw [h2']; simp), if_neg (by rw [h3']; simp)]
        go_wp2_with fail
        go_ret
        exact ⟨by rw [HK.out]; rfl, hb13⟩

set_option maxRecDepth 100000 in
set_option maxHeartbeats 1600000 in
theorem cmd_spec (s : ByteArray) (n : Int) (x : ByteArray) (w : World) (hs : s.size ≤ 2097152) (hx : x.size ≤ 2097152) (n0 : -9223372036854775808 ≤ n) (n1 : n ≤ 9223372036854775807) :
    Calls Tryd.prog 20 #[.agg #[.string s, .int .i64 n, .string x]] w fun e w' => e = .returned (.string (cmdT s n x)) ∧ Below w.heap.size w w' := by
  have HD : ∀ u : World, Calls Tryd.prog 34 #[.int .i64 n] u fun e w' => e = .returned (.string (numT n)) ∧ w' = u := fun u => (dec_spec n n0 n1 u).mono fun _ _ h => ⟨h.1, h.2.symm⟩
  have HDh : Hid (∀ u : World, Calls Tryd.prog 34 #[.int .i64 n] u fun e w' => e = .returned (.string (numT n)) ∧ w' = u) := HD
  clear HD
  go_enter Tryd.func20, Tryd.ntmps20
  go_wp2_with fail
  refine (kind_spec s _).mono ?_
  rintro e w1 ⟨rfl, hb1⟩
  have c0 := st_cell hb1 0
  have c1 := st_cell hb1 1
  have c2 := st_cell hb1 2
  simp only [List.getElem?_toArray, List.getElem?_cons_zero, List.getElem?_cons_succ] at c0 c1 c2
  have hbw := boxed hb1
  clear hb1
  rcases kind_cases s with h | h | h | h
  · have H : Hid _ := cmdT0 n x h
    clear c0 c1 c2
    rw [h]
    go_wp2_with fail
    go_ret
    exact ⟨by rw [H.out]; rfl, hbw⟩
  · have H : Hid _ := cmdT1 n x h
    clear c1 c2
    rw [h]
    go_wp2_with fail
    go_ret
    exact ⟨by rw [H.out]; rfl, hbw⟩
  · rw [h]
    by_cases hn : 0 ≤ n ∧ n ≤ 999999
    · have H : Hid _ := cmdT2 x h hn
      have hz := numT_size n n0 n1
      clear h
      go_wp2_with fail
      refine (in_yes n 0 999999 _ hn).mono ?_
      rintro e w2 ⟨rfl, rfl⟩
      generalize numT n = t at *
      have f1 : ¬ 9223372036854775807 ≤ s.size := by omega
      have f2 : ¬ 9223372036854775807 < s.size + 1 := by omega
      have f3 : ¬ 9223372036854775807 < s.size + 1 + t.size := by omega
      go_wp2_with fail
      go_quiet (first | (go_at_call 34; with_reducible refine Calls.quiet_of_same (HDh.out _)))
      go_wp2_with fail
      go_ret
      exact ⟨by rw [H.out]; rfl, below_dn _ hbw⟩
    · have H : Hid _ := cmdT2' x h hn
      have hn' : n < 0 ∨ 999999 < n := by omega
      go_wp2_with fail
      refine (in_no n 0 999999 _ hn').mono ?_
      rintro e w2 ⟨rfl, rfl⟩
      go_wp2_with fail
      go_ret
      exact ⟨by rw [H.out]; rfl, hbw⟩
  · rw [h]
    have H : Hid _ := cmdT3 n x h
    have hsz : (s ++ (⟨#[32]⟩ : ByteArray)).size = s.size + 1 := by rw [ByteArray.size_append]; rfl
    go_wp2_with fail
    go_ret
    exact ⟨by rw [H.out]; rfl, hbw⟩
end Go.Proofs.YtadjhnaiphnpoaaDoor
