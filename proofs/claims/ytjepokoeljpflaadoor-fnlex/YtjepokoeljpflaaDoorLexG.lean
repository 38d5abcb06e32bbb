/- The model's own reading of a sign. -/
import Derived.Test.YtjepokoeljpflaaDoorLexT
namespace Go.Proofs.YtjepokoeljpflaaDoor
open Go.RowKit

theorem has_two (t : ByteArray) (w : World) (b : Bool) (hb : hasS twoS t = b) :
    Calls Tryd.prog 29 #[.slice (some ⟨w.heap.size, 0, none⟩) 6 6, .string t] (w.alloc (.cells (twoS.map Value.string).toArray 9)) fun e w' => e = .returned (.bool b) ∧ (w.alloc (.cells (twoS.map Value.string).toArray 9)) = w' := by
  have := has_any twoS t w.heap.size 6 (w.alloc (.cells (twoS.map Value.string).toArray 9)) (by decide) (has_lits w _ twoS)
  rw [hb] at this
  exact this
theorem has_one (t : ByteArray) (w : World) (b : Bool) (nb : Nat) (hn : nb = w.heap.size) (hb : hasS oneS t = b) :
    Calls Tryd.prog 29 #[.slice (some ⟨nb, 0, none⟩) 17 17, .string t] (w.alloc (.cells (oneS.map Value.string).toArray 9)) fun e w' => e = .returned (.bool b) ∧ (w.alloc (.cells (oneS.map Value.string).toArray 9)) = w' := by
  subst hn
  have := has_any oneS t w.heap.size 17 (w.alloc (.cells (oneS.map Value.string).toArray 9)) (by decide) (has_lits w _ oneS)
  rw [hb] at this
  exact this
theorem below_two (w : World) (o p : Obj) : Below w.heap.size w ((w.alloc o).alloc p) := ((Below.refl _ w).alloc (Nat.le_refl _) o).alloc (by simp) p
theorem below_one (w : World) (o : Obj) : Below w.heap.size w (w.alloc o) := (Below.refl _ w).alloc (Nat.le_refl _) o

set_option maxRecDepth 100000 in
set_option maxHeartbeats 1000000 in
theorem sign_any (s : ByteArray) (i : Nat) (w : World) (hs : s.size ≤ 1048576) (hi : i < s.size) :
    Calls Tryd.prog 43 #[.string s, .int .i64 i] w fun e w' => e = .returned (.string (signT s i)) ∧ Below w.heap.size w w' := by
  by_cases hl2 : i + 1 < s.size
  · cases h2 : two s[i] s[i + 1]
    · have G2 : Hid (hasS twoS (s.extract i (i + 2)) = false) := by show _ = _; rw [two_has, ext2 s i hl2]; exact h2
      cases h1 : one s[i]
      · have G1 : Hid (hasS oneS (s.extract i (i + 1)) = false) := by show _ = _; rw [one_has, ext1 s i hi]; exact h1
        have HE : Hid (signT s i = ⟨#[]⟩) := by show _ = _; simp [signT, signW, hl2, h1, h2]
        clear h1 h2
        go_enter Tryd.func43, Tryd.ntmps43
        go_wp2_with fail
        refine (has_two (s.extract i (i + 2)) w false G2.out).mono ?_
        rintro e w1 ⟨rfl, rfl⟩
        go_wp2_with fail
        refine (has_one (s.extract i (i + 1)) (w.alloc (.cells (twoS.map Value.string).toArray 9)) false (w.heap.size + 1) (by simp) G1.out).mono ?_
        rintro e w1 ⟨rfl, rfl⟩
        go_wp2_with fail
        go_ret
        exact ⟨by rw [HE.out]; rfl, below_two _ _ _⟩
      · have G1 : Hid (hasS oneS (s.extract i (i + 1)) = true) := by show _ = _; rw [one_has, ext1 s i hi]; exact h1
        have HE : Hid (signT s i = s.extract i (i + 1)) := by show _ = _; simp [signT, signW, hl2, h1, h2]
        clear h1 h2
        go_enter Tryd.func43, Tryd.ntmps43
        go_wp2_with fail
        refine (has_two (s.extract i (i + 2)) w false G2.out).mono ?_
        rintro e w1 ⟨rfl, rfl⟩
        go_wp2_with fail
        refine (has_one (s.extract i (i + 1)) (w.alloc (.cells (twoS.map Value.string).toArray 9)) true (w.heap.size + 1) (by simp) G1.out).mono ?_
        rintro e w1 ⟨rfl, rfl⟩
        go_wp2_with fail
        go_ret
        exact ⟨by rw [HE.out]; rfl, below_two _ _ _⟩
    · have G2 : Hid (hasS twoS (s.extract i (i + 2)) = true) := by show _ = _; rw [two_has, ext2 s i hl2]; exact h2
      have HE : Hid (signT s i = s.extract i (i + 2)) := by show _ = _; simp [signT, signW, hl2, h2]
      clear h2
      go_enter Tryd.func43, Tryd.ntmps43
      go_wp2_with fail
      refine (has_two (s.extract i (i + 2)) w true G2.out).mono ?_
      rintro e w1 ⟨rfl, rfl⟩
      go_wp2_with fail
      go_ret
      exact ⟨by rw [HE.out]; rfl, below_one _ _⟩
  · cases h1 : one s[i]
    · have G1 : Hid (hasS oneS (s.extract i (i + 1)) = false) := by show _ = _; rw [one_has, ext1 s i hi]; exact h1
      have HE : Hid (signT s i = ⟨#[]⟩) := by show _ = _; simp [signT, signW, hl2, hi, h1]
      clear h1
      go_enter Tryd.func43, Tryd.ntmps43
      go_wp2_with fail
      refine (has_one (s.extract i (i + 1)) w false w.heap.size rfl G1.out).mono ?_
      rintro e w1 ⟨rfl, rfl⟩
      go_wp2_with fail
      go_ret
      exact ⟨by rw [HE.out]; rfl, below_one _ _⟩
    · have G1 : Hid (hasS oneS (s.extract i (i + 1)) = true) := by show _ = _; rw [one_has, ext1 s i hi]; exact h1
      have HE : Hid (signT s i = s.extract i (i + 1)) := by show _ = _; simp [signT, signW, hl2, hi, h1]
      clear h1
      go_enter Tryd.func43, Tryd.ntmps43
      go_wp2_with fail
      refine (has_one (s.extract i (i + 1)) w true w.heap.size rfl G1.out).mono ?_
      rintro e w1 ⟨rfl, rfl⟩
      go_wp2_with fail
      go_ret
      exact ⟨by rw [HE.out]; rfl, below_one _ _⟩
end Go.Proofs.YtjepokoeljpflaaDoor
