/- A value as the program looks at it: its datum. -/
import Derived.Test.YtbdpfmkpjeleaaaValU
import Derived.BigQuiet
import Derived.Deep.QuietTactic
namespace Go.Proofs.Ytbdpfmkpjeleaaa
open Go.RowKit

/-- What stands behind the interface, kind by kind. -/
def datV (k n : Int) (s : ByteArray) : Value :=
  if k = 0 then .iface 121 (.agg #[]) else if k = 1 then .iface 122 (.bool (n != 0)) else if k = 2 then .iface 99 (.int .i64 n) else
  if k = 3 then .iface 86 (.string s) else if k = 4 then .iface 118 (.int .i64 n) else if k = 5 then .iface 123 (.int .i64 n) else
  if k = 6 then .iface 124 (.int .i64 n) else .iface 125 (.int .i64 k)

set_option maxRecDepth 100000 in
set_option maxHeartbeats 800000 in
theorem datum_any (k n : Int) (s : ByteArray) (w : World) :
    Calls Try.prog 54 #[.agg #[.int .i64 k, .int .i64 n, .string s]] w fun e w' => e = .returned (datV k n s) ∧ Below w.heap.size w w' := by
  go_enter Try.func54, Try.ntmps54
  go_wp2
  all_goals
    go_ret
    exact ⟨ret_val (by simp_all [datV]), (Below.refl _ _).alloc (Nat.le_refl _) _⟩

theorem dat_cases (k n : Int) (s : ByteArray) :
    (k = 0 ∧ datV 0 n s = .iface 121 (.agg #[])) ∨ (k = 1 ∧ datV 1 n s = .iface 122 (.bool (n != 0))) ∨ (k = 2 ∧ datV 2 n s = .iface 99 (.int .i64 n)) ∨ (k = 3 ∧ datV 3 n s = .iface 86 (.string s)) ∨ (k = 4 ∧ datV 4 n s = .iface 118 (.int .i64 n)) ∨ (k = 5 ∧ datV 5 n s = .iface 123 (.int .i64 n)) ∨ (k = 6 ∧ datV 6 n s = .iface 124 (.int .i64 n)) ∨ ((k ≠ 0 ∧ k ≠ 1 ∧ k ≠ 2 ∧ k ≠ 3 ∧ k ≠ 4 ∧ k ≠ 5 ∧ k ≠ 6) ∧ datV k n s = .iface 125 (.int .i64 k)) := by
  by_cases h0 : k = 0
  · subst h0; exact .inl ⟨rfl, rfl⟩
  by_cases h1 : k = 1
  · subst h1; exact .inr (.inl ⟨rfl, rfl⟩)
  by_cases h2 : k = 2
  · subst h2; exact .inr (.inr (.inl ⟨rfl, rfl⟩))
  by_cases h3 : k = 3
  · subst h3; exact .inr (.inr (.inr (.inl ⟨rfl, rfl⟩)))
  by_cases h4 : k = 4
  · subst h4; exact .inr (.inr (.inr (.inr (.inl ⟨rfl, rfl⟩))))
  by_cases h5 : k = 5
  · subst h5; exact .inr (.inr (.inr (.inr (.inr (.inl ⟨rfl, rfl⟩)))))
  by_cases h6 : k = 6
  · subst h6; exact .inr (.inr (.inr (.inr (.inr (.inr (.inl ⟨rfl, rfl⟩))))))
  exact .inr (.inr (.inr (.inr (.inr (.inr (.inr (⟨⟨h0, h1, h2, h3, h4, h5, h6⟩, by unfold datV; rw [if_neg h0, if_neg h1, if_neg h2, if_neg h3, if_neg h4, if_neg h5, if_neg h6]⟩)))))))
theorem as_nil (k n : Int) (s : ByteArray) (w : World) : (Instr.typeAssert (datV k n s) 89 121 true).run Try.prog w = .ok (.tuple #[.agg #[], .bool (k == 0)]) w := by
  rcases dat_cases k n s with ⟨rfl, e⟩ | ⟨rfl, e⟩ | ⟨rfl, e⟩ | ⟨rfl, e⟩ | ⟨rfl, e⟩ | ⟨rfl, e⟩ | ⟨rfl, e⟩ | ⟨⟨h0, h1, h2, h3, h4, h5, h6⟩, e⟩
  · rw [e]; kernel_rfl
  · rw [e]; kernel_rfl
  · rw [e]; kernel_rfl
  · rw [e]; kernel_rfl
  · rw [e]; kernel_rfl
  · rw [e]; kernel_rfl
  · rw [e]; kernel_rfl
  · rw [e, show (k == 0) = false by simpa using h0]; kernel_rfl
theorem as_bool (k n : Int) (s : ByteArray) (w : World) : (Instr.typeAssert (datV k n s) 89 122 true).run Try.prog w = .ok (.tuple #[.bool (k == 1 && n != 0), .bool (k == 1)]) w := by
  rcases dat_cases k n s with ⟨rfl, e⟩ | ⟨rfl, e⟩ | ⟨rfl, e⟩ | ⟨rfl, e⟩ | ⟨rfl, e⟩ | ⟨rfl, e⟩ | ⟨rfl, e⟩ | ⟨⟨h0, h1, h2, h3, h4, h5, h6⟩, e⟩
  · rw [e]; kernel_rfl
  · rw [e]; kernel_rfl
  · rw [e]; kernel_rfl
  · rw [e]; kernel_rfl
  · rw [e]; kernel_rfl
  · rw [e]; kernel_rfl
  · rw [e]; kernel_rfl
  · rw [e, show (.bool (k == 1 && n != 0) : Value) = .bool false by simp [*], show (k == 1) = false by simpa using h1]; kernel_rfl
theorem as_int (k n : Int) (s : ByteArray) (w : World) : (Instr.typeAssert (datV k n s) 89 99 true).run Try.prog w = .ok (.tuple #[.int .i64 (if k = 2 then n else 0), .bool (k == 2)]) w := by
  rcases dat_cases k n s with ⟨rfl, e⟩ | ⟨rfl, e⟩ | ⟨rfl, e⟩ | ⟨rfl, e⟩ | ⟨rfl, e⟩ | ⟨rfl, e⟩ | ⟨rfl, e⟩ | ⟨⟨h0, h1, h2, h3, h4, h5, h6⟩, e⟩
  · rw [e]; kernel_rfl
  · rw [e]; kernel_rfl
  · rw [e]; kernel_rfl
  · rw [e]; kernel_rfl
  · rw [e]; kernel_rfl
  · rw [e]; kernel_rfl
  · rw [e]; kernel_rfl
  · rw [e, show (.int .i64 (if k = 2 then n else 0) : Value) = .int .i64 0 by simp [*], show (k == 2) = false by simpa using h2]; kernel_rfl
theorem as_text (k n : Int) (s : ByteArray) (w : World) : (Instr.typeAssert (datV k n s) 89 86 true).run Try.prog w = .ok (.tuple #[.string (if k = 3 then s else ByteArray.empty), .bool (k == 3)]) w := by
  rcases dat_cases k n s with ⟨rfl, e⟩ | ⟨rfl, e⟩ | ⟨rfl, e⟩ | ⟨rfl, e⟩ | ⟨rfl, e⟩ | ⟨rfl, e⟩ | ⟨rfl, e⟩ | ⟨⟨h0, h1, h2, h3, h4, h5, h6⟩, e⟩
  · rw [e]; kernel_rfl
  · rw [e]; kernel_rfl
  · rw [e]; kernel_rfl
  · rw [e]; kernel_rfl
  · rw [e]; kernel_rfl
  · rw [e]; kernel_rfl
  · rw [e]; kernel_rfl
  · rw [e, show (.string (if k = 3 then s else ByteArray.empty) : Value) = .string ByteArray.empty by simp [*], show (k == 3) = false by simpa using h3]; kernel_rfl
theorem as_table (k n : Int) (s : ByteArray) (w : World) : (Instr.typeAssert (datV k n s) 89 118 true).run Try.prog w = .ok (.tuple #[.int .i64 (if k = 4 then n else 0), .bool (k == 4)]) w := by
  rcases dat_cases k n s with ⟨rfl, e⟩ | ⟨rfl, e⟩ | ⟨rfl, e⟩ | ⟨rfl, e⟩ | ⟨rfl, e⟩ | ⟨rfl, e⟩ | ⟨rfl, e⟩ | ⟨⟨h0, h1, h2, h3, h4, h5, h6⟩, e⟩
  · rw [e]; kernel_rfl
  · rw [e]; kernel_rfl
  · rw [e]; kernel_rfl
  · rw [e]; kernel_rfl
  · rw [e]; kernel_rfl
  · rw [e]; kernel_rfl
  · rw [e]; kernel_rfl
  · rw [e, show (.int .i64 (if k = 4 then n else 0) : Value) = .int .i64 0 by simp [*], show (k == 4) = false by simpa using h4]; kernel_rfl

set_option maxRecDepth 100000 in
set_option maxHeartbeats 800000 in
theorem isNil_any (k n : Int) (s : ByteArray) (w : World) :
    Calls Try.prog 78 #[.agg #[.int .i64 k, .int .i64 n, .string s]] w fun e w' => e = .returned (.bool (k == 0)) ∧ Below w.heap.size w w' := by
  have ha := fun w => as_nil k n s w
  go_enter Try.func78, Try.ntmps78
  go_wp2_with fail
  refine (datum_any k n s _).mono ?_
  rintro e w1 ⟨rfl, hb1⟩
  go_wp2_with fail
  go_ret
  exact ⟨rfl, (boxed hb1).alloc (boxed hb1).size _⟩

def truthB (k n : Int) : Bool := k != 0 && !(k == 1 && n == 0)
set_option maxRecDepth 100000 in
set_option maxHeartbeats 800000 in
theorem truth_impl (k n : Int) (s : ByteArray) (w : World) :
    Calls Try.prog 61 #[.agg #[.int .i64 k, .int .i64 n, .string s]] w fun e w' => e = .returned (.bool (truthB k n)) ∧ Below w.heap.size w w' := by
  have ha := fun w => as_bool k n s w
  by_cases h1 : k = 1
  · subst h1
    go_enter Try.func61, Try.ntmps61
    go_wp2_with fail
    refine (datum_any 1 n s _).mono ?_
    rintro e w1 ⟨rfl, hb1⟩
    go_wp2_with fail
    go_ret
    exact ⟨ret_bool (by simp [truthB, bne]), boxed hb1⟩
  · have h1' : (k == 1) = false := by simpa using h1
    go_enter Try.func61, Try.ntmps61
    go_wp2_with fail
    refine (datum_any k n s _).mono ?_
    rintro e w1 ⟨rfl, hb1⟩
    have c0 := st_cell hb1 0
    have c1 := st_cell hb1 1
    have c2 := st_cell hb1 2
    simp only [List.getElem?_toArray, List.getElem?_cons_zero, List.getElem?_cons_succ] at c0 c1 c2
    go_wp2_with fail
    refine (isNil_any k n s _).mono ?_
    rintro e w2 ⟨rfl, hb2⟩
    go_wp2_with fail
    go_ret
    exact ⟨ret_bool (by simp [truthB, h1', bne]), boxed (hb1.trans (hb2.mono hb1.size))⟩
set_option maxRecDepth 100000 in
set_option maxHeartbeats 800000 in
theorem truth_spec (k n : Int) (s : ByteArray) (w : World) :
    Calls Try.prog 65 #[.agg #[.int .i64 k, .int .i64 n, .string s]] w fun e w' => e = .returned (.bool (truthB k n)) ∧ Below w.heap.size w w' := by
  go_enter Try.func65, Try.ntmps65
  go_wp2
  all_goals
    go_ret
    exact ⟨ret_bool (by simp_all [truthB]), bel_alloc _ _⟩
end Go.Proofs.Ytbdpfmkpjeleaaa
