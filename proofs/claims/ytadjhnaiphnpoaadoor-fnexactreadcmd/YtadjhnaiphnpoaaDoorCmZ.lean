/- A command as the laws lay it: what may be asked of one, its measure, its copy, the question whether two are alike. -/
import Derived.Test.YtadjhnaiphnpoaaDoorCmP
import Derived.Test.YtadjhnaiphnpoaaDoorValU
namespace Go.Proofs.YtadjhnaiphnpoaaDoor
open Go.RowKit

/-- What may be asked of a command's cells. -/
structure CmdOk (s : ByteArray) (n : Int) (x : ByteArray) : Prop where
  n0 : -9223372036854775808 ≤ n
  n1 : n ≤ 9223372036854775807
  s1 : s.size ≤ maxLen
  x1 : x.size ≤ maxLen

set_option maxRecDepth 100000 in
set_option maxHeartbeats 800000 in
theorem szC_any (s : ByteArray) (n : Int) (x : ByteArray) (w : World) (ok : CmdOk s n x) :
    Calls Tryd.prog 19 #[.agg #[.string s, .int .i64 n, .string x], .int .i64 1048576] w fun e w' => (∃ r : Int, e = .returned (.int .i64 r) ∧ (¬ r < 0 → s.size ≤ 1048576 ∧ x.size ≤ 1048576)) ∧ Below w.heap.size w w' := by
  have h1 := ok.s1
  have h2 := ok.x1
  unfold maxLen at h1 h2
  by_cases ha : (1048576 : Int) - s.size < 0
  · go_enter Tryd.func19, Tryd.ntmps19
    go_wp2
    go_ret
    exact ⟨⟨-1, rfl, fun h => absurd h (by decide)⟩, bel_alloc _ _⟩
  · by_cases hc : (1048576 : Int) - s.size - x.size < 0
    · go_enter Tryd.func19, Tryd.ntmps19
      go_wp2
      go_ret
      exact ⟨⟨-1, rfl, fun h => absurd h (by decide)⟩, bel_alloc _ _⟩
    · go_enter Tryd.func19, Tryd.ntmps19
      go_wp2
      go_ret
      exact ⟨⟨_, rfl, fun h => ⟨by omega, by omega⟩⟩, bel_alloc _ _⟩

set_option maxRecDepth 100000 in
set_option maxHeartbeats 800000 in
theorem toC_any (s : ByteArray) (n : Int) (x : ByteArray) (w : World) :
    Calls Tryd.prog 21 #[.agg #[.string s, .int .i64 n, .string x]] w fun e w' => e = .returned (.agg #[.string s, .int .i64 n, .string x]) ∧ Below w.heap.size w w' := by
  go_enter Tryd.func21, Tryd.ntmps21
  go_wp2
  exact bodyPost_ret (v := .agg #[.string s, .int .i64 n, .string x]) (by simp [results, Tryd.results21, go_sem]) rfl ⟨rfl, by repeat (first | exact Below.refl _ _ | refine Below.setCell ?_ (by simp <;> omega) _ | refine Below.alloc ?_ (by simp <;> omega) _)⟩

set_option maxRecDepth 100000 in
set_option maxHeartbeats 800000 in
theorem eqC_same (s : ByteArray) (n : Int) (x : ByteArray) (w : World) :
    Calls Tryd.prog 25 #[.agg #[.string s, .int .i64 n, .string x], .agg #[.string s, .int .i64 n, .string x]] w fun e w' => e = .returned (.bool true) ∧ Below w.heap.size w w' := by
  go_enter Tryd.func25, Tryd.ntmps25
  go_wp2
  go_ret
  exact ⟨rfl, by repeat (first | exact Below.refl _ _ | refine Below.setCell ?_ (by simp <;> omega) _ | refine Below.alloc ?_ (by simp <;> omega) _)⟩
end Go.Proofs.YtadjhnaiphnpoaaDoor
