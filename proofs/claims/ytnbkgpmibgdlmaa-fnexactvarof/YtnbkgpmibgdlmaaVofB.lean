/- The cell of a slot: the program. -/
import Derived.Test.YtnbkgpmibgdlmaaVofA
namespace Go.Proofs.Ytnbkgpmibgdlmaa
open Go.RowKit

set_option maxRecDepth 100000 in
set_option maxHeartbeats 1600000 in
theorem cellIn_impl (nt nc ct cc : Nat) (ta ca sa : Option Addr) (sl : List Int) (sc lo hi : Nat) (k : Int) (w : World) (hh : hi ≤ w.heap.size) (hn : sl.length ≤ maxLen) (hm : nc ≤ maxLen) (hS : RowAt 1 IntC w lo hi sl sa) :
    Calls Try.prog 97 #[.agg #[.slice ta nt ct, .slice ca nc cc], .slice sa sl.length sc, .int .i64 k] w fun e w' => e = .returned (.tuple #[.int .i64 (cellI (cellAt nc sl k)), .bool (cellAt nc sl k).isSome]) ∧ Below w.heap.size w w' := by
  unfold maxLen at hn hm
  have wl : IntKind.i64.wrap ((sl.length : Int) - 1) = (sl.length : Int) - 1 := by rw [IntKind.wrap_i64]; omega
  have wc : IntKind.i64.wrap ((nc : Int) - 1) = (nc : Int) - 1 := by rw [IntKind.wrap_i64]; omega
  have B0 := bel_alloc w (Obj.cells #[.slice ta nt ct, .slice ca nc cc] 44)
  by_cases hp : 0 ≤ k ∧ k ≤ (sl.length : Int) - 1
  · obtain ⟨q, rfl⟩ : ∃ q : Nat, k = q := ⟨k.toNat, by omega⟩
    have hql : q < sl.length := by omega
    have HV := cellAt_in (nc := nc) hql
    obtain ⟨g, o, cs, rfl, _, hg, hI, _, hc⟩ := hS q hql
    obtain ⟨ok, rfl⟩ := hI
    have x0 := hc 0 (by decide)
    simp only [List.getElem?_cons_zero, Nat.one_mul, Nat.add_zero] at x0
    have hgw : g < w.heap.size := by omega
    have u0 : ∀ A : Obj, (w.alloc A).cell? ⟨g, o + q, none⟩ = _ := fun A => ((bel_alloc w A).cell (p := ⟨g, o + q, none⟩) hgw).trans x0
    have h1 : ∀ W, Calls Try.prog 95 #[.int .i64 (q : Int), .int .i64 0, .int .i64 ((sl.length : Int) - 1)] W fun e w' => e = .returned (.bool true) ∧ w' = W := fun W => (in_impl q 0 ((sl.length : Int) - 1) W).mono fun e w' h => by rw [show inR q 0 ((sl.length : Int) - 1) = true from decide_eq_true hp] at h; exact ⟨h.1, h.2.symm⟩
    clear hc hS x0
    generalize sl[q] = c at *
    by_cases hpc : 0 ≤ c ∧ c ≤ (nc : Int) - 1
    · rw [if_pos (by omega)] at HV
      have h2 : ∀ W, Calls Try.prog 95 #[.int .i64 c, .int .i64 0, .int .i64 ((nc : Int) - 1)] W fun e w' => e = .returned (.bool true) ∧ w' = W := fun W => (in_impl c 0 ((nc : Int) - 1) W).mono fun e w' h => by rw [show inR c 0 ((nc : Int) - 1) = true from decide_eq_true hpc] at h; exact ⟨h.1, h.2.symm⟩
      rw [HV]
      have hcc : cellI (some c.toNat) = c := by show ((c.toNat : Nat) : Int) = c; omega
      rw [hcc]
      clear HV hcc
      go_enter Try.func97, Try.ntmps97
      go_wp2_with fail
      go_quiet (first | (go_at_call 95; with_reducible refine Calls.quiet_of_same (h1 _)) | (go_at_call 95; with_reducible refine Calls.quiet_of_same (h2 _)))
      go_wp2_with fail
      exact bodyPost_ret (v := .tuple #[.int .i64 (c), .bool true]) (by simp [results, Try.results97, go_sem]) rfl ⟨rfl, ⟨B0.os, B0.tape, B0.output, B0.size, B0.block⟩⟩
    · rw [if_neg (by omega)] at HV
      have h2 : ∀ W, Calls Try.prog 95 #[.int .i64 c, .int .i64 0, .int .i64 ((nc : Int) - 1)] W fun e w' => e = .returned (.bool false) ∧ w' = W := fun W => (in_impl c 0 ((nc : Int) - 1) W).mono fun e w' h => by rw [show inR c 0 ((nc : Int) - 1) = false from decide_eq_false hpc] at h; exact ⟨h.1, h.2.symm⟩
      rw [HV]
      clear HV
      go_enter Try.func97, Try.ntmps97
      go_wp2_with fail
      go_quiet (first | (go_at_call 95; with_reducible refine Calls.quiet_of_same (h1 _)) | (go_at_call 95; with_reducible refine Calls.quiet_of_same (h2 _)))
      go_wp2_with fail
      exact bodyPost_ret (v := .tuple #[.int .i64 (-1), .bool false]) (by simp [results, Try.results97, go_sem]) rfl ⟨rfl, ⟨B0.os, B0.tape, B0.output, B0.size, B0.block⟩⟩
  · have HV := cellAt_out (nc := nc) (sl := sl) (k := k) (by omega)
    have h1 : ∀ W, Calls Try.prog 95 #[.int .i64 k, .int .i64 0, .int .i64 ((sl.length : Int) - 1)] W fun e w' => e = .returned (.bool false) ∧ w' = W := fun W => (in_impl k 0 ((sl.length : Int) - 1) W).mono fun e w' h => by rw [show inR k 0 ((sl.length : Int) - 1) = false from decide_eq_false hp] at h; exact ⟨h.1, h.2.symm⟩
    rw [HV]
    clear HV hS
    go_enter Try.func97, Try.ntmps97
    go_wp2_with fail
    go_quiet (first | (go_at_call 95; with_reducible refine Calls.quiet_of_same (h1 _)))
    go_wp2_with fail
    exact bodyPost_ret (v := .tuple #[.int .i64 (-1), .bool false]) (by simp [results, Try.results97, go_sem]) rfl ⟨rfl, ⟨B0.os, B0.tape, B0.output, B0.size, B0.block⟩⟩
end Go.Proofs.Ytnbkgpmibgdlmaa
