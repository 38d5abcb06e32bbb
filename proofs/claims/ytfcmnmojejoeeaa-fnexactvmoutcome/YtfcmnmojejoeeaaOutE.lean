/- Endings: found alike, marked, found marked. -/
import Derived.Test.YtfcmnmojejoeeaaOutP
import Derived.Test.YtfcmnmojejoeeaaVmE
import Derived.Test.YtfcmnmojejoeeaaOwJ
namespace Go.Proofs.Ytfcmnmojejoeeaa
open Go.RowKit

set_option maxRecDepth 100000 in
set_option maxHeartbeats 800000 in
theorem eqOutcome_same (x : OutcomeD) (cs cs' : List Value) (lo hi lo' hi' : Nat) (w : World) (hh : hi ≤ w.heap.size) (hh' : hi' ≤ w.heap.size) (hw : x.wt ≤ 2097152) (hC : OutcomeC w lo hi x cs) (hC' : OutcomeC w lo' hi' x cs') :
    Calls Try.prog 20 #[.agg cs.toArray, .agg cs'.toArray] w fun e w' => e = .returned (.bool true) ∧ Below w.heap.size w w' := by
  obtain ⟨ok, a_out, c_out, rfl, l_out, r_out⟩ := hC
  obtain ⟨n_ok, n_a_out, n_c_out, rfl, n_l_out, n_r_out⟩ := hC'
  unfold OutcomeD.wt at hw
  have B0 : ∀ A B : Obj, Below w.heap.size w ((w.alloc A).alloc B) := fun A B => (bel_alloc w A).trans ((bel_alloc _ B).mono (by simp))
  go_enter Try.func20, Try.ntmps20
  go_wp2_with fail
  refine (eqV_same x.value.k x.value.n x.value.s _).mono ?_
  rintro e w1 ⟨rfl, hb1⟩
  have hz1 : w.heap.size + 1 < w1.heap.size := by have := hb1.size; simp at this; omega
  have B1 : Below w.heap.size w w1 := (B0 _ _).trans (hb1.mono (by simp; omega))
  have hz1' : w.heap.size < w1.heap.size := by omega
  obtain ⟨hc1, hf1⟩ := bcell hb1
  go_wp2_with fail
  refine (eqStringS_same x.out a_out n_a_out c_out n_c_out lo hi lo' hi' w1 (Nat.le_trans hh B1.size) (Nat.le_trans hh' B1.size) (by omega) (r_out.below StrC_keeps B1 hh) (n_r_out.below StrC_keeps B1 hh')).mono ?_
  rintro e w2 ⟨rfl, hb2⟩
  have hz2 : w.heap.size + 1 < w2.heap.size := Nat.lt_of_lt_of_le hz1 hb2.size
  have B2 := B1.trans (hb2.mono B1.size)
  have hz2' : w.heap.size < w2.heap.size := by omega
  obtain ⟨hc2, hf2⟩ := bcell hb2
  go_wp2_with fail
  go_ret
  exact ⟨rfl, B2⟩
def Outcometn (x : OutcomeD) : Nat := 1 * x.out.length
def Outcometd (K : Nat) (x : OutcomeD) : OutcomeD := { x with out := mkF Stringmk 1 (K) x.out.length }
theorem Outcometd_own (x : OutcomeD) (ok : x.Ok) (N : Nat) (a_out : Option Addr) (c_out : Nat) (V : Nat → Nat → Prop) (S : Nat → Prop) (w : World) (pv : Parts V S) (l_out : x.out.length ≤ maxLen) (r_out : RowD 1 StrOwn w (V 0) (mkF Stringmk 1 (N) x.out.length) a_out) : OutcomeOwn w S (Outcometd N x) [.int .i64 x.kind, .int .i64 x.value.k, .int .i64 x.value.n, .string x.value.s, .slice a_out x.out.length c_out] := by
  have h_out : (Outcometd N x).out.length = x.out.length := mkF_len _ _ _ _
  exact ⟨⟨ok.kind, ok.value, (by rw [h_out]; exact l_out)⟩, V, pv, a_out, c_out, (by (rw [h_out]); try rfl), (by rw [h_out]; exact l_out), r_out⟩
set_option maxRecDepth 100000 in
set_option maxHeartbeats 4000000 in
theorem mkOutcome_any (x : OutcomeD) (cs : List Value) (K : Nat) (z : Int) (S : Nat → Prop) (w : World) (hS : ∀ b, S b → b < w.heap.size) (hO : OutcomeOwn w S x cs) (hz : z = K) (hK : 0 < K) (hn : K + Outcometn x ≤ 1099511627776) :
    Calls Try.prog 21 #[.agg cs.toArray, .int .i64 z] w fun e w' => e = .returned (.int .i64 ((K + Outcometn x : Nat) : Int)) ∧ OutcomeOwn w' S (Outcometd K x) cs ∧ Outs S w w' := by
  subst hz
  unfold Outcometn at hn ⊢
  obtain ⟨ok, V, pv, a_out, c_out, rfl, l_out, r_out⟩ := hO
  have hSw : ¬ S w.heap.size := fun h => absurd (hS _ h) (Nat.lt_irrefl _)
  have HS : Hid (∀ b, S b → b < w.heap.size) := hS
  have R0 : (w.alloc (Obj.cells #[.int .i64 x.kind, .int .i64 x.value.k, .int .i64 x.value.n, .string x.value.s, .slice a_out x.out.length c_out] 54)).heap[w.heap.size]? = some (Obj.cells #[.int .i64 x.kind, .int .i64 x.value.k, .int .i64 x.value.n, .string x.value.s, .slice a_out x.out.length c_out] 54) := heap_alloc_new _ _
  have O0 : Outs S w (w.alloc (Obj.cells #[.int .i64 x.kind, .int .i64 x.value.k, .int .i64 x.value.n, .string x.value.s, .slice a_out x.out.length c_out] 54)) := (Outs.refl S w).alloc _
  have s0 : (w.alloc (Obj.cells #[.int .i64 x.kind, .int .i64 x.value.k, .int .i64 x.value.n, .string x.value.s, .slice a_out x.out.length c_out] 54)).heap.size = w.heap.size + 1 := by simp
  have r_out := r_out.later StrOwn_keeps (w' := w.alloc (Obj.cells #[.int .i64 x.kind, .int .i64 x.value.k, .int .i64 x.value.n, .string x.value.s, .slice a_out x.out.length c_out] 54)) (fun _ h => h) (fun b hb => Below.heap_alloc _ _ _ (hS b (pv.within 0 b hb)))
  clear hS
  go_enter Try.func21, Try.ntmps21
  go_wp2_with fail
  obtain ⟨W0, hW0⟩ : ∃ W0, W0 = w.alloc (Obj.cells #[.int .i64 x.kind, .int .i64 x.value.k, .int .i64 x.value.n, .string x.value.s, .slice a_out x.out.length c_out] 54) := ⟨_, rfl⟩
  rw [← hW0] at R0 O0 s0 ⊢ r_out
  clear hW0
  have e0 := cell_of_row _ _ 0 _ _ _ R0
  have e1 := cell_of_row _ _ 1 _ _ _ R0
  have e2 := cell_of_row _ _ 2 _ _ _ R0
  have e3 := cell_of_row _ _ 3 _ _ _ R0
  have e4 := cell_of_row _ _ 4 _ _ _ R0
  simp only [List.getElem?_toArray, List.getElem?_cons_zero, List.getElem?_cons_succ] at e0 e1 e2 e3 e4
  go_wp2_with fail
  refine (mkStringS_any x.out a_out c_out (K) _ _ _ r_out (by push_cast; omega) (by omega) (by omega)).mono ?_
  rintro e w1 ⟨rfl, rN, oN⟩
  have R1 := (oN.block w.heap.size (by omega) (fun h => hSw (pv.within 0 _ h))).trans R0
  have O1 := O0.trans (oN.wide (pv.within 0))
  have s1 := oN.size
  have r_out := rN
  clear rN oN e0 e1 e2 e3 e4
  go_wp2_with fail
  go_ret
  exact ⟨ret_int (by push_cast; omega), Outcometd_own x ok K a_out c_out V S _ pv l_out r_out, O1⟩
set_option maxRecDepth 100000 in
set_option maxHeartbeats 4000000 in
theorem hdOutcome_any (x : OutcomeD) (cs : List Value) (K : Nat) (z : Int) (S : Nat → Prop) (w : World) (hS : ∀ b, S b → b < w.heap.size) (hO : OutcomeOwn w S (Outcometd K x) cs) (hz : z = K) (hK : 0 < K) (hn : K + Outcometn x ≤ 1099511627776) :
    Calls Try.prog 22 #[.agg cs.toArray, .int .i64 z] w fun e w' => e = .returned (.int .i64 ((K + Outcometn x : Nat) : Int)) ∧ Below w.heap.size w w' := by
  subst hz
  unfold Outcometn at hn ⊢
  obtain ⟨ok, V, pv, a_out, c_out, rfl, l_out, r_out⟩ := hO
  have h_out : (Outcometd K x).out.length = x.out.length := mkF_len _ _ _ _
  rw [h_out] at l_out
  rw [h_out]
  simp only [show (Outcometd K x).kind = x.kind from rfl, show (Outcometd K x).value = x.value from rfl]
  have R0 : (w.alloc (Obj.cells #[.int .i64 x.kind, .int .i64 x.value.k, .int .i64 x.value.n, .string x.value.s, .slice a_out x.out.length c_out] 54)).heap[w.heap.size]? = some (Obj.cells #[.int .i64 x.kind, .int .i64 x.value.k, .int .i64 x.value.n, .string x.value.s, .slice a_out x.out.length c_out] 54) := heap_alloc_new _ _
  have B0 : Below w.heap.size w (w.alloc (Obj.cells #[.int .i64 x.kind, .int .i64 x.value.k, .int .i64 x.value.n, .string x.value.s, .slice a_out x.out.length c_out] 54)) := bel_alloc _ _
  have s0 : (w.alloc (Obj.cells #[.int .i64 x.kind, .int .i64 x.value.k, .int .i64 x.value.n, .string x.value.s, .slice a_out x.out.length c_out] 54)).heap.size = w.heap.size + 1 := by simp
  have HS : Hid (∀ b, S b → b < w.heap.size) := hS
  have r_out : RowD 1 StrOwn w (V 0) (mkF Stringmk 1 (K) x.out.length) a_out := r_out
  have r_out := r_out.below StrOwn_keeps (fun b hb => hS b (pv.within 0 b hb)) B0
  clear hS
  go_enter Try.func22, Try.ntmps22
  go_wp2_with fail
  obtain ⟨W0, hW0⟩ : ∃ W0, W0 = w.alloc (Obj.cells #[.int .i64 x.kind, .int .i64 x.value.k, .int .i64 x.value.n, .string x.value.s, .slice a_out x.out.length c_out] 54) := ⟨_, rfl⟩
  rw [← hW0] at R0 B0 s0 ⊢ r_out
  clear hW0
  have e0 := cell_of_row _ _ 0 _ _ _ R0
  have e1 := cell_of_row _ _ 1 _ _ _ R0
  have e2 := cell_of_row _ _ 2 _ _ _ R0
  have e3 := cell_of_row _ _ 3 _ _ _ R0
  have e4 := cell_of_row _ _ 4 _ _ _ R0
  simp only [List.getElem?_toArray, List.getElem?_cons_zero, List.getElem?_cons_succ] at e0 e1 e2 e3 e4
  go_wp2_with fail
  refine (hdStringS_any x.out.length a_out c_out (K) _ _ _ r_out (by push_cast; omega) (by omega) (by omega)).mono ?_
  rintro e w1 ⟨rfl, hb1⟩
  have R1 := (hb1.block w.heap.size (by omega)).trans R0
  have B1 := B0.trans (hb1.mono B0.size)
  have s1 := hb1.size
  clear e0 e1 e2 e3 e4
  go_wp2_with fail
  go_ret
  exact ⟨ret_int (by push_cast; omega), B1⟩
end Go.Proofs.Ytfcmnmojejoeeaa
