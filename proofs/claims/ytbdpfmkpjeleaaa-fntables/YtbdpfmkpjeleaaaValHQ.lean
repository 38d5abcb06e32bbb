/- Reckoning: both functions' walks, one answer. -/
import Derived.Test.YtbdpfmkpjeleaaaValN
import Derived.Test.YtbdpfmkpjeleaaaHeapKN
namespace Go.Proofs.Ytbdpfmkpjeleaaa
open Go.RowKit

/-- What a sign gives of two numbers, and the word of refusal. -/
def divD (x y : Int) : Int := if x.tmod y ≠ 0 ∧ ¬ (decide (x < 0) = decide (y < 0)) then wrap64 (wrap64 (x.tdiv y) - 1) else wrap64 (x.tdiv y)

set_option maxRecDepth 100000 in
set_option maxHeartbeats 800000 in
theorem quot_spec (x y : Int) (w : World) (hy : y ≠ 0) :
    Calls Try.prog 82 #[.int .i64 x, .int .i64 y] w fun e w' => e = .returned (.int .i64 (divD x y)) ∧ w = w' := by
  go_enter Try.func82, Try.ntmps82
  go_wp2
  all_goals
    go_ret
    exact ⟨ret_int (by simp_all [divD]), rfl⟩

def wArith : ByteArray := ⟨#[97, 114, 105, 116, 104]⟩
def wDivide : ByteArray := ⟨#[100, 105, 118, 105, 100, 101]⟩
/-- What a sign gives of two numbers, and the word of refusal. -/
def arR (op : ByteArray) (x y : Int) : Int × ByteArray :=
  if (op.toList == [43]) = true then (wrap64 (x + y), ⟨#[]⟩) else if (op.toList == [45]) = true then (wrap64 (x - y), ⟨#[]⟩) else if (op.toList == [42]) = true then (wrap64 (x * y), ⟨#[]⟩) else
  if (op.toList == [47, 47]) = true then (if y = 0 then (0, wDivide) else (divD x y, ⟨#[]⟩)) else
  if (op.toList == [37]) = true then (if y = 0 then (0, wDivide) else (wrap64 (x - wrap64 (y * divD x y)), ⟨#[]⟩)) else (0, wArith)

/-- The answer of Arith at two values. -/
def arV (op : ByteArray) (ka x kb y : Int) : Value :=
  if ka = 2 ∧ kb = 2 then .tuple #[.agg #[.int .i64 (if (arR op x y).2 = ⟨#[]⟩ then 2 else 0), .int .i64 (arR op x y).1, .string ⟨#[]⟩], .string (arR op x y).2] else .tuple #[.agg #[.int .i64 0, .int .i64 0, .string ⟨#[]⟩], .string wArith]
theorem arV_no {op : ByteArray} {ka x kb y : Int} (h : ¬(ka = 2 ∧ kb = 2)) : arV op ka x kb y = .tuple #[nilB, .string wArith] := if_neg h
theorem arR_ref {op : ByteArray} {x y n : Int} {u : ByteArray} (h : arR op x y = (n, u)) (hu : u ≠ ⟨#[]⟩) : n = 0 := by
  have h1 : n = (arR op x y).1 := by rw [h]
  have h2 : u = (arR op x y).2 := by rw [h]
  subst h1 h2
  revert hu
  unfold arR
  repeat' split
  all_goals simp
theorem arV_num {op : ByteArray} {ka kb x y n : Int} (h2 : ka = 2 ∧ kb = 2) (h : arR op x y = (n, ⟨#[]⟩)) : arV op ka x kb y = .tuple #[numB n, .string ⟨#[]⟩] := by simp [arV, h, numB, h2]
theorem arV_ref {op : ByteArray} {ka kb x y : Int} {t : ByteArray} (h2 : ka = 2 ∧ kb = 2) (h : arR op x y = (0, t)) (ht : t ≠ ⟨#[]⟩) : arV op ka x kb y = .tuple #[nilB, .string t] := by simp [arV, h, ht, nilB, h2]
end Go.Proofs.Ytbdpfmkpjeleaaa
namespace Go.Proofs.Ytbdpfmkpjeleaaa
open Go.RowKit

set_option maxRecDepth 100000 in
set_option maxHeartbeats 1600000 in
theorem arith_spec (op : ByteArray) (ka x kb y : Int) (s t : ByteArray) (w : World) :
    Calls Try.prog 66 #[.string op, .agg #[.int .i64 ka, .int .i64 x, .string s], .agg #[.int .i64 kb, .int .i64 y, .string t]] w fun e w' => e = .returned (arV op ka x kb y) ∧ Below w.heap.size w w' := by
  have z0 : wrap64 0 = 0 := IntWalk.wrap64_in 0 ⟨by decide, by decide⟩
  by_cases hy : y = 0
  · subst hy
    go_enter Try.func66, Try.ntmps66
    go_wp2_with (go_at_call 67; refine (int_spec _ _).mono ?_; rintro e w1 ⟨rfl, hb⟩; obtain ⟨hc, hf⟩ := bcell hb; have hz : w.heap.size + 1 + 1 < w1.heap.size := (by have := hb.size; simp at this; omega); unfold numB)
    all_goals
      first
      | (refine bodyPost_ret (v := .tuple #[nilB, .string ⟨#[97, 114, 105, 116, 104]⟩]) ?_ rfl ⟨ret_val (Eq.symm ?_), ?_⟩; (simp [nilB, results, Try.results66, go_sem, *] <;> done); (apply arV_no; (simp_all <;> done)); (repeat (first | exact Below.refl _ _ | refine Below.setCell ?_ (by simp <;> omega) _ | refine Below.alloc ?_ (by simp <;> omega) _ | refine Below.trans ?_ (hb.mono (by simp <;> omega)))))
      | (refine bodyPost_ret (v := .tuple #[nilB, .string ⟨#[97, 114, 105, 116, 104]⟩]) ?_ rfl ⟨ret_val (Eq.symm ?_), ?_⟩; (simp [nilB, results, Try.results66, go_sem, *] <;> done); (refine arV_ref ?_ ?_ (by decide); (simp_all <;> done); (simp_all [arR, wArith] <;> done)); (repeat (first | exact Below.refl _ _ | refine Below.setCell ?_ (by simp <;> omega) _ | refine Below.alloc ?_ (by simp <;> omega) _ | refine Below.trans ?_ (hb.mono (by simp <;> omega)))))
      | (refine bodyPost_ret (v := .tuple #[nilB, .string ⟨#[100, 105, 118, 105, 100, 101]⟩]) ?_ rfl ⟨ret_val (Eq.symm ?_), ?_⟩; (simp [nilB, results, Try.results66, go_sem, *] <;> done); (refine arV_ref ?_ ?_ (by decide); (simp_all <;> done); (simp_all [arR, wDivide] <;> done)); (repeat (first | exact Below.refl _ _ | refine Below.setCell ?_ (by simp <;> omega) _ | refine Below.alloc ?_ (by simp <;> omega) _ | refine Below.trans ?_ (hb.mono (by simp <;> omega)))))
      | (refine bodyPost_ret (v := .tuple #[numB (wrap64 x), .string ⟨#[]⟩]) ?_ rfl ⟨ret_val (Eq.symm ?_), ?_⟩; (simp [numB, results, Try.results66, go_sem, *] <;> done); (refine arV_num ?_ ?_; (simp_all <;> done); (simp_all [arR] <;> done)); (repeat (first | exact Below.refl _ _ | refine Below.setCell ?_ (by simp <;> omega) _ | refine Below.alloc ?_ (by simp <;> omega) _ | refine Below.trans ?_ (hb.mono (by simp <;> omega)))))
      | (refine bodyPost_ret (v := .tuple #[numB 0, .string ⟨#[]⟩]) ?_ rfl ⟨ret_val (Eq.symm ?_), ?_⟩; (simp [numB, results, Try.results66, go_sem, *] <;> done); (refine arV_num ?_ ?_; (simp_all <;> done); (simp_all [arR] <;> done)); (repeat (first | exact Below.refl _ _ | refine Below.setCell ?_ (by simp <;> omega) _ | refine Below.alloc ?_ (by simp <;> omega) _ | refine Below.trans ?_ (hb.mono (by simp <;> omega)))))
  · go_enter Try.func66, Try.ntmps66
    go_wp2_with (first | (go_at_call 67; refine (int_spec _ _).mono ?_; rintro e w1 ⟨rfl, hb⟩; obtain ⟨hc, hf⟩ := bcell hb; have hz : w.heap.size + 1 + 1 < w1.heap.size := (by have := hb.size; simp at this; omega); unfold numB) | (go_at_call 82; refine (quot_spec _ _ _ hy).mono ?_; rintro e w' ⟨rfl, rfl⟩))
    all_goals
      first
      | (refine bodyPost_ret (v := .tuple #[nilB, .string ⟨#[97, 114, 105, 116, 104]⟩]) ?_ rfl ⟨ret_val (Eq.symm ?_), ?_⟩; (simp [nilB, results, Try.results66, go_sem, *] <;> done); (apply arV_no; (simp_all <;> done)); (repeat (first | exact Below.refl _ _ | refine Below.setCell ?_ (by simp <;> omega) _ | refine Below.alloc ?_ (by simp <;> omega) _ | refine Below.trans ?_ (hb.mono (by simp <;> omega)))))
      | (refine bodyPost_ret (v := .tuple #[nilB, .string ⟨#[97, 114, 105, 116, 104]⟩]) ?_ rfl ⟨ret_val (Eq.symm ?_), ?_⟩; (simp [nilB, results, Try.results66, go_sem, *] <;> done); (refine arV_ref ?_ ?_ (by decide); (simp_all <;> done); (simp_all [arR, wArith] <;> done)); (repeat (first | exact Below.refl _ _ | refine Below.setCell ?_ (by simp <;> omega) _ | refine Below.alloc ?_ (by simp <;> omega) _ | refine Below.trans ?_ (hb.mono (by simp <;> omega)))))
      | (refine bodyPost_ret (v := .tuple #[numB (wrap64 (x + y)), .string ⟨#[]⟩]) ?_ rfl ⟨ret_val (Eq.symm ?_), ?_⟩; (simp [numB, results, Try.results66, go_sem, *] <;> done); (refine arV_num ?_ ?_; (simp_all <;> done); (simp_all [arR] <;> done)); (repeat (first | exact Below.refl _ _ | refine Below.setCell ?_ (by simp <;> omega) _ | refine Below.alloc ?_ (by simp <;> omega) _ | refine Below.trans ?_ (hb.mono (by simp <;> omega)))))
      | (refine bodyPost_ret (v := .tuple #[numB (wrap64 (x - y)), .string ⟨#[]⟩]) ?_ rfl ⟨ret_val (Eq.symm ?_), ?_⟩; (simp [numB, results, Try.results66, go_sem, *] <;> done); (refine arV_num ?_ ?_; (simp_all <;> done); (simp_all [arR] <;> done)); (repeat (first | exact Below.refl _ _ | refine Below.setCell ?_ (by simp <;> omega) _ | refine Below.alloc ?_ (by simp <;> omega) _ | refine Below.trans ?_ (hb.mono (by simp <;> omega)))))
      | (refine bodyPost_ret (v := .tuple #[numB (wrap64 (x * y)), .string ⟨#[]⟩]) ?_ rfl ⟨ret_val (Eq.symm ?_), ?_⟩; (simp [numB, results, Try.results66, go_sem, *] <;> done); (refine arV_num ?_ ?_; (simp_all <;> done); (simp_all [arR] <;> done)); (repeat (first | exact Below.refl _ _ | refine Below.setCell ?_ (by simp <;> omega) _ | refine Below.alloc ?_ (by simp <;> omega) _ | refine Below.trans ?_ (hb.mono (by simp <;> omega)))))
      | (refine bodyPost_ret (v := .tuple #[numB (divD x y), .string ⟨#[]⟩]) ?_ rfl ⟨ret_val (Eq.symm ?_), ?_⟩; (simp [numB, results, Try.results66, go_sem, *] <;> done); (refine arV_num ?_ ?_; (simp_all <;> done); (simp_all [arR] <;> done)); (repeat (first | exact Below.refl _ _ | refine Below.setCell ?_ (by simp <;> omega) _ | refine Below.alloc ?_ (by simp <;> omega) _ | refine Below.trans ?_ (hb.mono (by simp <;> omega)))))
      | (refine bodyPost_ret (v := .tuple #[numB (wrap64 (x - wrap64 (y * divD x y))), .string ⟨#[]⟩]) ?_ rfl ⟨ret_val (Eq.symm ?_), ?_⟩; (simp [numB, results, Try.results66, go_sem, *] <;> done); (refine arV_num ?_ ?_; (simp_all <;> done); (simp_all [arR] <;> done)); (repeat (first | exact Below.refl _ _ | refine Below.setCell ?_ (by simp <;> omega) _ | refine Below.alloc ?_ (by simp <;> omega) _ | refine Below.trans ?_ (hb.mono (by simp <;> omega)))))
end Go.Proofs.Ytbdpfmkpjeleaaa
namespace Go.Proofs.Ytbdpfmkpjeleaaa
open Go.RowKit

theorem arR_neg (n : Int) : arR ⟨#[45]⟩ 0 n = (wrap64 (-n), ⟨#[]⟩) := by simp [arR]
set_option maxRecDepth 100000 in
set_option maxHeartbeats 6400000 in
theorem un_spec (op : ByteArray) (h : Hp) (a b : Option Addr) (ca cb lo hi N : Nat) (k n : Int) (s : ByteArray) (w : World) (hh : hi ≤ w.heap.size) (hT : TAt w lo hi h.ts a) (hwt : h.wt ≤ 1048576) (hR : tabB h.ts.length k n = true → RowIs (h.ts[n.toNat]?.getD []) N) :
    Calls Try.prog 27 #[.string op, .agg #[.slice a h.ts.length ca, .slice b h.vs.length cb], .agg #[.int .i64 k, .int .i64 n, .string s]] w fun e w' => e = .returned (unV op h.ts.length k n s N) ∧ Below w.heap.size w w' := by
  obtain ⟨W0, hW0⟩ : ∃ W0, W0 = ((w.alloc (Obj.cells #[.slice a h.ts.length ca, .slice b h.vs.length cb] 30)).alloc (Obj.cells #[.int .i64 k, .int .i64 n, .string s] 32)).alloc (Obj.cells #[.int .i64 0, .int .i64 0, .string ⟨#[]⟩] 32) := ⟨_, rfl⟩
  obtain ⟨rA, rB, rZ, hs0, B0⟩ := rows3 w (Obj.cells #[.slice a h.ts.length ca, .slice b h.vs.length cb] 30) (Obj.cells #[.int .i64 k, .int .i64 n, .string s] 32) (Obj.cells #[.int .i64 0, .int .i64 0, .string ⟨#[]⟩] 32)
  rw [← hW0] at rA rB rZ hs0 B0
  have CF : Hid (∀ W, Below W0.heap.size W0 W → W.cell? ⟨w.heap.size, 0, none⟩ = some (.slice a h.ts.length ca) ∧ W.cell? ⟨w.heap.size, 1, none⟩ = some (.slice b h.vs.length cb) ∧ W.cell? ⟨w.heap.size + 1, 0, none⟩ = some (.int .i64 k) ∧ W.cell? ⟨w.heap.size + 1, 1, none⟩ = some (.int .i64 n) ∧ W.cell? ⟨w.heap.size + 1, 2, none⟩ = some (.string s) ∧ W.frozen? ⟨w.heap.size + 1 + 1, 0, none⟩ = false ∧ W.frozen? ⟨w.heap.size + 1 + 1, 1, none⟩ = false ∧ W.frozen? ⟨w.heap.size + 1 + 1, 2, none⟩ = false ∧ W.cell? ⟨w.heap.size + 1 + 1, 0, none⟩ = some (.int .i64 0) ∧ W.cell? ⟨w.heap.size + 1 + 1, 1, none⟩ = some (.int .i64 0) ∧ W.cell? ⟨w.heap.size + 1 + 1, 2, none⟩ = some (.string ⟨#[]⟩)) := fun W hW => by
    have q1 := (hW.block w.heap.size (by omega)).trans rA
    have q2 := (hW.block (w.heap.size + 1) (by omega)).trans rB
    have q3 := (hW.block (w.heap.size + 1 + 1) (by omega)).trans rZ
    exact ⟨cell_of_row _ _ 0 _ _ _ q1, cell_of_row _ _ 1 _ _ _ q1, cell_of_row _ _ 0 _ _ _ q2, cell_of_row _ _ 1 _ _ _ q2, cell_of_row _ _ 2 _ _ _ q2, rowZ' q3⟩
  clear rA rB rZ
  by_cases h1 : (op.toList == [110, 111, 116]) = true
  · obtain ⟨tv, htv⟩ : ∃ tv, truthB k n = tv := ⟨_, rfl⟩
    have HTR : Hid (∀ W, Calls Try.prog 65 #[.agg #[.int .i64 k, .int .i64 n, .string s]] W fun e w' => e = .returned (.bool tv) ∧ Below W.heap.size W w') := fun W => htv ▸ truth_spec k n s W
    have HV : Hid (unV op h.ts.length k n s N = .tuple #[.agg #[.int .i64 1, .int .i64 (if !tv then 1 else 0), .string ⟨#[]⟩], .string ⟨#[]⟩]) := by show _ = _; unfold unV; rw [if_pos h1, htv]
    clear htv
    cases tv
    · go_enter Try.func27, Try.ntmps27
      go_wp2_with fail
      refine (HTR.out _).mono ?_
      rw [← hW0]
      clear hW0
      rintro e w1 ⟨rfl, hb1⟩
      have Q1 : Below W0.heap.size W0 w1 := hb1
      have B1 := B0.trans (Q1.mono B0.size)
      obtain ⟨c0, c1, c2, c3, c4, f0, f1, f2, z0, z1, z2⟩ := CF.out _ Q1
      go_wp2_with fail
      refine (boolS_any _ _).mono ?_
      rintro e w2 ⟨rfl, hb2⟩
      have Q2 : Below W0.heap.size W0 w2 := Q1.trans (hb2.mono Q1.size)
      have B2 := B0.trans (Q2.mono B0.size)
      clear c0 c1 c2 c3 c4 f0 f1 f2 z0 z1 z2
      obtain ⟨c0, c1, c2, c3, c4, f0, f1, f2, z0, z1, z2⟩ := CF.out _ Q2
      go_wp2_with fail
      exact bodyPost_ret (v := .tuple #[.agg #[.int .i64 1, .int .i64 1, .string ⟨#[]⟩], .string ⟨#[]⟩]) (by simp [results, Try.results27, go_sem, *]) rfl ⟨ret_val (by rw [HV.out]; rfl), by repeat (first | (with_reducible exact B2) | (with_reducible refine Below.drew ?_) | (with_reducible refine Below.setCell ?_ (by show w.heap.size ≤ w.heap.size + 1 + 1; omega) _))⟩
    · go_enter Try.func27, Try.ntmps27
      go_wp2_with fail
      refine (HTR.out _).mono ?_
      rw [← hW0]
      clear hW0
      rintro e w1 ⟨rfl, hb1⟩
      have Q1 : Below W0.heap.size W0 w1 := hb1
      have B1 := B0.trans (Q1.mono B0.size)
      obtain ⟨c0, c1, c2, c3, c4, f0, f1, f2, z0, z1, z2⟩ := CF.out _ Q1
      go_wp2_with fail
      refine (boolS_any _ _).mono ?_
      rintro e w2 ⟨rfl, hb2⟩
      have Q2 : Below W0.heap.size W0 w2 := Q1.trans (hb2.mono Q1.size)
      have B2 := B0.trans (Q2.mono B0.size)
      clear c0 c1 c2 c3 c4 f0 f1 f2 z0 z1 z2
      obtain ⟨c0, c1, c2, c3, c4, f0, f1, f2, z0, z1, z2⟩ := CF.out _ Q2
      go_wp2_with fail
      exact bodyPost_ret (v := .tuple #[.agg #[.int .i64 1, .int .i64 0, .string ⟨#[]⟩], .string ⟨#[]⟩]) (by simp [results, Try.results27, go_sem, *]) rfl ⟨ret_val (by rw [HV.out]; rfl), by repeat (first | (with_reducible exact B2) | (with_reducible refine Below.drew ?_) | (with_reducible refine Below.setCell ?_ (by show w.heap.size ≤ w.heap.size + 1 + 1; omega) _))⟩
  · simp only [Bool.not_eq_true] at h1
    by_cases h2 : (op.toList == [45]) = true
    · obtain ⟨ak, an, au, hA⟩ : ∃ ak an au, arV ⟨#[45]⟩ 2 0 k n = .tuple #[.agg #[.int .i64 ak, .int .i64 an, .string ⟨#[]⟩], .string au] ∧ unV op h.ts.length k n s N = .tuple #[.agg #[.int .i64 ak, .int .i64 an, .string ⟨#[]⟩], .string au] := by
        by_cases hk : k = 2
        · exact ⟨2, _, _, arV_num ⟨rfl, hk⟩ (arR_neg n), by unfold unV; rw [if_neg (by simp [h1]), if_pos h2, if_pos hk]⟩
        · exact ⟨0, 0, _, arV_no (fun h => hk h.2), by unfold unV; rw [if_neg (by simp [h1]), if_pos h2, if_neg hk]; rfl⟩
      have HV : Hid (unV op h.ts.length k n s N = .tuple #[.agg #[.int .i64 ak, .int .i64 an, .string ⟨#[]⟩], .string au]) := hA.2
      have HAR : Hid (∀ W, Calls Try.prog 66 #[.string ⟨#[45]⟩, .agg #[.int .i64 2, .int .i64 0, .string ⟨#[]⟩], .agg #[.int .i64 k, .int .i64 n, .string s]] W fun e w' => e = .returned (.tuple #[.agg #[.int .i64 ak, .int .i64 an, .string ⟨#[]⟩], .string au]) ∧ Below W.heap.size W w') := fun W => hA.1 ▸ arith_spec ⟨#[45]⟩ 2 0 k n ⟨#[]⟩ s W
      clear hA hT hR
      go_enter Try.func27, Try.ntmps27
      go_wp2_with fail
      rw [← hW0]
      clear hW0
      obtain ⟨c0, c1, c2, c3, c4, f0, f1, f2, z0, z1, z2⟩ := CF.out _ (Below.refl _ _)
      have n1 : w.heap.size + 1 < W0.heap.size := by omega
      go_region_held3 (fun w' => w'.cell? ⟨w.heap.size + 1, 0, none⟩ = some (.int .i64 k) ∧ w'.cell? ⟨w.heap.size + 1, 1, none⟩ = some (.int .i64 n) ∧ w'.cell? ⟨w.heap.size + 1, 2, none⟩ = some (.string s)) (go_keep) (first | (go_at_call 67; refine (int_spec _ _).mono ?_; rintro e w' ⟨rfl, hb'⟩; unfold numB; have hq' := (Below.refl W0.heap.size W0).drew.trans hb'; clear c0 c1 c2 c3 c4 f0 f1 f2 z0 z1 z2; obtain ⟨c0, c1, c2, c3, c4, f0, f1, f2, z0, z1, z2⟩ := CF.out _ hq') | (go_at_call 66; refine (HAR.out _).mono ?_; rintro e w'' ⟨rfl, hb''⟩; have hq'' := hq'.trans (hb''.mono hq'.size); clear c0 c1 c2 c3 c4 f0 f1 f2 z0 z1 z2; obtain ⟨c0, c1, c2, c3, c4, f0, f1, f2, z0, z1, z2⟩ := CF.out _ hq''))
      have BQ := B0.trans (hq''.mono B0.size)
      go_wp2_with fail
      exact bodyPost_ret (v := .tuple #[.agg #[.int .i64 ak, .int .i64 an, .string ⟨#[]⟩], .string au]) (by simp [results, Try.results27, go_sem, *]) rfl ⟨ret_val HV.out.symm, by repeat (first | (with_reducible exact BQ) | (with_reducible refine Below.drew ?_) | (with_reducible refine Below.setCell ?_ (by show w.heap.size ≤ w.heap.size + 1 + 1; omega) _))⟩
    · simp only [Bool.not_eq_true] at h2
      by_cases h3 : (op.toList == [35]) = true
      · by_cases hk : k = 3
        · subst hk
          go_enter Try.func27, Try.ntmps27
          go_wp2_with fail
          refine (int_spec _ _).mono ?_
          rw [← hW0]
          clear hW0
          rintro e w1 ⟨rfl, hb1⟩
          unfold numB
          have Q1 : Below W0.heap.size W0 w1 := hb1
          have B1 := B0.trans (Q1.mono B0.size)
          obtain ⟨c0, c1, c2, c3, c4, f0, f1, f2, z0, z1, z2⟩ := CF.out _ Q1
          go_wp2_with fail
          exact bodyPost_ret (v := .tuple #[.agg #[.int .i64 2, .int .i64 s.size, .string ⟨#[]⟩], .string ⟨#[]⟩]) (by simp [results, Try.results27, go_sem, *]) rfl ⟨ret_val (by unfold unV lenR; rw [if_neg (by simp [h1]), if_neg (by simp [h2]), if_pos h3]; simp), by repeat (first | (with_reducible exact B1) | (with_reducible refine Below.drew ?_) | (with_reducible refine Below.setCell ?_ (by show w.heap.size ≤ w.heap.size + 1 + 1; omega) _))⟩
        · have hk' : (k == 3) = false := by simpa using hk
          obtain ⟨tb, htb⟩ : ∃ tb, tabB h.ts.length k n = tb := ⟨_, rfl⟩
          have HTB : Hid (∀ W, Calls Try.prog 49 #[.agg #[.slice a h.ts.length ca, .slice b h.vs.length cb], .agg #[.int .i64 k, .int .i64 n, .string s]] W fun e w' => e = .returned (.bool tb) ∧ Below W.heap.size W w') := fun W => htb ▸ table_spec a b h.ts.length ca h.vs.length cb k n s W (by have := len_wtT h.ts; unfold Hp.wt at hwt; unfold maxLen; omega)
          cases tb
          · have HV : Hid (unV op h.ts.length k n s N = .tuple #[nilB, .string ⟨#[108, 101, 110, 103, 116, 104]⟩]) := by show _ = _; unfold unV lenR; rw [if_neg (by simp [h1]), if_neg (by simp [h2]), if_pos h3, if_neg hk, if_neg (by simp [htb])]
            clear hT hR htb
            go_enter Try.func27, Try.ntmps27
            go_wp2_with fail
            refine (HTB.out _).mono ?_
            rw [← hW0]
            clear hW0
            rintro e w1 ⟨rfl, hb1⟩
            have Q1 : Below W0.heap.size W0 w1 := hb1
            have B1 := B0.trans (Q1.mono B0.size)
            obtain ⟨c0, c1, c2, c3, c4, f0, f1, f2, z0, z1, z2⟩ := CF.out _ Q1
            go_wp2_with fail
            exact bodyPost_ret (v := .tuple #[.agg #[.int .i64 0, .int .i64 0, .string ⟨#[]⟩], .string ⟨#[108, 101, 110, 103, 116, 104]⟩]) (by simp [results, Try.results27, go_sem, *]) rfl ⟨ret_val (by rw [HV.out]; rfl), by repeat (first | (with_reducible exact B1) | (with_reducible refine Below.drew ?_) | (with_reducible refine Below.setCell ?_ (by show w.heap.size ≤ w.heap.size + 1 + 1; omega) _))⟩
          · have HV : Hid (unV op h.ts.length k n s N = .tuple #[.agg #[.int .i64 2, .int .i64 N, .string ⟨#[]⟩], .string ⟨#[]⟩]) := by show _ = _; unfold unV lenR; rw [if_neg (by simp [h1]), if_neg (by simp [h2]), if_pos h3, if_neg hk, if_pos htb]; simp
            obtain ⟨rfl, hn0, hn1⟩ : k = 4 ∧ 0 ≤ n ∧ n < (h.ts.length : Int) := by simpa [tabB] using htb
            obtain ⟨i, rfl⟩ := Int.eq_ofNat_of_zero_le hn0
            have hi1 : i < h.ts.length := by omega
            have hRow := hR htb
            rw [show ((i : Int)).toNat = i by omega, List.getElem?_eq_getElem hi1, Option.getD_some] at hRow
            obtain ⟨hlt, g, o, pb, pcb, rfl, _, hg, hcell, hP⟩ := hT i hi1
            have hwm := wtT_mem h.ts i hi1
            have hlw : wtT h.ts ≤ h.wt := by unfold Hp.wt; omega
            have HF : Hid (∀ (W : World) (m : Int), Below W0.heap.size W0 W → Calls Try.prog 58 #[.slice pb h.ts[i].length pcb, .agg #[.int .i64 2, .int .i64 m, .string ⟨#[]⟩]] W fun e w' => (∃ x y z, e = .returned (.tuple #[.agg #[.int .i64 x, .int .i64 y, .string z], .bool (hasK h.ts[i] m)])) ∧ Below W.heap.size W w') := fun W m hW => (find_spec h.ts[i] pb pcb lo hi 2 m ⟨#[]⟩ W (by have := hW.size; have := B0.size; omega) hlt ((hP.below B0 hh).below hW (by have := B0.size; omega))).mono (by rintro e w' ⟨rfl, hb⟩; exact ⟨⟨_, _, _, by rw [findV_has]; rfl⟩, hb⟩)
            have y0 := (B0.cell (p := ⟨g, o + i, none⟩) (by show g < _; omega)).trans hcell
            have hgl : g < W0.heap.size := by have := B0.size; omega
            have i0 : (0 : Int) ≤ (i : Int) := by omega
            have i1 : (i : Int) < (h.ts.length : Int) := by omega
            have hNl : N ≤ 1048576 := by have := hRow.le; omega
            clear hP hcell hT hR hwm hlt hn0 hn1
            obtain ⟨t, ht⟩ : ∃ t, t = h.ts[i] := ⟨_, rfl⟩
            rw [← ht] at HF hRow y0
            clear ht
            go_enter Try.func27, Try.ntmps27
            go_wp2_with fail
            refine (HTB.out _).mono ?_
            rw [← hW0]
            clear hW0
            rintro e w1 ⟨rfl, hb1⟩
            have Q1 : Below W0.heap.size W0 w1 := hb1
            have B1 := B0.trans (Q1.mono B0.size)
            obtain ⟨c0, c1, c2, c3, c4, f0, f1, f2, z0, z1, z2⟩ := CF.out _ Q1
            go_wp2_with fail
            clear c0 c1 c2 c3 c4 f0 f1 f2 z0 z1 z2
            go_loopw [8] (fun x wr => ∃ r : Nat, x = .int .i64 r ∧ r ≤ N ∧ Below W0.heap.size W0 wr) (fun x _ => N - (intOf x).toNat)
            case atStart => exact ⟨0, rfl, Nat.zero_le _, Q1⟩
            case round =>
              obtain ⟨r, rfl, hrN, hbl⟩ := hrel
              obtain ⟨c0, c1, c2, c3, c4, f0, f1, f2, z0, z1, z2⟩ := CF.out _ hbl
              have y1 := (hbl.cell (p := ⟨g, o + i, none⟩) hgl).trans y0
              have q0 : w.heap.size < wr.heap.size := by have := hbl.size; omega
              have q1 : w.heap.size + 1 < wr.heap.size := by have := hbl.size; omega
              have q2 : g < wr.heap.size := by have := hbl.size; omega
              have KEEP : Hid (∀ W : World, Below W0.heap.size W0 W → (fun w' => Below W0.heap.size W0 w' ∧ w'.cell? ⟨w.heap.size, 0, none⟩ = some (.slice (some ⟨g, o, none⟩) h.ts.length ca) ∧ w'.cell? ⟨w.heap.size + 1, 1, none⟩ = some (.int .i64 i) ∧ w'.cell? ⟨g, o + i, none⟩ = some (.slice pb t.length pcb)) W) := fun W hW => ⟨hW, (CF.out W hW).1, (CF.out W hW).2.2.2.1, (hW.cell (p := ⟨g, o + i, none⟩) hgl).trans y0⟩
              have hq0 : Below W0.heap.size W0 wr.drew := hbl.drew
              clear c0 c1 c2 c3 c4 f0 f1 f2 z0 z1 z2
              clear y1
              have hwr : IntKind.i64.wrap ((r : Int) + 1) = (r : Int) + 1 := by rw [IntKind.wrap_i64]; omega
              by_cases hlt : r < N
              · have hbk := hRow.all (r + 1) (by omega) (by omega)
                rw [show ((r + 1 : Nat) : Int) = (r : Int) + 1 by omega] at hbk
                have HFr : Hid (∀ (W : World) (m : Int), m = (r : Int) + 1 → Below W0.heap.size W0 W → Calls Try.prog 58 #[.slice pb t.length pcb, .agg #[.int .i64 2, .int .i64 m, .string ⟨#[]⟩]] W fun e w' => (∃ x y z, e = .returned (.tuple #[.agg #[.int .i64 x, .int .i64 y, .string z], .bool true])) ∧ Below W.heap.size W w') := fun W m hm hW => hm.symm ▸ hbk ▸ HF.out W ((r : Int) + 1) hW
                clear hbk
                go_wp2_with fail
                go_region_held3 (fun w' => Below W0.heap.size W0 w' ∧ w'.cell? ⟨w.heap.size, 0, none⟩ = some (.slice (some ⟨g, o, none⟩) h.ts.length ca) ∧ w'.cell? ⟨w.heap.size + 1, 1, none⟩ = some (.int .i64 i) ∧ w'.cell? ⟨g, o + i, none⟩ = some (.slice pb t.length pcb)) (first | (with_reducible assumption) | exact KEEP.out _ (by with_reducible assumption) | exact KEEP.out _ (bel_al (by with_reducible assumption) _) | exact KEEP.out _ (bel_s3 (by with_reducible assumption) (by first | exact bel_sz (by assumption) | omega))) (first | (go_at_call 67; refine (int_spec _ _).mono ?_; rintro e w' ⟨rfl, hb'⟩; unfold numB; have hq' := bel_step (by assumption) hb'; obtain ⟨hc', hf'⟩ := bcell hb'; have ht' := fun (b : Nat) h => Nat.lt_of_lt_of_le (n := b) h hb'.size; (first | (have hu' := fun (b : Nat) h => ht' b (hu' b h)) | (have hu' := ht')); (first | (have hzc' := zc_b hzc' hb') | (have hzc' := zc_first hb') | (have hzc' := zc_first' hb') | skip); have hs' := hb'.size; (try simp at hs')) | (go_at_call 58; (first | refine (HFr.out _ _ (by first | exact hwr | rfl) (by with_reducible assumption)).mono ?_ | refine (HFr.out _ _ (by first | exact hwr | rfl) (bel_al (by with_reducible assumption) _)).mono ?_); rintro e w' ⟨⟨fx, fy, fz, rfl⟩, hb'⟩; have hq' := bel_step (by assumption) hb'; obtain ⟨hc', hf'⟩ := bcell hb'; have ht' := fun (b : Nat) h => Nat.lt_of_lt_of_le (n := b) h hb'.size; (first | (have hu' := fun (b : Nat) h => ht' b (hu' b h)) | (have hu' := ht')); (first | (have hzc' := zc_b hzc' hb') | (have hzc' := zc_first hb') | (have hzc' := zc_first' hb') | skip); have hs' := hb'.size; (try simp at hs')))
                all_goals
                  go_wp2_with fail
                  go_roundw
                  case rel => exact ⟨r + 1, by go_num, by omega, bel_of (by assumption)⟩
                  case measure => simp [intOf]; omega
              · obtain rfl : r = N := by omega
                have HFr : Hid (∀ (W : World) (m : Int), m = (r : Int) + 1 → Below W0.heap.size W0 W → Calls Try.prog 58 #[.slice pb t.length pcb, .agg #[.int .i64 2, .int .i64 m, .string ⟨#[]⟩]] W fun e w' => (∃ x y z, e = .returned (.tuple #[.agg #[.int .i64 x, .int .i64 y, .string z], .bool false])) ∧ Below W.heap.size W w') := fun W m hm hW => hm.symm ▸ hRow.no ▸ HF.out W ((r : Int) + 1) hW
                go_wp2_with fail
                go_region_held3 (fun w' => Below W0.heap.size W0 w' ∧ w'.cell? ⟨w.heap.size, 0, none⟩ = some (.slice (some ⟨g, o, none⟩) h.ts.length ca) ∧ w'.cell? ⟨w.heap.size + 1, 1, none⟩ = some (.int .i64 i) ∧ w'.cell? ⟨g, o + i, none⟩ = some (.slice pb t.length pcb)) (first | (with_reducible assumption) | exact KEEP.out _ (by with_reducible assumption) | exact KEEP.out _ (bel_al (by with_reducible assumption) _) | exact KEEP.out _ (bel_s3 (by with_reducible assumption) (by first | exact bel_sz (by assumption) | omega))) (first | (go_at_call 67; refine (int_spec _ _).mono ?_; rintro e w' ⟨rfl, hb'⟩; unfold numB; have hq' := bel_step (by assumption) hb'; obtain ⟨hc', hf'⟩ := bcell hb'; have ht' := fun (b : Nat) h => Nat.lt_of_lt_of_le (n := b) h hb'.size; (first | (have hu' := fun (b : Nat) h => ht' b (hu' b h)) | (have hu' := ht')); (first | (have hzc' := zc_b hzc' hb') | (have hzc' := zc_first hb') | (have hzc' := zc_first' hb') | skip); have hs' := hb'.size; (try simp at hs')) | (go_at_call 58; (first | refine (HFr.out _ _ (by first | exact hwr | rfl) (by with_reducible assumption)).mono ?_ | refine (HFr.out _ _ (by first | exact hwr | rfl) (bel_al (by with_reducible assumption) _)).mono ?_); rintro e w' ⟨⟨fx, fy, fz, rfl⟩, hb'⟩; have hq' := bel_step (by assumption) hb'; obtain ⟨hc', hf'⟩ := bcell hb'; have ht' := fun (b : Nat) h => Nat.lt_of_lt_of_le (n := b) h hb'.size; (first | (have hu' := fun (b : Nat) h => ht' b (hu' b h)) | (have hu' := ht')); (first | (have hzc' := zc_b hzc' hb') | (have hzc' := zc_first hb') | (have hzc' := zc_first' hb') | skip); have hs' := hb'.size; (try simp at hs')))
                all_goals
                  go_wp2_with fail
                  refine (int_spec _ _).mono ?_
                  rintro e w9 ⟨rfl, hb9⟩
                  unfold numB
                  have Q9 : Below W0.heap.size W0 w9 := bel_step (by assumption) hb9
                  have B9 := B0.trans (Q9.mono B0.size)
                  obtain ⟨c0, c1, c2, c3, c4, f0, f1, f2, z0, z1, z2⟩ := CF.out _ Q9
                  go_wp2_with fail
                  exact bodyPost_ret (v := .tuple #[.agg #[.int .i64 2, .int .i64 r, .string ⟨#[]⟩], .string ⟨#[]⟩]) (by simp [results, Try.results27, go_sem, *]) rfl ⟨ret_val HV.out.symm, by repeat (first | (with_reducible exact B9) | (with_reducible refine Below.drew ?_) | (with_reducible refine Below.setCell ?_ (by show w.heap.size ≤ w.heap.size + 1 + 1; omega) _))⟩
      · simp only [Bool.not_eq_true] at h3
        go_enter Try.func27, Try.ntmps27
        go_wp2_with fail
        exact bodyPost_ret (v := .tuple #[.agg #[.int .i64 0, .int .i64 0, .string ⟨#[]⟩], .string ⟨#[117, 110, 97, 114, 121]⟩]) (by simp [results, Try.results27, go_sem]) rfl ⟨ret_val (by unfold unV; rw [if_neg (by simp [h1]), if_neg (by simp [h2]), if_neg (by simp [h3])]; rfl), by repeat (first | exact Below.refl _ _ | refine Below.setCell ?_ (by simp <;> omega) _ | refine Below.alloc ?_ (by simp <;> omega) _)⟩
end Go.Proofs.Ytbdpfmkpjeleaaa
