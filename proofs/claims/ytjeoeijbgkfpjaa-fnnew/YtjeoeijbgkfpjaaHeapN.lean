/- Unary: the program's walk. -/
import Derived.Test.YtjeoeijbgkfpjaaHeapM
import Derived.Test.YtjeoeijbgkfpjaaValR
namespace Go.Proofs.Ytjeoeijbgkfpjaa
open Go.RowKit

theorem boolI_any (b : Bool) (w : World) : Calls Try.prog 63 #[.bool b] w fun e w' => e = .returned (.agg #[.int .i64 1, .int .i64 (if b then 1 else 0), .string ⟨#[]⟩]) ∧ Below w.heap.size w w' := by
  cases b
  · go_enter Try.func63, Try.ntmps63
    go_wp2
    exact bodyPost_ret (v := .agg #[.int .i64 1, .int .i64 0, .string ⟨#[]⟩]) (by simp [results, Try.results63, go_sem]) rfl ⟨rfl, by repeat (first | exact Below.refl _ _ | refine Below.setCell ?_ (by simp <;> omega) _ | refine Below.alloc ?_ (by simp <;> omega) _)⟩
  · go_enter Try.func63, Try.ntmps63
    go_wp2
    exact bodyPost_ret (v := .agg #[.int .i64 1, .int .i64 1, .string ⟨#[]⟩]) (by simp [results, Try.results63, go_sem]) rfl ⟨rfl, by repeat (first | exact Below.refl _ _ | refine Below.setCell ?_ (by simp <;> omega) _ | refine Below.alloc ?_ (by simp <;> omega) _)⟩
theorem boolS_any (b : Bool) (w : World) : Calls Try.prog 67 #[.bool b] w fun e w' => e = .returned (.agg #[.int .i64 1, .int .i64 (if b then 1 else 0), .string ⟨#[]⟩]) ∧ Below w.heap.size w w' := by
  cases b
  · go_enter Try.func67, Try.ntmps67
    go_wp2
    exact bodyPost_ret (v := .agg #[.int .i64 1, .int .i64 0, .string ⟨#[]⟩]) (by simp [results, Try.results67, go_sem]) rfl ⟨rfl, by repeat (first | exact Below.refl _ _ | refine Below.setCell ?_ (by simp <;> omega) _ | refine Below.alloc ?_ (by simp <;> omega) _)⟩
  · go_enter Try.func67, Try.ntmps67
    go_wp2
    exact bodyPost_ret (v := .agg #[.int .i64 1, .int .i64 1, .string ⟨#[]⟩]) (by simp [results, Try.results67, go_sem]) rfl ⟨rfl, by repeat (first | exact Below.refl _ _ | refine Below.setCell ?_ (by simp <;> omega) _ | refine Below.alloc ?_ (by simp <;> omega) _)⟩
set_option maxRecDepth 100000 in
set_option maxHeartbeats 1600000 in
theorem un_impl (op : ByteArray) (h : Hp) (a b : Option Addr) (ca cb lo hi N : Nat) (k n : Int) (s : ByteArray) (w : World) (hh : hi ≤ w.heap.size) (hT : TAt w lo hi h.ts a) (hwt : h.wt ≤ 1048576) (hR : tabB h.ts.length k n = true → RowIs (h.ts[n.toNat]?.getD []) N) :
    Calls Try.prog 27 #[.string op, .agg #[.slice a h.ts.length ca, .slice b h.vs.length cb], .agg #[.int .i64 k, .int .i64 n, .string s]] w fun e w' => e = .returned (unV op h.ts.length k n s N) ∧ Below w.heap.size w w' := by
  obtain ⟨W0, hW0⟩ : ∃ W0, W0 = ((w.alloc (Obj.cells #[.slice a h.ts.length ca, .slice b h.vs.length cb] 30)).alloc (Obj.cells #[.int .i64 k, .int .i64 n, .string s] 32)).alloc (Obj.cells #[.int .i64 0, .int .i64 0, .string ⟨#[]⟩] 32) := ⟨_, rfl⟩
  obtain ⟨rA, rB, rZ, hs0, B0⟩ := rows3 w (Obj.cells #[.slice a h.ts.length ca, .slice b h.vs.length cb] 30) (Obj.cells #[.int .i64 k, .int .i64 n, .string s] 32) (Obj.cells #[.int .i64 0, .int .i64 0, .string ⟨#[]⟩] 32)
  rw [← hW0] at rA rB rZ hs0 B0
  have CF : Hid (∀ W, Below W0.heap.size W0 W → W.cell? ⟨w.heap.size, 0, none⟩ = some (.slice a h.ts.length ca) ∧ W.cell? ⟨w.heap.size, 1, none⟩ = some (.slice b h.vs.length cb) ∧ W.cell? ⟨w.heap.size + 1, 0, none⟩ = some (.int .i64 k) ∧ W.cell? ⟨w.heap.size + 1, 1, none⟩ = some (.int .i64 n) ∧ W.cell? ⟨w.heap.size + 1, 2, none⟩ = some (.string s) ∧ W.frozen? ⟨w.heap.size + 1 + 1, 0, none⟩ = false ∧ W.frozen? ⟨w.heap.size + 1 + 1, 1, none⟩ = false ∧ W.frozen? ⟨w.heap.size + 1 + 1, 2, none⟩ = false ∧ W.cell? ⟨w.heap.size + 1 + 1, 0, none⟩ = some (.int .i64 0) ∧ W.cell? ⟨w.heap.size + 1 + 1, 1, none⟩ = some (.int .i64 0) ∧ W.cell? ⟨w.heap.size + 1 + 1, 2, none⟩ = some (.string ⟨#[]⟩)) := fun W hW => by
    have q1 := (hW.block w.heap.size (by omega)).trans rA
    have q2 := (hW.block (w.heap.size + 1) (by omega)).trans rB
    have q3 := (hW.block (w.heap.size + 1 + 1) (by omega)).trans rZ
    exact ⟨cell_of_row _ _ 0 _ _ _ q1, cell_of_row _ _ 1 _ _ _ q1, cell_of_row _ _ 0 _ _ _ q2, cell_of_row _ _ 1 _ _ _ q2, cell_of_row _ _ 2 _ _ _ q2, rowZ' q3⟩
  clear rA rB rZ
  by_cases h1 : (op.toList == [110, 111, 116]) = true
  · obtain ⟨tv, htv⟩ : ∃ tv, truthB k n = tv := ⟨_, rfl⟩
    have HTR : Hid (∀ W, Calls Try.prog 64 #[.agg #[.int .i64 k, .int .i64 n, .string s]] W fun e w' => e = .returned (.bool tv) ∧ Below W.heap.size W w') := fun W => htv ▸ truth_impl k n s W
    have HV : Hid (unV op h.ts.length k n s N = .tuple #[.agg #[.int .i64 1, .int .i64 (if !tv then 1 else 0), .string ⟨#[]⟩], .string ⟨#[]⟩]) := by show _ = _; unfold unV; rw [if_pos h1, htv]
    clear htv
    cases tv
    · go_enter Try.func27, Try.ntmps27
      go_wp2_with fail
      refine (HTR.out _).mono ?_
      rw [← hW0]
      clear hW0
      rintro e w1 ⟨rfl, hb1⟩
      have Q1 : Below W0.heap.size W0 w1 := hb1
      have B1 := B0.trans (Q1.mono B0.size)
      obtain ⟨c0, c1, c2, c3, c4, f0, f1, f2, z0, z1, z2⟩ := CF.out _ Q1
      go_wp2_with fail
      refine (boolI_any _ _).mono ?_
      rintro e w2 ⟨rfl, hb2⟩
      have Q2 : Below W0.heap.size W0 w2 := Q1.trans (hb2.mono Q1.size)
      have B2 := B0.trans (Q2.mono B0.size)
      clear c0 c1 c2 c3 c4 f0 f1 f2 z0 z1 z2
      obtain ⟨c0, c1, c2, c3, c4, f0, f1, f2, z0, z1, z2⟩ := CF.out _ Q2
      go_wp2_with fail
      exact bodyPost_ret (v := .tuple #[.agg #[.int .i64 1, .int .i64 1, .string ⟨#[]⟩], .string ⟨#[]⟩]) (by simp [results, Try.results27, go_sem, *]) rfl ⟨ret_val (by rw [HV.out]; rfl), by repeat (first | (with_reducible exact B2) | (with_reducible refine Below.drew ?_) | (with_reducible refine Below.setCell ?_ (by show w.heap.size ≤ w.heap.size + 1 + 1; omega) _))⟩
    · go_enter Try.func27, Try.ntmps27
      go_wp2_with fail
      refine (HTR.out _).mono ?_
      rw [← hW0]
      clear hW0
      rintro e w1 ⟨rfl, hb1⟩
      have Q1 : Below W0.heap.size W0 w1 := hb1
      have B1 := B0.trans (Q1.mono B0.size)
      obtain ⟨c0, c1, c2, c3, c4, f0, f1, f2, z0, z1, z2⟩ := CF.out _ Q1
      go_wp2_with fail
      refine (boolI_any _ _).mono ?_
      rintro e w2 ⟨rfl, hb2⟩
      have Q2 : Below W0.heap.size W0 w2 := Q1.trans (hb2.mono Q1.size)
      have B2 := B0.trans (Q2.mono B0.size)
      clear c0 c1 c2 c3 c4 f0 f1 f2 z0 z1 z2
      obtain ⟨c0, c1, c2, c3, c4, f0, f1, f2, z0, z1, z2⟩ := CF.out _ Q2
      go_wp2_with fail
      exact bodyPost_ret (v := .tuple #[.agg #[.int .i64 1, .int .i64 0, .string ⟨#[]⟩], .string ⟨#[]⟩]) (by simp [results, Try.results27, go_sem, *]) rfl ⟨ret_val (by rw [HV.out]; rfl), by repeat (first | (with_reducible exact B2) | (with_reducible refine Below.drew ?_) | (with_reducible refine Below.setCell ?_ (by show w.heap.size ≤ w.heap.size + 1 + 1; omega) _))⟩
  · simp only [Bool.not_eq_true] at h1
    by_cases h2 : (op.toList == [45]) = true
    · by_cases hk : k = 2
      · subst hk
        have ha := fun w => as_int 2 n s w
        simp only [if_true] at ha
        go_enter Try.func27, Try.ntmps27
        go_wp2_with fail
        refine (datum_any 2 n s _).mono ?_
        rw [← hW0]
        clear hW0
        rintro e w1 ⟨rfl, hb1⟩
        have Q1 : Below W0.heap.size W0 w1 := hb1
        have B1 := B0.trans (Q1.mono B0.size)
        obtain ⟨c0, c1, c2, c3, c4, f0, f1, f2, z0, z1, z2⟩ := CF.out _ Q1
        go_wp2_with fail
        refine (int_impl _ _).mono ?_
        rintro e w2 ⟨rfl, hb2⟩
        unfold numB
        have Q2 : Below W0.heap.size W0 w2 := Q1.trans (hb2.mono Q1.size)
        have B2 := B0.trans (Q2.mono B0.size)
        clear c0 c1 c2 c3 c4 f0 f1 f2 z0 z1 z2
        obtain ⟨c0, c1, c2, c3, c4, f0, f1, f2, z0, z1, z2⟩ := CF.out _ Q2
        go_wp2_with fail
        exact bodyPost_ret (v := .tuple #[.agg #[.int .i64 2, .int .i64 (wrap64 (-n)), .string ⟨#[]⟩], .string ⟨#[]⟩]) (by simp [results, Try.results27, go_sem, *]) rfl ⟨ret_val (by unfold unV; rw [if_neg (by simp [h1]), if_pos h2, if_pos rfl]), by repeat (first | (with_reducible exact B2) | (with_reducible refine Below.drew ?_) | (with_reducible refine Below.setCell ?_ (by show w.heap.size ≤ w.heap.size + 1 + 1; omega) _))⟩
      · have hk' : (k == 2) = false := by simpa using hk
        have ha := fun w => as_int k n s w
        simp only [hk, hk', if_false] at ha
        go_enter Try.func27, Try.ntmps27
        go_wp2_with fail
        refine (datum_any k n s _).mono ?_
        rw [← hW0]
        clear hW0
        rintro e w1 ⟨rfl, hb1⟩
        have Q1 : Below W0.heap.size W0 w1 := hb1
        have B1 := B0.trans (Q1.mono B0.size)
        obtain ⟨c0, c1, c2, c3, c4, f0, f1, f2, z0, z1, z2⟩ := CF.out _ Q1
        go_wp2_with fail
        exact bodyPost_ret (v := .tuple #[.agg #[.int .i64 0, .int .i64 0, .string ⟨#[]⟩], .string ⟨#[97, 114, 105, 116, 104]⟩]) (by simp [results, Try.results27, go_sem, *]) rfl ⟨ret_val (by unfold unV; rw [if_neg (by simp [h1]), if_pos h2, if_neg hk]; rfl), by repeat (first | (with_reducible exact B1) | (with_reducible refine Below.drew ?_) | (with_reducible refine Below.setCell ?_ (by show w.heap.size ≤ w.heap.size + 1 + 1; omega) _))⟩
    · simp only [Bool.not_eq_true] at h2
      by_cases h3 : (op.toList == [35]) = true
      · obtain ⟨x, ok, hL⟩ : ∃ x ok, lenR h.ts.length k n s N = (x, ok) := ⟨_, _, rfl⟩
        have HL : Hid (∀ W, Below W0.heap.size W0 W → Calls Try.prog 66 #[.agg #[.slice a h.ts.length ca, .slice b h.vs.length cb], .agg #[.int .i64 k, .int .i64 n, .string s]] W fun e w' => e = .returned (.tuple #[.int .i64 x, .bool ok]) ∧ Below W.heap.size W w') := fun W hW => by
          have hx := length_impl h a b ca cb lo hi N k n s W (by have := hW.size; have := B0.size; omega) ((hT.below B0 hh).below hW (by have := B0.size; omega)) hwt hR
          rw [hL] at hx
          exact hx
        have HV : Hid (unV op h.ts.length k n s N = if ok = true then .tuple #[.agg #[.int .i64 2, .int .i64 x, .string ⟨#[]⟩], .string ⟨#[]⟩] else .tuple #[nilB, .string ⟨#[108, 101, 110, 103, 116, 104]⟩]) := by show _ = _; unfold unV; rw [if_neg (by simp [h1]), if_neg (by simp [h2]), if_pos h3, hL]
        clear hL hT hR
        go_enter Try.func27, Try.ntmps27
        go_wp2_with fail
        refine (HL.out _ (by rw [← hW0]; exact Below.refl _ _)).mono ?_
        rw [← hW0]
        clear hW0
        rintro e w1 ⟨rfl, hb1⟩
        have Q1 : Below W0.heap.size W0 w1 := hb1
        have B1 := B0.trans (Q1.mono B0.size)
        obtain ⟨c0, c1, c2, c3, c4, f0, f1, f2, z0, z1, z2⟩ := CF.out _ Q1
        cases ok
        · go_wp2_with fail
          exact bodyPost_ret (v := .tuple #[.agg #[.int .i64 0, .int .i64 0, .string ⟨#[]⟩], .string ⟨#[108, 101, 110, 103, 116, 104]⟩]) (by simp [results, Try.results27, go_sem, *]) rfl ⟨ret_val (by rw [HV.out]; rfl), by repeat (first | (with_reducible exact B1) | (with_reducible refine Below.drew ?_) | (with_reducible refine Below.setCell ?_ (by show w.heap.size ≤ w.heap.size + 1 + 1; omega) _))⟩
        · skip
          go_wp2_with fail
          refine (int_impl _ _).mono ?_
          rintro e w2 ⟨rfl, hb2⟩
          unfold numB
          have Q2 : Below W0.heap.size W0 w2 := Q1.trans (hb2.mono Q1.size)
          have B2 := B0.trans (Q2.mono B0.size)
          clear c0 c1 c2 c3 c4 f0 f1 f2 z0 z1 z2
          obtain ⟨c0, c1, c2, c3, c4, f0, f1, f2, z0, z1, z2⟩ := CF.out _ Q2
          go_wp2_with fail
          exact bodyPost_ret (v := .tuple #[.agg #[.int .i64 2, .int .i64 x, .string ⟨#[]⟩], .string ⟨#[]⟩]) (by simp [results, Try.results27, go_sem, *]) rfl ⟨ret_val (by rw [HV.out]; rfl), by repeat (first | (with_reducible exact B2) | (with_reducible refine Below.drew ?_) | (with_reducible refine Below.setCell ?_ (by show w.heap.size ≤ w.heap.size + 1 + 1; omega) _))⟩
      · simp only [Bool.not_eq_true] at h3
        go_enter Try.func27, Try.ntmps27
        go_wp2_with fail
        exact bodyPost_ret (v := .tuple #[.agg #[.int .i64 0, .int .i64 0, .string ⟨#[]⟩], .string ⟨#[117, 110, 97, 114, 121]⟩]) (by simp [results, Try.results27, go_sem]) rfl ⟨ret_val (by unfold unV; rw [if_neg (by simp [h1]), if_neg (by simp [h2]), if_neg (by simp [h3])]; rfl), by repeat (first | exact Below.refl _ _ | refine Below.setCell ?_ (by simp <;> omega) _ | refine Below.alloc ?_ (by simp <;> omega) _)⟩
end Go.Proofs.Ytjeoeijbgkfpjaa
