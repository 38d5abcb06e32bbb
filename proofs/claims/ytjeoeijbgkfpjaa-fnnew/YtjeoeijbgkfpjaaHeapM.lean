/- Unary: the program's walk. -/
import Derived.Test.YtjeoeijbgkfpjaaHeapL
import Derived.Test.YtjeoeijbgkfpjaaHeapH
namespace Go.Proofs.Ytjeoeijbgkfpjaa
open Go.RowKit

def lenR (tl : Nat) (k n : Int) (s : ByteArray) (N : Nat) : Int × Bool := if k = 3 then ((s.size : Int), true) else if tabB tl k n = true then ((N : Int), true) else (0, false)
set_option maxRecDepth 100000 in
set_option maxHeartbeats 1600000 in
theorem length_impl (h : Hp) (a b : Option Addr) (ca cb lo hi N : Nat) (k n : Int) (s : ByteArray) (w : World) (hh : hi ≤ w.heap.size) (hT : TAt w lo hi h.ts a) (hwt : h.wt ≤ 1048576) (hR : tabB h.ts.length k n = true → RowIs (h.ts[n.toNat]?.getD []) N) :
    Calls Try.prog 66 #[.agg #[.slice a h.ts.length ca, .slice b h.vs.length cb], .agg #[.int .i64 k, .int .i64 n, .string s]] w fun e w' => e = .returned (.tuple #[.int .i64 (lenR h.ts.length k n s N).1, .bool (lenR h.ts.length k n s N).2]) ∧ Below w.heap.size w w' := by
  obtain ⟨W0, hW0⟩ : ∃ W0, W0 = (w.alloc (Obj.cells #[.slice a h.ts.length ca, .slice b h.vs.length cb] 30)).alloc (Obj.cells #[.int .i64 k, .int .i64 n, .string s] 32) := ⟨_, rfl⟩
  obtain ⟨rA, rB, hs0, B0⟩ := rows2 w (Obj.cells #[.slice a h.ts.length ca, .slice b h.vs.length cb] 30) (Obj.cells #[.int .i64 k, .int .i64 n, .string s] 32)
  rw [← hW0] at rA rB hs0 B0
  have carryF : ∀ W, Below W0.heap.size W0 W → W.cell? ⟨w.heap.size, 0, none⟩ = some (.slice a h.ts.length ca) ∧ W.cell? ⟨w.heap.size, 1, none⟩ = some (.slice b h.vs.length cb) ∧ W.cell? ⟨w.heap.size + 1, 0, none⟩ = some (.int .i64 k) ∧ W.cell? ⟨w.heap.size + 1, 1, none⟩ = some (.int .i64 n) ∧ W.cell? ⟨w.heap.size + 1, 2, none⟩ = some (.string s) := fun W hW => by
    have q1 := (hW.block w.heap.size (by omega)).trans rA
    have q2 := (hW.block (w.heap.size + 1) (by omega)).trans rB
    exact ⟨cell_of_row _ _ 0 _ _ _ q1, cell_of_row _ _ 1 _ _ _ q1, cell_of_row _ _ 0 _ _ _ q2, cell_of_row _ _ 1 _ _ _ q2, cell_of_row _ _ 2 _ _ _ q2⟩
  have CF : Hid (∀ W, Below W0.heap.size W0 W → W.cell? ⟨w.heap.size, 0, none⟩ = some (.slice a h.ts.length ca) ∧ W.cell? ⟨w.heap.size, 1, none⟩ = some (.slice b h.vs.length cb) ∧ W.cell? ⟨w.heap.size + 1, 0, none⟩ = some (.int .i64 k) ∧ W.cell? ⟨w.heap.size + 1, 1, none⟩ = some (.int .i64 n) ∧ W.cell? ⟨w.heap.size + 1, 2, none⟩ = some (.string s)) := carryF
  clear carryF rA rB
  by_cases h3 : k = 3
  · subst h3
    have ha := fun w => as_text 3 n s w
    simp only [if_true] at ha
    go_enter Try.func66, Try.ntmps66
    go_wp2_with fail
    refine (datum_any 3 n s _).mono ?_
    rw [← hW0]
    rintro e w1 ⟨rfl, hb1⟩
    have B1 := B0.trans (hb1.mono B0.size)
    clear hW0
    go_wp2_with fail
    go_ret2
    exact ⟨ret_val (by simp [lenR]), B1⟩
  · have h3' : (k == 3) = false := by simpa using h3
    have ha := fun w => as_text k n s w
    simp only [h3, h3', if_false] at ha
    obtain ⟨tb, htb⟩ : ∃ tb, tabB h.ts.length k n = tb := ⟨_, rfl⟩
    have HTB : Hid (∀ W, Calls Try.prog 54 #[.agg #[.slice a h.ts.length ca, .slice b h.vs.length cb], .agg #[.int .i64 k, .int .i64 n, .string s]] W fun e w' => e = .returned (.bool tb) ∧ Below W.heap.size W w') := fun W => htb ▸ has_any a b h.ts.length ca h.vs.length cb k n s W
    cases tb
    · go_enter Try.func66, Try.ntmps66
      go_wp2_with fail
      refine (datum_any k n s _).mono ?_
      rw [← hW0]
      rintro e w1 ⟨rfl, hb1⟩
      obtain ⟨c0, c1, c2, c3, c4⟩ := CF.out _ hb1
      clear hW0
      go_wp2_with fail
      refine (HTB.out _).mono ?_
      rintro e w2 ⟨rfl, hb2⟩
      have Q2 := hb1.trans (hb2.mono hb1.size)
      have B2 := B0.trans (Q2.mono B0.size)
      go_wp2_with fail
      go_ret2
      exact ⟨ret_val (by simp [lenR, h3, htb]), B2⟩
    · obtain ⟨rfl, hn0, hn1⟩ : k = 4 ∧ 0 ≤ n ∧ n < (h.ts.length : Int) := by simpa [tabB] using htb
      obtain ⟨i, rfl⟩ := Int.eq_ofNat_of_zero_le hn0
      have hi1 : i < h.ts.length := by omega
      have hRow := hR htb
      rw [show ((i : Int)).toNat = i by omega, List.getElem?_eq_getElem hi1, Option.getD_some] at hRow
      obtain ⟨hlt, g, o, pb, pcb, rfl, _, hg, hcell, hP⟩ := hT i hi1
      have hwm := wtT_mem h.ts i hi1
      have hlw : wtT h.ts ≤ h.wt := by unfold Hp.wt; omega
      have HK : Hid (∀ W, Below W0.heap.size W0 W → Calls Try.prog 84 #[.slice pb h.ts[i].length pcb] W fun e w' => e = .returned (.int .i64 N) ∧ Below W.heap.size W w') := fun W hW => keys_impl h.ts[i] pb pcb lo hi N W (by have := hW.size; have := B0.size; omega) (by omega) ((hP.below B0 hh).below hW (by have := B0.size; omega)) hRow
      have y0 := (B0.cell (p := ⟨g, o + i, none⟩) (by show g < _; omega)).trans hcell
      have hgl : g < W0.heap.size := by have := B0.size; omega
      clear hP hcell hT hR hwm hlt hRow
      generalize h.ts[i] = t at *
      go_enter Try.func66, Try.ntmps66
      go_wp2_with fail
      refine (datum_any 4 i s _).mono ?_
      rw [← hW0]
      rintro e w1 ⟨rfl, hb1⟩
      obtain ⟨c0, c1, c2, c3, c4⟩ := CF.out _ hb1
      clear hW0
      go_wp2_with fail
      refine (HTB.out _).mono ?_
      rintro e w2 ⟨rfl, hb2⟩
      have Q2 := hb1.trans (hb2.mono hb1.size)
      clear c0 c1 c2 c3 c4
      obtain ⟨c0, c1, c2, c3, c4⟩ := CF.out _ Q2
      go_wp2_with fail
      refine (pairs_any g o h.ts.length ca h.vs.length cb i b s _ hi1).mono ?_
      rintro e w3 ⟨rfl, hb3⟩
      have Q3 := Q2.trans (hb3.mono Q2.size)
      have y3 := (Q3.cell (p := ⟨g, o + i, none⟩) hgl).trans y0
      go_wp2_with fail
      refine (HK.out _ Q3).mono ?_
      rintro e w4 ⟨rfl, hb4⟩
      have Q4 := Q3.trans (hb4.mono Q3.size)
      have B4 := B0.trans (Q4.mono B0.size)
      go_wp2_with fail
      go_ret2
      exact ⟨ret_val (by simp [lenR, htb]), B4⟩

/-- The answer of Unary, by the count of the table at hand. -/
def unV (op : ByteArray) (tl : Nat) (k n : Int) (s : ByteArray) (N : Nat) : Value :=
  if (op.toList == [110, 111, 116]) = true then .tuple #[.agg #[.int .i64 1, .int .i64 (if !truthB k n then 1 else 0), .string ⟨#[]⟩], .string ⟨#[]⟩] else
  if (op.toList == [45]) = true then (if k = 2 then .tuple #[.agg #[.int .i64 2, .int .i64 (wrap64 (-n)), .string ⟨#[]⟩], .string ⟨#[]⟩] else .tuple #[nilB, .string ⟨#[97, 114, 105, 116, 104]⟩]) else
  if (op.toList == [35]) = true then (if (lenR tl k n s N).2 = true then .tuple #[.agg #[.int .i64 2, .int .i64 (lenR tl k n s N).1, .string ⟨#[]⟩], .string ⟨#[]⟩] else .tuple #[nilB, .string ⟨#[108, 101, 110, 103, 116, 104]⟩]) else
  .tuple #[nilB, .string ⟨#[117, 110, 97, 114, 121]⟩]
end Go.Proofs.Ytjeoeijbgkfpjaa
