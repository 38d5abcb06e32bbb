/- The walk of FnExactLex: it returns true. -/
import Derived.Test.YtjepokoeljpflaaDoorWLex
namespace Go.Proofs.YtjepokoeljpflaaDoor
open Go.RowKit

theorem marks_none (b : Option Addr) (cap : Nat) (w : World) :
    Calls Tryd.prog 17 #[.slice b 0 cap, .int .i64 1] w fun e w' => e = .returned (.int .i64 ((4 * 0 + 1 : Nat) : Int)) ∧ w = w' := by
  go_enter Tryd.func17, Tryd.ntmps17
  go_wp2_with fail
  refine wp_loop_rounds 1 ?_
  rw [rounds_succ]
  go_wp2_with fail
  go_ret
  exact ⟨rfl, rfl⟩

/-- The tokens' cells at a row's base. -/
def RowAt (w : World) (b : Option Addr) (L : List Tk) (hi : Nat) : Prop := ∀ i (h : i < L.length), ∃ g, b = some ⟨g, 0, none⟩ ∧ g < hi ∧ ∀ j, j < 4 → w.cell? ⟨g, 4 * i + j, none⟩ = L[i].cells[j]?
theorem RowAt.keep {w w' : World} {b : Option Addr} {L : List Tk} {hi : Nat} (h : RowAt w b L hi) (hk : ∀ g j, g < hi → w'.cell? ⟨g, j, none⟩ = w.cell? ⟨g, j, none⟩) : RowAt w' b L hi := fun i hi' => by
  obtain ⟨g, e, hg, hc⟩ := h i hi'
  exact ⟨g, e, hg, fun j hj => by rw [hk g _ hg]; exact hc j hj⟩
theorem RowAt.wide {w : World} {b : Option Addr} {L : List Tk} {hi hi2 : Nat} (h : RowAt w b L hi) (hl : hi ≤ hi2) : RowAt w b L hi2 := fun i hi' => by
  obtain ⟨g, e, hg, hc⟩ := h i hi'
  exact ⟨g, e, Nat.lt_of_lt_of_le hg hl, hc⟩
def MarkAt (w : World) (b : Option Addr) (n hi : Nat) : Prop := ∀ i, i < n → ∃ g, b = some ⟨g, 0, none⟩ ∧ g < hi ∧ ∀ j, j < 4 → w.cell? ⟨g, 4 * i + j, none⟩ = some (mc (4 * i + j))
theorem MarkAt.keep {w w' : World} {b : Option Addr} {n hi hi2 : Nat} (h : MarkAt w b n hi) (hk : ∀ g j, g < hi → w'.cell? ⟨g, j, none⟩ = w.cell? ⟨g, j, none⟩) (hl : hi ≤ hi2) : MarkAt w' b n hi2 := fun i hi' => by
  obtain ⟨g, e, hg, hc⟩ := h i hi'
  exact ⟨g, e, Nat.lt_of_lt_of_le hg hl, fun j hj => by rw [hk g _ hg]; exact hc j hj⟩
theorem cell_block {w w' : World} {g : Nat} (h : w'.heap[g]? = w.heap[g]?) (j : Nat) : w'.cell? ⟨g, j, none⟩ = w.cell? ⟨g, j, none⟩ := by
  simp [World.cell?, h]
theorem below_cells {w w' : World} (hb : Below w.heap.size w w') (g j : Nat) (hg : g < w.heap.size) : w'.cell? ⟨g, j, none⟩ = w.cell? ⟨g, j, none⟩ := hb.cell (p := ⟨g, j, none⟩) hg

/-- A row of one's own is marked; all that is below its base stands. -/
theorem marks_own {B : Nat} {T : TypeId} (L : List Tk) (b : Option Addr) (cap : Nat) (w : World) (hn : L.length ≤ 1048576) (h : w.ownsRow B T 4 (.slice b L.length cap) L.length (tkCells L)) (hB : B ≤ w.heap.size) :
    Calls Tryd.prog 17 #[.slice b L.length cap, .int .i64 1] w fun e w' => e = .returned (.int .i64 ((4 * L.length + 1 : Nat) : Int)) ∧ Below B w w' ∧ MarkAt w' b L.length w'.heap.size := by
  obtain ⟨b', cap', e, hs⟩ := own_shape h
  simp only [Value.slice.injEq] at e
  obtain ⟨rfl, _, rfl⟩ := e
  rcases hs with h0 | ⟨g, cs, rfl, hBg, hg, hrow, hsz, _⟩
  · rw [h0]
    refine (marks_none b cap w).mono ?_
    rintro e w' ⟨rfl, rfl⟩
    exact ⟨rfl, Below.refl _ _, fun i hi => absurd hi (Nat.not_lt_zero _)⟩
  · refine (marks_any g L.length cap cs T w hrow hn hsz).mono ?_
    rintro e w' ⟨rfl, hgr, cs', hrow', hs', hall⟩
    refine ⟨rfl, (Below.refl B w).grown hgr hB (fun k hk => by cases hk; exact hBg), fun i hi => ⟨g, rfl, (Array.getElem?_eq_some_iff.1 hrow').1, fun j hj => ?_⟩⟩
    rw [cell_of_row w' g _ _ _ (0, 0) hrow', hall _ (by omega)]

theorem own_row {w : World} {B : Nat} {T : TypeId} {b : Option Addr} {cap : Nat} {L : List Tk} (h : w.ownsRow B T 4 (.slice b L.length cap) L.length (tkCells L)) : RowAt w b L w.heap.size := by
  obtain ⟨b', cap', e, hs⟩ := own_shape h
  simp only [Value.slice.injEq] at e
  obtain ⟨rfl, _, rfl⟩ := e
  rcases hs with h0 | ⟨g, cs, rfl, hBg, hg, hrow, hsz, hall⟩
  · exact fun i hi => absurd hi (by omega)
  · exact fun i hi => ⟨g, rfl, hg, fun j hj => shape_cells hrow hall i hi j hj⟩

set_option maxRecDepth 100000 in
set_option maxHeartbeats 4000000 in
theorem exact_lex (a0 : ByteArray) (w : World) :
    Calls Tryd.prog 4 #[.string a0] w fun e w' => e = .returned (.bool true) ∧ Below w.heap.size w w' := by
  by_cases hbig : 1048576 < a0.size
  · go_enter Tryd.func4, Tryd.ntmps4
    go_wp2
    go_ret
    exact ⟨rfl, Below.refl _ _⟩
  · have hs : a0.size ≤ 1048576 := by omega
    have hn := lexAll_len a0
    have hn2 : (lexAll a0).1.length ≤ 1048576 := by omega
    clear hn
    have SP : Hid (∀ w, Calls Tryd.prog 8 #[.string a0] w fun e w' => ∃ v, e = .returned (.tuple #[v, .int .i64 ((lexAll a0).2 : Nat)]) ∧ w'.ownsRow w.heap.size 32 4 v (lexAll a0).1.length (tkCells (lexAll a0).1) ∧ Below w.heap.size w w') := fun w => lex_spec a0 w hs
    have IM : Hid (∀ w, Calls Tryd.prog 7 #[.string a0] w fun e w' => ∃ v, e = .returned (.tuple #[v, .int .i64 ((lexAll a0).2 : Nat)]) ∧ w'.ownsRow w.heap.size 32 4 v (lexAll a0).1.length (tkCells (lexAll a0).1) ∧ Below w.heap.size w w') := fun w => lex_impl a0 w hs
    generalize lexAll a0 = LL at *
    obtain ⟨L, ln⟩ := LL
    simp only at hn2 SP IM
    go_enter Tryd.func4, Tryd.ntmps4
    go_wp2_with fail
    refine (SP.out _).mono ?_
    rintro e w1 ⟨v0, rfl, hown0, hb0⟩
    obtain ⟨b0, c0, rfl, _⟩ := own_shape hown0
    have R0 := own_row hown0
    clear hown0
    go_wp2_with fail
    refine (IM.out _).mono ?_
    rintro e w2 ⟨v1, rfl, hown1, hb1⟩
    obtain ⟨b1, c1, rfl, _⟩ := own_shape hown1
    have R1 := own_row hown1
    have R02 := (R0.keep (below_cells hb1)).wide hb1.size
    go_wp2_with fail
    refine (eqToks_same L b1 b0 c1 c0 _ hn2 R1 R02).mono ?_
    rintro e w3 ⟨rfl, hb2⟩
    go_wp2_with fail
    have hown3 := own_later hown1 hb2
    have hB3 : w1.heap.size ≤ w3.heap.size := Nat.le_trans hb1.size hb2.size
    refine (marks_own L b1 c1 _ hn2 hown3 hB3).mono ?_
    rintro e w4 ⟨rfl, hb3, M4⟩
    have hB4 : w1.heap.size ≤ w4.heap.size := Nat.le_trans hB3 hb3.size
    go_wp2_with fail
    refine (held_any b1 L.length c1 _ hn2 M4).mono ?_
    rintro e w5 ⟨rfl, hb4⟩
    have hB5 : w4.heap.size ≤ w5.heap.size := hb4.size
    go_wp2_with fail
    refine (IM.out _).mono ?_
    rintro e w6 ⟨v2, rfl, hown6, hb5⟩
    obtain ⟨b2, c2, rfl, _⟩ := own_shape hown6
    have R2 := own_row hown6
    have h46 : Below w4.heap.size w4 w6 := hb4.trans (hb5.mono hB5)
    have h16 : Below w1.heap.size w1 w6 := hb1.trans ((hb2.mono hb1.size).trans (hb3.trans (h46.mono hB4)))
    have R06 := (R0.keep (below_cells h16)).wide h16.size
    go_wp2_with fail
    refine (eqToks_same L b2 b0 c2 c0 _ hn2 R2 R06).mono ?_
    rintro e w7 ⟨rfl, hb6⟩
    have h47 : Below w4.heap.size w4 w7 := h46.trans (hb6.mono h46.size)
    have M7 : MarkAt w7 b1 L.length w7.heap.size := M4.keep (below_cells h47) h47.size
    go_wp2_with fail
    refine (held_any b1 L.length c1 _ hn2 M7).mono ?_
    rintro e w8 ⟨rfl, hb7⟩
    have h17 : Below w1.heap.size w1 w7 := h16.trans (hb6.mono h16.size)
    have h18 : Below w1.heap.size w1 w8 := h17.trans (hb7.mono h17.size)
    go_wp2_with fail
    go_ret
    exact ⟨rfl, hb0.trans (h18.mono hb0.size)⟩
end Go.Proofs.YtjepokoeljpflaaDoor
