/- Two rows of the same tokens are found alike. -/
import Derived.Test.YtjepokoeljpflaaDoorLxI
namespace Go.Proofs.YtjepokoeljpflaaDoor
open Go.RowKit

set_option maxRecDepth 100000 in
set_option maxHeartbeats 4000000 in
theorem eqTok_same (t : Tk) (w : World) :
    Calls Tryd.prog 30 #[.agg #[.int .i64 t.kind, .string t.text, .int .i64 t.n, .int .i64 t.line], .agg #[.int .i64 t.kind, .string t.text, .int .i64 t.n, .int .i64 t.line]] w fun e w' => e = .returned (.bool true) ∧ Below w.heap.size w w' := by
  go_enter Tryd.func30, Tryd.ntmps30
  go_wp2_with fail
  go_ret
  exact ⟨rfl, (bel_two (Below.refl _ _) (Nat.le_refl _) _ _).1⟩
theorem tk_get (L : List Tk) (i j : Nat) (h : i < L.length) (hj : j < 4) : (tkCells L)[4 * i + j]? = L[i].cells[j]? := by
  induction L generalizing i with
  | nil => simp at h
  | cons t L ih =>
    have e : tkCells (t :: L) = t.cells ++ tkCells L := by simp [tkCells]
    have hc : t.cells.length = 4 := rfl
    rw [e]
    cases i with
    | zero => rw [List.getElem?_append_left (by rw [hc]; omega)]; simp
    | succ i =>
      rw [List.getElem?_append_right (by rw [hc]; omega), hc, show 4 * (i + 1) + j - 4 = 4 * i + j by omega, ih i (by simpa using h)]
      simp

set_option maxRecDepth 100000 in
set_option maxHeartbeats 4000000 in
theorem eqToks_same (L : List Tk) (x y : Option Addr) (cx cy : Nat) (w : World) (hn : L.length ≤ 1048576)
    (hx : ∀ i (h : i < L.length), ∃ g, x = some ⟨g, 0, none⟩ ∧ g < w.heap.size ∧ ∀ j, j < 4 → w.cell? ⟨g, 4 * i + j, none⟩ = L[i].cells[j]?)
    (hy : ∀ i (h : i < L.length), ∃ g, y = some ⟨g, 0, none⟩ ∧ g < w.heap.size ∧ ∀ j, j < 4 → w.cell? ⟨g, 4 * i + j, none⟩ = L[i].cells[j]?) :
    Calls Tryd.prog 16 #[.slice x L.length cx, .slice y L.length cy] w fun e w' => e = .returned (.bool true) ∧ Below w.heap.size w w' := by
  go_enter Tryd.func16, Tryd.ntmps16
  go_wp2_with fail
  go_loopw [5] (fun a wr => ∃ i : Nat, a = .int .i64 i ∧ i ≤ L.length ∧ Below w.heap.size w wr) (fun a _ => L.length - (intOf a).toNat)
  case atStart => exact ⟨0, rfl, Nat.zero_le _, Below.refl _ _⟩
  case round =>
    obtain ⟨i, rfl, hi, hb⟩ := hrel
    by_cases hlt : i < L.length
    · obtain ⟨gx, rfl, hgx, fx⟩ := hx i hlt
      obtain ⟨gy, rfl, hgy, fy⟩ := hy i hlt
      have x0 := (hb.cell (p := ⟨gx, 4 * i + 0, none⟩) hgx).trans (fx 0 (by decide))
      have x1 := (hb.cell (p := ⟨gx, 4 * i + 1, none⟩) hgx).trans (fx 1 (by decide))
      have x2 := (hb.cell (p := ⟨gx, 4 * i + 2, none⟩) hgx).trans (fx 2 (by decide))
      have x3 := (hb.cell (p := ⟨gx, 4 * i + 3, none⟩) hgx).trans (fx 3 (by decide))
      have y0 := (hb.cell (p := ⟨gy, 4 * i + 0, none⟩) hgy).trans (fy 0 (by decide))
      have y1 := (hb.cell (p := ⟨gy, 4 * i + 1, none⟩) hgy).trans (fy 1 (by decide))
      have y2 := (hb.cell (p := ⟨gy, 4 * i + 2, none⟩) hgy).trans (fy 2 (by decide))
      have y3 := (hb.cell (p := ⟨gy, 4 * i + 3, none⟩) hgy).trans (fy 3 (by decide))
      simp only [Tk.cells, List.getElem?_cons_zero, List.getElem?_cons_succ, Nat.add_zero] at x0 x1 x2 x3 y0 y1 y2 y3
      have m4 : i * 4 = 4 * i := Nat.mul_comm _ _
      clear hx hy fx fy
      generalize L[i] = t at *
      have kx : gx < wr.heap.size := Nat.lt_of_lt_of_le hgx hb.size
      have ky : gy < wr.heap.size := Nat.lt_of_lt_of_le hgy hb.size
      go_wp2_with fail
      go_region_held (fun w' => w'.cell? ⟨gx, 4 * i, none⟩ = some (.int .i64 t.kind) ∧ w'.cell? ⟨gx, 4 * i + 1, none⟩ = some (.string t.text) ∧ w'.cell? ⟨gx, 4 * i + 2, none⟩ = some (.int .i64 t.n) ∧ w'.cell? ⟨gx, 4 * i + 3, none⟩ = some (.int .i64 t.line) ∧ w'.cell? ⟨gy, 4 * i, none⟩ = some (.int .i64 t.kind) ∧ w'.cell? ⟨gy, 4 * i + 1, none⟩ = some (.string t.text) ∧ w'.cell? ⟨gy, 4 * i + 2, none⟩ = some (.int .i64 t.n) ∧ w'.cell? ⟨gy, 4 * i + 3, none⟩ = some (.int .i64 t.line)) (go_keep) (first | (go_at_call 30; refine (eqTok_same t _).mono ?_; rintro e w1 ⟨rfl, hb1⟩; have qx0 := (hb1.cell (p := ⟨gx, 4 * i, none⟩) kx).trans x0; have qx1 := (hb1.cell (p := ⟨gx, 4 * i + 1, none⟩) kx).trans x1; have qx2 := (hb1.cell (p := ⟨gx, 4 * i + 2, none⟩) kx).trans x2; have qx3 := (hb1.cell (p := ⟨gx, 4 * i + 3, none⟩) kx).trans x3; have qy0 := (hb1.cell (p := ⟨gy, 4 * i, none⟩) ky).trans y0; have qy1 := (hb1.cell (p := ⟨gy, 4 * i + 1, none⟩) ky).trans y1; have qy2 := (hb1.cell (p := ⟨gy, 4 * i + 2, none⟩) ky).trans y2; have qy3 := (hb1.cell (p := ⟨gy, 4 * i + 3, none⟩) ky).trans y3))
      go_wp2_with fail
      go_roundw
      case rel => exact ⟨i + 1, by go_num, by omega, hb.drew.trans (hb1.mono hb.size)⟩
      case measure => simp [intOf]; omega
    · clear hx hy
      go_wp2_with fail
      go_ret
      exact ⟨rfl, hb⟩
end Go.Proofs.YtjepokoeljpflaaDoor
