/- Two rows of the same words are the same words. -/
import Derived.Test.YtjepokoeljpflaaDoorWLex2
namespace Go.Proofs.YtjepokoeljpflaaDoor
open Go.RowKit

set_option maxRecDepth 100000 in
set_option maxHeartbeats 4000000 in
theorem same_toks (L : List Tk) (x y : Option Addr) (cx cy : Nat) (w : World) (hn : L.length ≤ 1048576) (hx : RowAt w x L w.heap.size) (hy : RowAt w y L w.heap.size) :
    Calls Tryd.prog 12 #[.slice x L.length cx, .slice y L.length cy] w fun e w' => e = .returned (.bool true) ∧ Below w.heap.size w w' := by
  go_enter Tryd.func12, Tryd.ntmps12
  go_wp2_with fail
  go_loopw [5] (fun a wr => ∃ i : Nat, a = .int .i64 i ∧ i ≤ L.length ∧ Below w.heap.size w wr) (fun a _ => L.length - (intOf a).toNat)
  case atStart => exact ⟨0, rfl, Nat.zero_le _, Below.refl _ _⟩
  case round =>
    obtain ⟨i, rfl, hi, hb⟩ := hrel
    by_cases hlt : i < L.length
    · obtain ⟨gx, rfl, hgx, fx⟩ := hx i hlt
      obtain ⟨gy, rfl, hgy, fy⟩ := hy i hlt
      have x0 := (hb.cell (p := ⟨gx, 4 * i + 0, none⟩) hgx).trans (fx 0 (by decide))
      have x1 := (hb.cell (p := ⟨gx, 4 * i + 1, none⟩) hgx).trans (fx 1 (by decide))
      have x2 := (hb.cell (p := ⟨gx, 4 * i + 2, none⟩) hgx).trans (fx 2 (by decide))
      have x3 := (hb.cell (p := ⟨gx, 4 * i + 3, none⟩) hgx).trans (fx 3 (by decide))
      have y0 := (hb.cell (p := ⟨gy, 4 * i + 0, none⟩) hgy).trans (fy 0 (by decide))
      have y1 := (hb.cell (p := ⟨gy, 4 * i + 1, none⟩) hgy).trans (fy 1 (by decide))
      have y2 := (hb.cell (p := ⟨gy, 4 * i + 2, none⟩) hgy).trans (fy 2 (by decide))
      have y3 := (hb.cell (p := ⟨gy, 4 * i + 3, none⟩) hgy).trans (fy 3 (by decide))
      simp only [Tk.cells, List.getElem?_cons_zero, List.getElem?_cons_succ, Nat.add_zero] at x0 x1 x2 x3 y0 y1 y2 y3
      have m4 : i * 4 = 4 * i := Nat.mul_comm _ _
      clear hx hy fx fy
      generalize L[i] = t at *
      have kx : gx < wr.heap.size := Nat.lt_of_lt_of_le hgx hb.size
      have ky : gy < wr.heap.size := Nat.lt_of_lt_of_le hgy hb.size
      go_wp2_with fail
      go_region
      go_wp2_with fail
      go_roundw
      case rel => exact ⟨i + 1, by go_num, by omega, hb.drew⟩
      case measure => simp [intOf]; omega
    · obtain rfl : i = L.length := by omega
      clear hx hy
      go_wp2_with fail
      go_ret
      exact ⟨rfl, hb⟩
end Go.Proofs.YtjepokoeljpflaaDoor
