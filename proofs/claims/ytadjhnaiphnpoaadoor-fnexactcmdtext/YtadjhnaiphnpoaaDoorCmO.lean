/- A command that was handed in: its three cells. -/
import Derived.Test.YtadjhnaiphnpoaaDoorCmZ
import Derived.OpenShut
import Derived.Deep.Slices
import Derived.Deep.Strs
namespace Go.Proofs.YtadjhnaiphnpoaaDoor
open Go.RowKit Go.WideShapes Go.Deep

theorem cells_cmd : Tryd.prog.cellsOf 32 = 3 := by kernel_rfl
theorem vcells_str : Tryd.prog.cellsOf 9 = 1 := by kernel_rfl
theorem vcells_int : Tryd.prog.cellsOf 3 = 1 := by kernel_rfl
theorem three {α : Type} {l : List α} (h : l.length = 3) : ∃ c0 c1 c2, l = [c0, c1, c2] := by
  match l, h with
  | [c0, c1, c2], _ => exact ⟨c0, c1, c2, rfl⟩

theorem vfield {P : Program} {H : Type} {enc : TypeId × Value → H} {W : World} {sp : Nat → Bool} {hd : Bool} {n : Nat} {cs : List Value} {xs : List (DataW H × List MemPlace)} (j : Nat) (c : Value) (T : TypeId) (f : Field)
    (hj : cs[j]? = some c) (ht : f.type = T) (ho : f.offset = j) (hc : P.cellsOf T = 1)
    (hx : DataW.trod enc P W 0 sp hd n f.type (List.take (P.cellsOf f.type) (List.drop f.offset cs)) = xs[j]?) (hlt : j < xs.length) : ∃ x, DataW.trod enc P W 0 sp hd n T [c] = some x := by
  subst ht
  rw [hc, ho] at hx
  refine ⟨xs[j], ?_⟩
  rw [← List.getElem?_eq_getElem hlt, ← hx]
  congr 1
  have := List.getElem?_drop (xs := cs) (i := j) (j := 0)
  rw [Nat.add_zero, hj] at this
  cases hd' : List.drop j cs with
  | nil => rw [hd'] at this; simp at this
  | cons y l => rw [hd'] at this; simp at this; subst this; rfl

set_option maxRecDepth 100000 in
theorem cmd_open {H : Type} {enc : TypeId × Value → H} {W : World} {sp : Nat → Bool} {hd : Bool} {fuel : Nat} {cs : List Value} {x : DataW H × List MemPlace} (h : DataW.trod enc Tryd.prog W 0 sp hd fuel 32 cs = some x) :
    ∃ s n t, cs = [.string s, .int .i64 n, .string t] ∧ CmdOk s n t := by
  obtain ⟨xs, n, hn, _, hlen, hxl, hf⟩ := DataW.trod_struct Tryd.underlying32 h
  rw [cells_cmd] at hlen
  obtain ⟨c0, c1, c2, rfl⟩ := three hlen
  obtain ⟨x0, f0⟩ := vfield 0 c0 9 _ rfl rfl rfl vcells_str (hf 0 _ rfl) (by rw [hxl]; decide)
  obtain ⟨x1, f1⟩ := vfield 1 c1 3 _ rfl rfl rfl vcells_int (hf 1 _ rfl) (by rw [hxl]; decide)
  obtain ⟨x2, f2⟩ := vfield 2 c2 9 _ rfl rfl rfl vcells_str (hf 2 _ rfl) (by rw [hxl]; decide)
  obtain ⟨s, e0, _, hs⟩ := DataW.trod_string Tryd.underlying9 f0
  obtain ⟨m, e1, _, hm⟩ := DataW.trod_int Tryd.underlying3 f1
  obtain ⟨t, e2, _, ht⟩ := DataW.trod_string Tryd.underlying9 f2
  simp only [List.cons.injEq, and_true] at e0 e1 e2
  subst e0 e1 e2
  have bm := bounds_i64 hm
  exact ⟨s, m, t, rfl, bm.1, bm.2, hs, ht⟩
end Go.Proofs.YtadjhnaiphnpoaaDoor
