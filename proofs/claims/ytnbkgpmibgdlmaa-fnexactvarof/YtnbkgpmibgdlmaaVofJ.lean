/- Names from the last one on: plain lemmas; where a row of them lies. -/
import Derived.Test.YtnbkgpmibgdlmaaVofG
namespace Go.Proofs.Ytnbkgpmibgdlmaa
open Go.RowKit

theorem bk_take (zs : List NameD) (k : Nat) (hk : k ≤ zs.length) : (bkUp zs k).map Prod.snd = zs.reverse.take k := by
  apply List.ext_getElem
  · simp [bkUp]; omega
  · intro j h1 h2
    have hj : j < k := by simpa [bkUp] using h1
    simp only [bkUp, List.getElem_map, List.getElem_range, List.getElem_take, List.getElem_reverse]
    rw [bkAt_some (by omega)]
theorem find_none {zs : List NameD} {s : ByteArray} (h : ∀ p ∈ bkUp zs zs.length, ¬ p.2.text = s) : zs.reverse.find? (fun n => decide (n.text = s)) = none := by
  rw [List.find?_eq_none]
  intro n hn hs
  have ht := bk_take zs zs.length (Nat.le_refl _)
  rw [show zs.reverse.take zs.length = zs.reverse by rw [← List.length_reverse]; exact List.take_length] at ht
  rw [← ht] at hn
  obtain ⟨p, hp, rfl⟩ := List.mem_map.1 hn
  exact h p hp (by simpa using hs)
theorem find_some {zs : List NameD} {s : ByteArray} {k : Nat} {ini : List (Nat × NameD)} {last : Nat × NameD} (hk : k ≤ zs.length) (e : bkUp zs k = ini ++ [last]) (h : ∀ p ∈ ini, ¬ p.2.text = s) (hl : last.2.text = s) : zs.reverse.find? (fun n => decide (n.text = s)) = some last.2 := by
  have ht := bk_take zs k hk
  rw [e, List.map_append, List.map_cons, List.map_nil] at ht
  rw [← List.take_append_drop k zs.reverse, ← ht, List.find?_append, List.find?_append]
  have h1 : (ini.map Prod.snd).find? (fun n => decide (n.text = s)) = none := by
    rw [List.find?_eq_none]
    intro n hn hs
    obtain ⟨p, hp, rfl⟩ := List.mem_map.1 hn
    exact h p hp (by simpa using hs)
  rw [h1]
  simp [hl]
theorem scope_len {ps : List ProtoD} (f : FrameD) (hb : ∀ p ∈ ps, p.names.length ≤ 1048576) : (scope ps f).length ≤ 1048576 := by
  unfold scope
  split
  · split
    · simp
    · rename_i p hp
      exact Nat.le_trans (List.length_filter_le _ _) (hb p (List.mem_of_getElem? hp))
  · simp
theorem nm_get (l : List NameD) (j m : Nat) (hj : j < l.length) (hm : m < 4) : (nmCells l)[4 * j + m]? = (l[j]).cs[m]? := by
  unfold nmCells
  induction l generalizing j with
  | nil => simp at hj
  | cons t l ih =>
    have h4 : t.cs.length = 4 := rfl
    rw [List.flatMap_cons]
    cases j with
    | zero => rw [List.getElem?_append_left (by omega)]; simp
    | succ j =>
      rw [List.getElem?_append_right (by omega), show 4 * (j + 1) + m - t.cs.length = 4 * j + m by omega, ih j (by simpa using hj)]
      simp
theorem nm_at {w : World} {B n₀ : Nat} {na : Option Addr} {nc : Nat} {zs : List NameD} (h : w.ownsRow B 131 4 (.slice na zs.length nc) zs.length (nmCells zs)) (hw : w.heap.size ≤ n₀) : NmAt n₀ w (.slice na zs.length nc) zs := by
  rcases h.2 with ⟨e, h0⟩ | ⟨g, cap, cur, e, hB, hg, hr⟩
  · left
    have hz : zs = [] := List.eq_nil_of_length_eq_zero h0
    exact ⟨e, hz⟩
  · right
    refine ⟨g, 0, cap, e, Nat.lt_of_lt_of_le (Array.getElem?_eq_some_iff.1 hg).1 hw, fun j hj => ?_⟩
    have key := fun m (hm : m < 4) v (hv : (zs[j]).cs[m]? = some v) => World.ownsRow.cells h (g := g) (by rw [e]; rfl) (4 * j + m) v (by rw [nm_get zs j m hj hm]; exact hv)
    have hadd : ∀ i : Nat, (⟨g, 0, none⟩ : Addr).add i = ⟨g, i, none⟩ := fun i => by unfold Addr.add; split <;> simp_all
    have k0 := key 0 (by decide) _ rfl
    have k1 := key 1 (by decide) _ rfl
    have k2 := key 2 (by decide) _ rfl
    have k3 := key 3 (by decide) _ rfl
    rw [hadd] at k0 k1 k2 k3
    simp only [Nat.zero_add, Nat.add_zero] at k0 ⊢
    exact ⟨k0, k1, k2, k3⟩
/-- A row in memory is kept where no row of cells is written. -/
theorem row_kept {W W' : World} {row : Option Nat} {b : Nat} {cs : Array Value} {t : TypeId} {z : Nat × Nat} (h : W.heap[b]? = some (.cells cs t z)) (hg : W.grownBy W' row) (hr : ∀ r, row = some r → ∃ o : Obj, W.heap[r]? = some o ∧ o.isCells = false) : W'.heap[b]? = some (.cells cs t z) :=
  (hg.block b (Array.getElem?_eq_some_iff.1 h).1 (fun e => by
    obtain ⟨o, ho, hc⟩ := hr b e.symm
    rw [h] at ho
    cases ho
    simp [Obj.isCells] at hc)).trans h
theorem tl_injv {a b : ByteArray} (h : a.toList = b.toList) : a = b := by
  rw [ByteArray.toList_eq, ByteArray.toList_eq] at h
  have := Array.ext' h
  cases a
  cases b
  simp_all
theorem var_set {W : World} {b : Nat} {t : TypeId} {z0 z1 z2 z3 : Value} (v0 v1 v2 v3 : Value) (h : W.heap[b]? = some (.cells #[z0, z1, z2, z3] t (0, 0))) : ((((W.setCell ⟨b, 0, none⟩ v0).setCell ⟨b, 1, none⟩ v1).setCell ⟨b, 2, none⟩ v2).setCell ⟨b, 3, none⟩ v3).heap[b]? = some (.cells #[v0, v1, v2, v3] t (0, 0)) := by
  have h1 := heap_setCell_same _ _ 0 _ _ v0 h
  have h2 := heap_setCell_same _ _ 1 _ _ v1 h1
  have h3 := heap_setCell_same _ _ 2 _ _ v2 h2
  have h4 := heap_setCell_same _ _ 3 _ _ v3 h3
  exact h4
theorem others_below {W W' : World} (h : Below W.heap.size W W') : Go.KeepsOthers W W' := ⟨h.size, fun k _ hk _ => (h.block k (Array.getElem?_eq_some_iff.1 hk).1).trans hk⟩
end Go.Proofs.Ytnbkgpmibgdlmaa
