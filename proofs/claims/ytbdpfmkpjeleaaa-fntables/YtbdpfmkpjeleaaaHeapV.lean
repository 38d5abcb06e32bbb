/- A variable that holds a heap of one's own: a table more, a cell more. -/
import Derived.Test.YtbdpfmkpjeleaaaHeapW
import Derived.Deep.RegionLaw
import Derived.Deep.Cut
namespace Go.Proofs.Ytbdpfmkpjeleaaa
open Go.RowKit

/-- A heap of one's own from block B on, onto whose rows one may append. -/
structure HOwn (w : World) (B : Nat) (sp cl : Sl) (ss : List Sl) (xss : List (List Value)) (ys : List Value) : Prop where
  spine : w.ownsRow B 59 1 sp.v sp.n (ss.map Sl.v)
  tabs : Tabs w B w.heap.size ss xss
  cells : w.ownsRow B 32 3 cl.v cl.n ys
theorem HOwn.lay {w : World} {B : Nat} {sp cl : Sl} {ss : List Sl} {xss : List (List Value)} {ys : List Value} (h : HOwn w B sp cl ss xss ys) : HLay w B w.heap.size sp cl ss xss ys :=
  ⟨row_of_own h.spine, h.tabs, row_of_own h.cells⟩
theorem HOwn.below {w w' : World} {B : Nat} {sp cl : Sl} {ss : List Sl} {xss : List (List Value)} {ys : List Value} (h : HOwn w B sp cl ss xss ys) (hb : Below w.heap.size w w') : HOwn w' B sp cl ss xss ys :=
  ⟨own_below h.spine hb, (h.tabs.below hb).wide (Nat.le_refl _) hb.size, own_below h.cells hb⟩

theorem news_of_vat {w : World} {lo hi : Nat} {vs : List Vl} {a : Option Addr} (h : VAt w lo hi vs a) : ∀ (j : Nat) (u : Value), (flatV vs)[j]? = some u → ∃ ad, a = some ad ∧ w.cell? (ad.add j) = some u := by
  intro j u hu
  obtain ⟨hj, _⟩ := List.getElem?_eq_some_iff.1 hu
  rw [flatV_len] at hj
  obtain ⟨_, g, o, e, _, _, hc⟩ := h (j / 3) (by omega)
  refine ⟨_, e, ?_⟩
  have hadd : (⟨g, o, none⟩ : Addr).add j = ⟨g, o + 3 * (j / 3) + j % 3, none⟩ := by unfold Addr.add; split <;> simp_all <;> omega
  rw [hadd, hc (j % 3) (by omega), ← flatV_get vs (j / 3) (by omega) (j % 3) (by omega), ← hu]
  congr 1; omega
theorem news_of_pat {w : World} {lo hi : Nat} {vs : List Pr} {a : Option Addr} (h : PAt w lo hi vs a) : ∀ (j : Nat) (u : Value), (flatP vs)[j]? = some u → ∃ ad, a = some ad ∧ w.cell? (ad.add j) = some u := by
  intro j u hu
  obtain ⟨hj, _⟩ := List.getElem?_eq_some_iff.1 hu
  rw [flatP_len] at hj
  obtain ⟨_, g, o, e, _, _, hc⟩ := h (j / 6) (by omega)
  refine ⟨_, e, ?_⟩
  have hadd : (⟨g, o, none⟩ : Addr).add j = ⟨g, o + 6 * (j / 6) + j % 6, none⟩ := by unfold Addr.add; split <;> simp_all <;> omega
  rw [hadd, hc (j % 6) (by omega), ← flatP_get vs (j / 6) (by omega) (j % 6) (by omega), ← hu]
  congr 1; omega
theorem one_flatV (vs : List Vl) : ∀ u ∈ flatV vs, u.oneCell' = true := by
  intro u hu
  obtain ⟨v, _, hv⟩ := List.mem_flatMap.1 hu
  simp only [Vl.cs, List.mem_cons, List.not_mem_nil, or_false] at hv
  rcases hv with rfl | rfl | rfl <;> rfl
theorem one_flatP (vs : List Pr) : ∀ u ∈ flatP vs, u.oneCell' = true := by
  intro u hu
  obtain ⟨v, _, hv⟩ := List.mem_flatMap.1 hu
  simp only [Pr.cs, List.mem_cons, List.not_mem_nil, or_false] at hv
  rcases hv with rfl | rfl | rfl | rfl | rfl | rfl <;> rfl
theorem own_ne {w : World} {B : Nat} {T T' : TypeId} {k : Nat} {v : Value} {n b : Nat} {xs : List Value} {cs : Array Value} {fr : Nat × Nat} (h : w.ownsRow B T k v n xs) (hb : w.heap[b]? = some (.cells cs T' fr)) (hT : T ≠ T') : some b ≠ v.ownBlock := by
  rcases h.2 with ⟨rfl, _⟩ | ⟨g, cap, cur, rfl, _, hg, _⟩
  · intro e; cases e
  · intro e
    simp only [Value.ownBlock, Option.some.injEq] at e
    subst e
    rw [hg] at hb
    simp only [Option.some.injEq, Obj.cells.injEq] at hb
    exact hT hb.2.1
theorem own_grown {w w' : World} {B B' : Nat} {T T' : TypeId} {k k' : Nat} {v v' : Value} {n n' : Nat} {xs xs' : List Value} (h : w.ownsRow B T k v n xs) (h' : w.ownsRow B' T' k' v' n' xs') (hg : w.grownBy w' v'.ownBlock) (hT : T ≠ T') : w'.ownsRow B T k v n xs :=
  own_keep h fun _ _ _ hc => hg.block _ (Array.getElem?_eq_some_iff.1 hc).1 (own_ne h' hc hT.symm)
theorem own_lit0 (w : World) (B : Nat) (e : TypeId) (k : Nat) (hB : B ≤ w.heap.size) : (w.alloc (.cells #[] e)).ownsRow B e k (.slice (some ⟨w.heap.size, 0, none⟩) 0 0) 0 [] := by
  have := World.ownsRow_lit (base := B) (e := e) (size := k) w #[] 0 hB (by decide) (by simp)
  simpa using this
theorem tabs_grown {w w' : World} {lo hi B : Nat} {T' : TypeId} {k' : Nat} {v' : Value} {n' : Nat} {xs' : List Value} {ss : List Sl} {xss : List (List Value)} (h : Tabs w lo hi ss xss) (h' : w.ownsRow B T' k' v' n' xs') (hg : w.grownBy w' v'.ownBlock) (hT : T' ≠ 61) : Tabs w' lo hi ss xss :=
  h.keep fun _ _ _ ⟨_, hc⟩ => hg.block _ (Array.getElem?_eq_some_iff.1 hc).1 (own_ne h' hc hT)


/-- A variable at block s0 that holds a heap of one's own, from block B on. -/
structure VarH (w : World) (B s0 : Nat) (sp cl : Sl) (ss : List Sl) (xss : List (List Value)) (ys : List Value) : Prop where
  var : w.heap[s0]? = some (.cells #[sp.v, cl.v] 30 (0, 0))
  own : HOwn w B sp cl ss xss ys
theorem VarH.below {w w' : World} {B s0 : Nat} {sp cl : Sl} {ss : List Sl} {xss : List (List Value)} {ys : List Value} (h : VarH w B s0 sp cl ss xss ys) (hb : Below w.heap.size w w') : VarH w' B s0 sp cl ss xss ys :=
  ⟨(hb.block s0 (Array.getElem?_eq_some_iff.1 h.var).1).trans h.var, h.own.below hb⟩
theorem VarH.lt {w : World} {B s0 : Nat} {sp cl : Sl} {ss : List Sl} {xss : List (List Value)} {ys : List Value} (h : VarH w B s0 sp cl ss xss ys) : s0 < w.heap.size := (Array.getElem?_eq_some_iff.1 h.var).1
/-- What is at the append onto the tables' row, and at the store behind it. -/
theorem VarH.table_store {w w4 w5 : World} {B s0 : Nat} {sp cl : Sl} {ss : List Sl} {xss : List (List Value)} {ys : List Value} (h : VarH w B s0 sp cl ss xss ys) (hb : Below w.heap.size w w4) (O : Obj) (hg : (w4.alloc O).grownBy w5 sp.v.ownBlock) :
    w5.heap[s0]? = some (.cells #[sp.v, cl.v] 30 (0, 0)) := by
  have h4 := h.below (hb.trans ((bel_alloc w4 O).mono hb.size))
  exact (hg.block s0 h4.lt (own_ne h4.own.spine h4.var (by decide))).trans h4.var
theorem VarH.cell_store {w w4 w5 : World} {B s0 : Nat} {sp cl : Sl} {ss : List Sl} {xss : List (List Value)} {ys : List Value} (h : VarH w B s0 sp cl ss xss ys) (hb : Below w.heap.size w w4) (O : Obj) (hg : (w4.alloc O).grownBy w5 cl.v.ownBlock) :
    w5.heap[s0]? = some (.cells #[sp.v, cl.v] 30 (0, 0)) := by
  have h4 := h.below (hb.trans ((bel_alloc w4 O).mono hb.size))
  exact (hg.block s0 h4.lt (own_ne h4.own.cells h4.var (by decide))).trans h4.var
theorem VarH.table {w w4 w5 : World} {B s0 : Nat} {sp cl s4 : Sl} {ss : List Sl} {xss : List (List Value)} {ys xs : List Value} (h : VarH w B s0 sp cl ss xss ys) (hb : Below w.heap.size w w4) (hr : Row w4 w.heap.size w4.heap.size 61 6 s4 xs) (O : Obj) (hg : (w4.alloc O).grownBy w5 sp.v.ownBlock) (b5 : Option Addr) (c5 : Nat)
    (h5 : w5.ownsRow B 59 1 (.slice b5 (sp.n + 1) c5) (sp.n + 1) (ss.map Sl.v ++ [s4.v])) (hB : B ≤ w.heap.size) (hs : B ≤ s0) :
    VarH (w5.setCell ⟨s0, 0, none⟩ (.slice b5 (sp.n + 1) c5)) B s0 ⟨b5, sp.n + 1, c5⟩ cl (ss ++ [s4]) (xss ++ [xs]) ys ∧ (∀ b cs, w.heap[b]? = some (.cells cs 30 (0, 0)) → b ≠ s0 → (w5.setCell ⟨s0, 0, none⟩ (.slice b5 (sp.n + 1) c5)).heap[b]? = w.heap[b]?) ∧ Below B w (w5.setCell ⟨s0, 0, none⟩ (.slice b5 (sp.n + 1) c5)) := by
  have hbO : Below w.heap.size w (w4.alloc O) := hb.trans ((bel_alloc w4 O).mono hb.size)
  have h4 := h.below hbO
  have e5 := VarH.table_store h hb O hg
  have far : ∀ b, b ≠ s0 → (w5.setCell ⟨s0, 0, none⟩ (.slice b5 (sp.n + 1) c5)).heap[b]? = w5.heap[b]? := fun b hne => heap_setCell_other _ _ _ _ hne
  have nev : ∀ (W : World) b cs T, W.heap[s0]? = some (.cells #[sp.v, cl.v] 30 (0, 0)) → W.heap[b]? = some (.cells cs T (0, 0)) → T ≠ 30 → b ≠ s0 := fun W b cs T h1 h2 h3 e => by
    subst e; rw [h1] at h2; simp only [Option.some.injEq, Obj.cells.injEq] at h2; exact h3 h2.2.1.symm
  have hgsz := hg.size
  have hasz : (w4.alloc O).heap.size = w4.heap.size + 1 := size_alloc _ _
  have hbs := hb.size
  have hB5 : Below B w w5 := (hbO.mono hB).grown hg (by omega) (fun k hk => by
    rcases h4.own.spine.2 with ⟨e, _⟩ | ⟨g, cap, cur, e, hBg, _⟩
    · rw [e] at hk; cases hk
    · rw [e] at hk; cases hk; exact hBg)
  refine ⟨⟨?_, ⟨?_, ?_, ?_⟩⟩, fun b cs hc hne => ?_, hB5.setCell hs _⟩
  · have := heap_setCell_same w5 s0 0 _ _ (.slice b5 (sp.n + 1) c5) e5
    simpa [Sl.v] using this
  · rw [List.map_append]
    exact own_keep h5 fun g cs _ hc => far g (nev w5 g cs _ e5 hc (by decide))
  · refine Tabs.snoc (m := w.heap.size) ?_ ?_ (by simp; omega) hB
    · exact (tabs_grown (h.own.tabs.below hbO) h4.own.spine hg (by decide)).keep (fun b _ _ ⟨cs, hc⟩ => far b (nev w5 b cs _ e5 hc (by decide)))
    · have r1 := (hr.below (bel_alloc w4 O))
      have r2 : Row w5 w.heap.size w4.heap.size 61 6 s4 xs := r1.keep fun b _ _ ⟨cs, hc⟩ => hg.block b (Array.getElem?_eq_some_iff.1 hc).1 (own_ne h4.own.spine hc (by decide))
      exact (r2.keep fun b _ _ ⟨cs, hc⟩ => far b (nev w5 b cs _ e5 hc (by decide))).wide (Nat.le_refl _) (by simp; omega)
  · exact own_keep (own_grown h4.own.cells h4.own.spine hg (by decide)) fun g cs _ hc => far g (nev w5 g cs _ e5 hc (by decide))
  · have hlt := (Array.getElem?_eq_some_iff.1 hc).1
    have hc4 := (hbO.block b hlt).trans hc
    rw [far b hne, hg.block b (by omega) (own_ne h4.own.spine hc4 (by decide)), hbO.block b hlt]
theorem VarH.cell {w w4 w5 : World} {B s0 : Nat} {sp cl : Sl} {ss : List Sl} {xss : List (List Value)} {ys xs : List Value} (h : VarH w B s0 sp cl ss xss ys) (hb : Below w.heap.size w w4) (O : Obj) (hg : (w4.alloc O).grownBy w5 cl.v.ownBlock) (b5 : Option Addr) (c5 : Nat)
    (h5 : w5.ownsRow B 32 3 (.slice b5 (cl.n + 1) c5) (cl.n + 1) (ys ++ xs)) (hB : B ≤ w.heap.size) (hs : B ≤ s0) :
    VarH (w5.setCell ⟨s0, 1, none⟩ (.slice b5 (cl.n + 1) c5)) B s0 sp ⟨b5, cl.n + 1, c5⟩ ss xss (ys ++ xs) ∧ (∀ b cs, w.heap[b]? = some (.cells cs 30 (0, 0)) → b ≠ s0 → (w5.setCell ⟨s0, 1, none⟩ (.slice b5 (cl.n + 1) c5)).heap[b]? = w.heap[b]?) ∧ Below B w (w5.setCell ⟨s0, 1, none⟩ (.slice b5 (cl.n + 1) c5)) := by
  have hbO : Below w.heap.size w (w4.alloc O) := hb.trans ((bel_alloc w4 O).mono hb.size)
  have h4 := h.below hbO
  have e5 := VarH.cell_store h hb O hg
  have far : ∀ b, b ≠ s0 → (w5.setCell ⟨s0, 1, none⟩ (.slice b5 (cl.n + 1) c5)).heap[b]? = w5.heap[b]? := fun b hne => heap_setCell_other _ _ _ _ hne
  have nev : ∀ (W : World) b cs T, W.heap[s0]? = some (.cells #[sp.v, cl.v] 30 (0, 0)) → W.heap[b]? = some (.cells cs T (0, 0)) → T ≠ 30 → b ≠ s0 := fun W b cs T h1 h2 h3 e => by
    subst e; rw [h1] at h2; simp only [Option.some.injEq, Obj.cells.injEq] at h2; exact h3 h2.2.1.symm
  have hgsz := hg.size
  have hasz : (w4.alloc O).heap.size = w4.heap.size + 1 := size_alloc _ _
  have hbs := hb.size
  have hB5 : Below B w w5 := (hbO.mono hB).grown hg (by omega) (fun k hk => by
    rcases h4.own.cells.2 with ⟨e, _⟩ | ⟨g, cap, cur, e, hBg, _⟩
    · rw [e] at hk; cases hk
    · rw [e] at hk; cases hk; exact hBg)
  refine ⟨⟨?_, ⟨?_, ?_, ?_⟩⟩, fun b cs hc hne => ?_, hB5.setCell hs _⟩
  · have := heap_setCell_same w5 s0 1 _ _ (.slice b5 (cl.n + 1) c5) e5
    simpa [Sl.v] using this
  · exact own_keep (own_grown h4.own.spine h4.own.cells hg (by decide)) fun g cs _ hc => far g (nev w5 g cs _ e5 hc (by decide))
  · exact ((tabs_grown h4.own.tabs h4.own.cells hg (by decide)).keep (fun b _ _ ⟨cs, hc⟩ => far b (nev w5 b cs _ e5 hc (by decide)))).wide (Nat.le_refl _) (by simp; omega)
  · exact own_keep h5 fun g cs _ hc => far g (nev w5 g cs _ e5 hc (by decide))
  · have hlt := (Array.getElem?_eq_some_iff.1 hc).1
    have hc4 := (hbO.block b hlt).trans hc
    rw [far b hne, hg.block b (by omega) (own_ne h4.own.cells hc4 (by decide)), hbO.block b hlt]
end Go.Proofs.Ytbdpfmkpjeleaaa
