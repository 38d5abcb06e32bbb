/- A table is put anew: the specification's SetAt. -/
import Derived.Test.YtbdpfmkpjeleaaaSetW
import Derived.Test.YtbdpfmkpjeleaaaNewW
import Derived.Test.YtbdpfmkpjeleaaaNewF
namespace Go.Proofs.Ytbdpfmkpjeleaaa
open Go.RowKit

theorem spine_set {w : World} {B g n c i : Nat} {T : TypeId} {v : Value} {xs : List Value} (h : w.ownsRow B T 1 (.slice (some ⟨g, 0, none⟩) n c) n xs) (hi : i < n) : (w.setCell ⟨g, i, none⟩ v).ownsRow B T 1 (.slice (some ⟨g, 0, none⟩) n c) n (xs.set i v) := by
  obtain ⟨h1, h2⟩ := h
  refine ⟨by rw [List.length_set]; exact h1, ?_⟩
  rcases h2 with ⟨e, _⟩ | ⟨g', cap, cur, e, hB, hg, hn, hm, hs, ht⟩
  · cases e
  · cases e
    refine .inr ⟨g, c, cur.setIfInBounds i v, rfl, hB, heap_setCell_same _ _ _ _ _ _ hg, hn, hm, by simpa using hs, ?_⟩
    rw [← ht, Nat.mul_one]
    refine List.ext_getElem? fun m => ?_
    simp only [List.getElem?_take, List.getElem?_set, Array.getElem?_toList, Array.getElem?_setIfInBounds, List.length_take, Array.length_toList]
    rw [hs, Nat.mul_one]
    by_cases e : i = m
    · subst e; simp only [if_true, hi, show i < c by omega]; rw [if_pos (by omega)]
    · simp only [if_neg e]
theorem spine_addr {w : World} {B : Nat} {sp cl : Sl} {ss : List Sl} {xss : List (List Value)} {ys : List Value} (h : HOwn w B sp cl ss xss ys) (i : Nat) (hi : i < ss.length) : sp.n = ss.length ∧ ∃ g, sp.a = some ⟨g, 0, none⟩ ∧ w.cell? ⟨g, i, none⟩ = some (ss[i]'hi).v ∧ w.frozen? ⟨g, i, none⟩ = false ∧ g < w.heap.size := by
  have hl := h.lay.len
  have hr := row_of_own h.spine
  obtain ⟨g, e, _, _, hg, hc⟩ := hr.cell i (by rw [List.length_map]; exact hi)
  refine ⟨hl, g, e, by rw [hc, List.getElem?_map, List.getElem?_eq_getElem hi]; rfl, ?_, hg⟩
  rcases hr.2 with ⟨e1, _⟩ | ⟨g', cs, e1, _, _, hh, _⟩
  · rw [e1] at e; cases e
  · rw [e1] at e; cases e; exact frozen_of_row _ _ _ _ _ hh
theorem VarH.setTable {w w3 : World} {B s0 g i : Nat} {sp cl s : Sl} {ss : List Sl} {xss : List (List Value)} {ys xs : List Value} (h : VarH w B s0 sp cl ss xss ys) (hb : Below w.heap.size w w3) (hr : Row w3 w.heap.size w3.heap.size 61 6 s xs) (hg : sp.a = some ⟨g, 0, none⟩) (hi : i < ss.length) (hB : B ≤ w.heap.size) :
    VarH (w3.setCell ⟨g, i, none⟩ s.v) B s0 sp cl (ss.set i s) (xss.set i xs) ys ∧ (∀ (b : Nat) (cs : Array Value), w.heap[b]? = some (Obj.cells cs 30 (0, 0)) → (w3.setCell ⟨g, i, none⟩ s.v).heap[b]? = w.heap[b]?) ∧ Below B w (w3.setCell ⟨g, i, none⟩ s.v) := by
  have h3 := h.below hb
  have hl := h3.own.lay.len
  have hown := h3.own.spine
  have hgB : B ≤ g ∧ g < w3.heap.size := hown.lt g (by unfold Sl.v; rw [hg]; rfl)
  obtain ⟨cur, hgr⟩ : ∃ cur, w3.heap[g]? = some (.cells cur 59 (0, 0)) := by
    rcases hown.2 with ⟨e, _⟩ | ⟨g', cap, cur, e, _, hh, _⟩
    · unfold Sl.v at e; rw [hg] at e; cases e
    · unfold Sl.v at e; rw [hg] at e; cases e; exact ⟨cur, hh⟩
  have far : ∀ b, b ≠ g → (w3.setCell ⟨g, i, none⟩ s.v).heap[b]? = w3.heap[b]? := fun b hne => heap_setCell_other _ _ _ _ hne
  have ne : ∀ b cs T, w3.heap[b]? = some (.cells cs T (0, 0)) → T ≠ 59 → b ≠ g := fun b cs T h1 h2 e => by
    subst e; rw [hgr] at h1; simp only [Option.some.injEq, Obj.cells.injEq] at h1; exact h2 h1.2.1.symm
  refine ⟨⟨(far s0 (ne s0 _ _ h3.var (by decide))).trans h3.var, ⟨?_, ?_, ?_⟩⟩, fun b cs hc => ?_, (hb.mono hB).setCell (by exact hgB.1) _⟩
  · have e : (ss.set i s).map Sl.v = (ss.map Sl.v).set i s.v := by rw [List.map_set]
    rw [e]
    unfold Sl.v at hown ⊢
    rw [hg] at hown ⊢
    exact spine_set hown (by rw [hl]; exact hi)
  · refine (Tabs.set (m := w.heap.size) (lo := B) (hi := w3.heap.size) ?_ ?_ hb.size hB i).wide (Nat.le_refl _) (by simp)
    · exact (h.own.tabs.below hb).keep fun b _ _ ⟨cs, hc⟩ => far b (ne b cs _ hc (by decide))
    · exact hr.keep fun b _ _ ⟨cs, hc⟩ => far b (ne b cs _ hc (by decide))
  · exact own_keep h3.own.cells fun b cs _ hc => far b (ne b cs _ hc (by decide))
  · have hc3 := (hb.block b (Array.getElem?_eq_some_iff.1 hc).1).trans hc
    rw [far b (ne b cs _ hc3 (by decide)), hb.block b (Array.getElem?_eq_some_iff.1 hc).1]

def setL (h : Hp) (tn : Int) (k v : Vl) : List Pr := withF k v (decide (v.k = 0)) (h.ts[tn.toNat]?.getD [])
def setOk (h : Hp) (tk tn : Int) (k v : Vl) : Bool := tabB h.ts.length tk tn && (!decide (k.k = 0) && decide ((setL h tn k v).length ≤ 200))
def Hp.setAt (h : Hp) (tk tn : Int) (k v : Vl) : Hp := if setOk h tk tn k v = true then ⟨h.ts.set tn.toNat (setL h tn k v), h.vs⟩ else h
def setU (b : Bool) : ByteArray := if b then ⟨#[]⟩ else ⟨#[105, 110, 100, 101, 120]⟩
theorem ok_of_tv {w : World} {lo hi : Nat} {h : Hp} {a b : Option Addr} (hT : TAt w lo hi h.ts a) (hV : VAt w lo hi h.vs b) : h.Ok := by
  refine ⟨fun i hi' => ?_, fun i hi' => (hV i hi').1⟩
  obtain ⟨hl, _, _, _, _, _, _, _, _, hP⟩ := hT i hi'
  exact ⟨hl, fun j hj => (hP j hj).1⟩
theorem set_xss (h : Hp) (i : Nat) (l : List Pr) : (⟨h.ts.set i l, h.vs⟩ : Hp).xss = h.xss.set i (flatP l) := by unfold Hp.xss; rw [List.map_set]
end Go.Proofs.Ytbdpfmkpjeleaaa
