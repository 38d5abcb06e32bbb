/- Variables that are laid somewhere among the calls of a drawn region: what later worlds keep of them; a heap and a value answered together. -/
import Derived.Test.YtjeoeijbgkfpjaaNewF
import Derived.Test.YtjeoeijbgkfpjaaNewW
namespace Go.Proofs.Ytjeoeijbgkfpjaa
open Go.RowKit

theorem table_ok {h : Hp} (hk : h.Ok) : h.table.Ok := by
  refine ⟨fun i hi => ?_, hk.2⟩
  unfold Hp.table at hi ⊢
  by_cases hf : 500 ≤ h.ts.length
  · simp only [if_pos hf] at hi ⊢; exact hk.1 i hi
  · simp only [if_neg hf] at hi ⊢
    by_cases hl : i < h.ts.length
    · simp only [List.getElem_append_left hl]; exact hk.1 i hl
    · rw [List.length_append, List.length_singleton] at hi
      obtain rfl : i = h.ts.length := by omega
      have e : (h.ts ++ [[]])[h.ts.length]'(by simp) = ([] : List Pr) := by simp
      simp only [e]
      exact ⟨by simp [maxLen], fun j hj => absurd hj (by simp)⟩
theorem table_wt (h : Hp) : h.table.wt ≤ h.wt + 1 := by
  unfold Hp.wt Hp.table wtT
  by_cases hf : 500 ≤ h.ts.length
  · simp only [if_pos hf]; omega
  · simp only [if_neg hf, List.map_append, List.sum_append]; simp; omega

/-- At block b, which was laid ahead of block B, lies O. -/
structure Zq (W : World) (b B : Nat) (O : Obj) : Prop where
  heap : W.heap[b]? = some O
  lt : b < B
theorem Zq.lt' {W : World} {b B : Nat} {O : Obj} (h : Zq W b B O) : b < W.heap.size := (Array.getElem?_eq_some_iff.1 h.heap).1
theorem bel_undrew {W W' : World} (h : Below W.drew.heap.size W.drew W') : Below W.heap.size W W' := ⟨h.os, h.tape, h.output, h.size, h.block⟩
theorem zq_b {W W' : World} {b B : Nat} {O : Obj} (h : Zq W b B O) (hb : Below W.heap.size W W') : Zq W' b W.heap.size O := ⟨(hb.block b h.lt').trans h.heap, h.lt'⟩
theorem zq_ba {W W' : World} {b B : Nat} {O P : Obj} (h : Zq W b B O) (hb : Below (W.alloc P).heap.size (W.alloc P) W') : Zq W' b (W.alloc P).heap.size O := by
  have hl : b < (W.alloc P).heap.size := by have := h.lt'; simp; omega
  exact ⟨(hb.block b hl).trans ((Below.heap_alloc _ _ _ h.lt').trans h.heap), hl⟩
theorem zq_1 {W W' : World} {O : Obj} (hb : Below (W.alloc O).heap.size (W.alloc O) W') : Zq W' W.heap.size (W.alloc O).heap.size O :=
  ⟨(hb.block _ (by simp)).trans (heap_alloc_new _ _), by simp⟩
theorem zq_in {W W' : World} {O P : Obj} (hb : Below ((W.alloc O).alloc P).heap.size ((W.alloc O).alloc P) W') : Zq W' W.heap.size ((W.alloc O).alloc P).heap.size O :=
  ⟨(hb.block _ (by simp; omega)).trans ((Below.heap_alloc _ _ _ (by simp)).trans (heap_alloc_new _ _)), by simp; omega⟩
theorem alloc_at (W : World) (O P : Obj) : ((W.alloc P).alloc O).heap[W.heap.size + 1]? = some O := by
  have := heap_alloc_new (W.alloc P) O
  rwa [size_alloc] at this
theorem zq_out {W W' : World} {O P : Obj} (hb : Below ((W.alloc P).alloc O).heap.size ((W.alloc P).alloc O) W') : Zq W' (W.heap.size + 1) ((W.alloc P).alloc O).heap.size O :=
  ⟨(hb.block _ (by simp)).trans (alloc_at _ _ _), by simp⟩
theorem zq_1d {W W' : World} {O : Obj} (hb : Below (W.alloc O).drew.heap.size (W.alloc O).drew W') : Zq W' W.heap.size (W.alloc O).drew.heap.size O := zq_1 (bel_undrew hb)
theorem zq_ind {W W' : World} {O P : Obj} (hb : Below ((W.alloc O).alloc P).drew.heap.size ((W.alloc O).alloc P).drew W') : Zq W' W.heap.size ((W.alloc O).alloc P).drew.heap.size O := zq_in (bel_undrew hb)
theorem zq_outd {W W' : World} {O P : Obj} (hb : Below ((W.alloc P).alloc O).drew.heap.size ((W.alloc P).alloc O).drew W') : Zq W' (W.heap.size + 1) ((W.alloc P).alloc O).drew.heap.size O := zq_out (bel_undrew hb)

theorem fin_keep {W F : World} {b B L : Nat} {g : Hp} {sp cl : Sl} {ss : List Sl} (ho : OwnH W B g sp cl ss) (hv : F.heap[b]? = some (.cells #[sp.v, cl.v] 30 (0, 0))) (hs : ∀ x, B ≤ x → x < W.heap.size → F.heap[x]? = W.heap[x]?) (hz : W.heap.size ≤ F.heap.size) (hL : L ≤ B) (hb : L ≤ b) : Keep F b L F.heap.size g sp cl ss := by
  have hl := ho.2.2.lay
  exact ⟨hv, hb, (Array.getElem?_eq_some_iff.1 hv).1, Nat.le_refl _, (hl.keep fun x h1 _ h3 => hs x h1 h3).wide hL hz⟩
/-- A variable that holds a value. -/
def VV (W : World) (b : Nat) (k n : Int) : Prop := W.heap[b]? = some (.cells #[.int .i64 k, .int .i64 n, .string ⟨#[]⟩] 32 (0, 0))
theorem VV.lt {W : World} {b : Nat} {k n : Int} (h : VV W b k n) : b < W.heap.size := (Array.getElem?_eq_some_iff.1 h).1
theorem VV.below {W W' : World} {b : Nat} {k n : Int} (h : VV W b k n) (hb : Below W.heap.size W W') : VV W' b k n := (hb.block b h.lt).trans h
theorem VV.out {W W' : World} {b l u : Nat} {k n : Int} (h : VV W b k n) (ho : Out W W' l u) (hd : b < l ∨ u ≤ b) : VV W' b k n := (ho.block b h.lt hd).trans h
theorem set2_at {W : World} {b : Nat} {cs : Array Value} {T : TypeId} {x y : Value} (h : W.heap[b]? = some (.cells cs T (0, 0))) : ((W.setCell ⟨b, 0, none⟩ x).setCell ⟨b, 1, none⟩ y).heap[b]? = some (.cells ((cs.setIfInBounds 0 x).setIfInBounds 1 y) T (0, 0)) :=
  heap_setCell_same _ b 1 _ _ y (heap_setCell_same _ b 0 _ _ x h)
theorem set3_at {W : World} {b : Nat} {cs : Array Value} {T : TypeId} {x y z : Value} (h : W.heap[b]? = some (.cells cs T (0, 0))) : (((W.setCell ⟨b, 0, none⟩ x).setCell ⟨b, 1, none⟩ y).setCell ⟨b, 2, none⟩ z).heap[b]? = some (.cells (((cs.setIfInBounds 0 x).setIfInBounds 1 y).setIfInBounds 2 z) T (0, 0)) :=
  heap_setCell_same _ b 2 _ _ z (set2_at h)
end Go.Proofs.Ytjeoeijbgkfpjaa
