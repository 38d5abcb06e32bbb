/- A new cell, by the specification and by the program. -/
import Derived.Test.YtbdpfmkpjeleaaaHeapY
namespace Go.Proofs.Ytbdpfmkpjeleaaa
open Go.RowKit

def addN (n : Nat) : Int := if 3000 ≤ n then -1 else (n : Int)
def addL (n : Nat) : Nat := if 3000 ≤ n then n else n + 1
def addY (n : Nat) (ys xs : List Value) : List Value := if 3000 ≤ n then ys else ys ++ xs
theorem HOwn.stored {w W : World} {B r : Nat} {sp cl : Sl} {ss : List Sl} {xss : List (List Value)} {ys : List Value} {cs : Array Value} {T : TypeId} (h : HOwn w B sp cl ss xss ys) (hr : w.heap[r]? = some (.cells cs T (0, 0)))
    (hT : T ≠ 59 ∧ T ≠ 61 ∧ T ≠ 32) (hW : ∀ b, b ≠ r → W.heap[b]? = w.heap[b]?) (hz : w.heap.size ≤ W.heap.size) : HOwn W B sp cl ss xss ys := by
  have ne : ∀ b cs' T', w.heap[b]? = some (.cells cs' T' (0, 0)) → T ≠ T' → b ≠ r := fun b cs' T' h1 h2 e => by
    subst e; rw [hr] at h1; simp only [Option.some.injEq, Obj.cells.injEq] at h1; exact h2 h1.2.1
  exact ⟨own_keep h.spine fun g cs _ hc => hW g (ne g cs _ hc hT.1), (h.tabs.keep fun b _ _ ⟨cs, hc⟩ => hW b (ne b cs _ hc hT.2.1)).wide (Nat.le_refl _) hz, own_keep h.cells fun g cs _ hc => hW g (ne g cs _ hc hT.2.2)⟩
theorem HOwn.base {w : World} {B B' : Nat} {sp cl : Sl} {ss : List Sl} {xss : List (List Value)} {ys : List Value} (h : HOwn w B sp cl ss xss ys) (hB : B' ≤ B) : HOwn w B' sp cl ss xss ys := by
  have f : ∀ {T k v n xs}, w.ownsRow B T k v n xs → w.ownsRow B' T k v n xs := fun h => ⟨h.1, h.2.imp_right fun ⟨g, cap, cur, e, hb, r⟩ => ⟨g, cap, cur, e, Nat.le_trans hB hb, r⟩⟩
  exact ⟨f h.spine, h.tabs.wide hB (Nat.le_refl _), f h.cells⟩

set_option maxRecDepth 100000 in
set_option maxHeartbeats 1600000 in
theorem addCell_any (w : World) (B s0 : Nat) (sp cl : Sl) (ss : List Sl) (xss : List (List Value)) (ys : List Value) (k n : Int) (s : ByteArray) (h : VarH w B s0 sp cl ss xss ys) (hB : B ≤ w.heap.size) (hs : B ≤ s0) (hn : cl.n ≤ 1048576) :
    Calls Try.prog 42 #[.pointer (some ⟨s0, 0, none⟩), .agg #[.int .i64 k, .int .i64 n, .string s]] w fun e w' => (∃ cl' : Sl, e = .returned (.int .i64 (addN cl.n)) ∧ cl'.n = addL cl.n ∧ VarH w' B s0 sp cl' ss xss (addY cl.n ys [.int .i64 k, .int .i64 n, .string s])) ∧ (∀ b cs, w.heap[b]? = some (.cells cs 30 (0, 0)) → b ≠ s0 → w'.heap[b]? = w.heap[b]?) ∧ Below B w w' := by
  obtain ⟨i0, hi0, hz0, hz1, hz2⟩ := info_parts info_val
  obtain ⟨ca, cn, cc⟩ := cl
  dsimp only at hn
  have HV : Hid (VarH w B s0 sp ⟨ca, cn, cc⟩ ss xss ys) := h
  have c1 := cell_of_row _ _ 1 _ _ _ h.var
  simp only [List.getElem?_toArray, List.getElem?_cons_zero, List.getElem?_cons_succ, Sl.v] at c1
  have nw : s0 < w.heap.size := h.lt
  have qw : ∀ O : Obj, (w.alloc O).cell? ⟨s0, 1, none⟩ = w.cell? ⟨s0, 1, none⟩ := fun O => (bel_alloc w O).cell nw
  clear h
  by_cases hf : 3000 ≤ cn
  · have HN : Hid (addN cn = -1) := by show _ = _; rw [addN, if_pos hf]
    have hfi : (3000 : Int) ≤ cn := by omega
    go_enter Try.func42, Try.ntmps42
    go_wp2_with fail
    go_ret
    exact ⟨⟨⟨ca, cn, cc⟩, by rw [HN.out]; rfl, by rw [addL, if_pos hf], by rw [addY, if_pos hf]; exact HV.out.below (bel_alloc _ _)⟩, fun b cs hc _ => (bel_alloc w _).block b (Array.getElem?_eq_some_iff.1 hc).1, (bel_alloc w _).mono hB⟩
  · have hlt : cn < 3000 := by omega
    have HN : Hid (addN cn = (cn : Int)) := by show _ = _; rw [addN, if_neg hf]
    go_enter Try.func42, Try.ntmps42
    go_wp2_with fail
    obtain ⟨W0, hW0⟩ : ∃ W0, W0 = w.alloc (Obj.cells #[.int .i64 k, .int .i64 n, .string s] 32) := ⟨_, rfl⟩
    have hb0 : Below w.heap.size w W0 := by rw [hW0]; exact bel_alloc _ _
    have r0 : W0.heap[w.heap.size]? = some (.cells #[.int .i64 k, .int .i64 n, .string s] 32 (0, 0)) := by rw [hW0]; exact heap_alloc_new _ _
    rw [← hW0]
    clear hW0 c1 qw
    have hv := HV.out.below hb0
    have v0 := cell_of_row _ _ 0 _ _ _ r0
    have v1 := cell_of_row _ _ 1 _ _ _ r0
    have v2 := cell_of_row _ _ 2 _ _ _ r0
    have c1 := cell_of_row _ _ 1 _ _ _ hv.var
    simp only [List.getElem?_toArray, List.getElem?_cons_zero, List.getElem?_cons_succ, Sl.v] at v0 v1 v2 c1
    have nv : w.heap.size < W0.heap.size := (Array.getElem?_eq_some_iff.1 r0).1
    have hz := hb0.size
    have OWN : W0.ownsRow B 32 3 (.slice ca cn cc) cn ys := hv.own.cells
    have n0 : s0 < W0.heap.size := hv.lt
    have qC : ∀ O : Obj, (W0.alloc O).cell? ⟨s0, 1, none⟩ = W0.cell? ⟨s0, 1, none⟩ := fun O => (bel_alloc W0 O).cell n0
    have q0 : ∀ O : Obj, (W0.alloc O).cell? ⟨w.heap.size, 0, none⟩ = W0.cell? ⟨w.heap.size, 0, none⟩ := fun O => (bel_alloc W0 O).cell nv
    have K5 : Hid (∀ (w5 : World) (O : Obj), (W0.drew.alloc O).grownBy w5 (Value.slice ca cn cc).ownBlock → w5.cell? ⟨s0, 1, none⟩ = some (.slice ca cn cc) ∧ w5.frozen? ⟨s0, 1, none⟩ = false) := fun w5 O h2 => by
      have x := VarH.cell_store HV.out hb0.drew O h2
      exact ⟨cell_of_row _ _ 1 _ _ _ x, frozen_of_row _ _ 1 _ _ x⟩
    clear hv r0
    go_region_law (first
      | (refine step_append_any _ rfl _ _ 28 rfl B 32 i0 _ 3 32 Try.underlying28 hi0 hz0 hz1 hz2 rfl (by decide) _ _ _ rfl (show (W0.drew.alloc _).ownsRow B 32 3 (.slice ca cn cc) cn ys from World.ownsRow.alloc (OWN.drew) _) (some ⟨W0.heap.size, 0, none⟩) 1 1 [.int .i64 k, .int .i64 n, .string s] rfl rfl (fun j u hu => ⟨_, rfl, World.news_of_block (heap_alloc_new W0.drew _) j u hu⟩) (by simp [Value.oneCell']) (by unfold maxLen; omega) (by omega) (show B ≤ (W0.drew.alloc _).heap.size by rw [size_alloc]; exact Nat.le_succ_of_le (Nat.le_trans hB hz)) _ rfl ?_; intro b4 c4 w4 own4 gr4 at4; obtain ⟨c05, f05⟩ := K5.out w4 _ gr4))
    all_goals
      go_wp2_with fail
      go_ret
      obtain ⟨hv5, hfar, hb5⟩ := HV.out.cell hb0.drew _ gr4 b4 c4 own4 hB hs
      exact ⟨⟨⟨b4, cn + 1, c4⟩, by rw [HN.out]; rfl, by rw [addL, if_neg hf], by rw [addY, if_neg hf]; exact hv5⟩, hfar, hb5⟩
end Go.Proofs.Ytbdpfmkpjeleaaa
