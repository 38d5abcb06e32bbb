/- A new table, written into a variable that holds a heap. -/
import Derived.Test.YtbdpfmkpjeleaaaNewE
namespace Go.Proofs.Ytbdpfmkpjeleaaa
open Go.RowKit

def tabK (n : Nat) : Int := if 500 ≤ n then 0 else 4
def tabI (n : Nat) : Int := if 500 ≤ n then 0 else (n : Int)
def tabL (n : Nat) : Nat := if 500 ≤ n then n else n + 1
def tabX (n : Nat) (xss : List (List Value)) : List (List Value) := if 500 ≤ n then xss else xss ++ [[]]
theorem row_none (w : World) (lo hi : Nat) (T : TypeId) (k : Nat) : Row w lo hi T k ⟨none, 0, 0⟩ [] := ⟨by simp, .inl ⟨rfl, rfl, rfl⟩⟩
theorem row_empty (w : World) (T : TypeId) (k : Nat) : Row (w.alloc (.cells #[] T)) w.heap.size (w.alloc (.cells #[] T)).heap.size T k ⟨some ⟨w.heap.size, 0, none⟩, 0, 0⟩ [] := ⟨by simp, .inr ⟨w.heap.size, #[], rfl, Nat.le_refl _, by simp, heap_alloc_new _ _, Nat.le_refl _, Nat.zero_le _, by simp, fun m hm => absurd hm (Nat.not_lt_zero _)⟩⟩

set_option maxRecDepth 100000 in
set_option maxHeartbeats 1600000 in
theorem addTable_any (w : World) (B s0 : Nat) (sp cl : Sl) (ss : List Sl) (xss : List (List Value)) (ys : List Value) (h : VarH w B s0 sp cl ss xss ys) (hB : B ≤ w.heap.size) (hs : B ≤ s0) (hn : sp.n ≤ 1048576) :
    Calls Try.prog 35 #[.pointer (some ⟨s0, 0, none⟩)] w fun e w' => (∃ (sp' : Sl) (ss' : List Sl), e = .returned (.agg #[.int .i64 (tabK sp.n), .int .i64 (tabI sp.n), .string ⟨#[]⟩]) ∧ sp'.n = tabL sp.n ∧ VarH w' B s0 sp' cl ss' (tabX sp.n xss) ys) ∧ (∀ b cs, w.heap[b]? = some (.cells cs 30 (0, 0)) → b ≠ s0 → w'.heap[b]? = w.heap[b]?) ∧ Below B w w' := by
  obtain ⟨i2, hi2, hx0, hx1, hx2⟩ := info_parts info_prs
  obtain ⟨pa, pn, pc⟩ := sp
  dsimp only at hn
  have HV : Hid (VarH w B s0 ⟨pa, pn, pc⟩ cl ss xss ys) := h
  have c0 := cell_of_row _ _ 0 _ _ _ h.var
  simp only [List.getElem?_toArray, List.getElem?_cons_zero, Sl.v] at c0
  have nw : s0 < w.heap.size := h.lt
  have qw : ∀ O : Obj, (w.alloc O).cell? ⟨s0, 0, none⟩ = w.cell? ⟨s0, 0, none⟩ := fun O => (bel_alloc w O).cell nw
  clear h
  by_cases hf : 500 ≤ pn
  · have hfi : (500 : Int) ≤ pn := by omega
    have HK : Hid (tabK pn = 0 ∧ tabI pn = 0) := ⟨by rw [tabK, if_pos hf], by rw [tabI, if_pos hf]⟩
    go_enter Try.func35, Try.ntmps35
    have HB0 : Hid (∀ W : World, W.heap.size = w.heap.size + 1 → (∀ b, b < w.heap.size → W.heap[b]? = w.heap[b]?) → VarH W B s0 ⟨pa, pn, pc⟩ cl ss xss ys) := fun W hz hW =>
      ⟨(hW s0 nw).trans HV.out.var, own_keep HV.out.own.spine fun g cs _ hc => hW g (Array.getElem?_eq_some_iff.1 hc).1, (HV.out.own.tabs.keep fun b _ _ ⟨cs, hc⟩ => hW b (Array.getElem?_eq_some_iff.1 hc).1).wide (Nat.le_refl _) (by omega), own_keep HV.out.own.cells fun g cs _ hc => hW g (Array.getElem?_eq_some_iff.1 hc).1⟩
    go_wp2_with fail
    have far : ∀ b, b < w.heap.size → (w.alloc (Obj.cells #[.int .i64 0, .int .i64 0, .string ⟨#[]⟩] 32)).heap[b]? = w.heap[b]? := fun b hb => Below.heap_alloc _ _ _ hb
    refine bodyPost_ret (v := .agg #[.int .i64 0, .int .i64 0, .string ⟨#[]⟩]) (by simp [results, Try.results35, go_sem, *]) rfl ⟨⟨⟨pa, pn, pc⟩, ss, by rw [HK.out.1, HK.out.2], by rw [tabL, if_pos hf], by rw [tabX, if_pos hf]; exact HB0.out _ (by simp) far⟩, fun b cs hc _ => far b (Array.getElem?_eq_some_iff.1 hc).1, ?_⟩
    exact (Below.refl B w).alloc hB _
  · have hlt : pn < 500 := by omega
    have HK : Hid (tabK pn = 4 ∧ tabI pn = (pn : Int)) := ⟨by rw [tabK, if_neg hf], by rw [tabI, if_neg hf]⟩
    have hv := HV.out.below (bel_alloc w (Obj.cells #[.int .i64 0, .int .i64 0, .string ⟨#[]⟩] 32))
    have OWN : (w.alloc (Obj.cells #[.int .i64 0, .int .i64 0, .string ⟨#[]⟩] 32)).ownsRow B 59 1 (.slice pa pn pc) pn (ss.map Sl.v) := hv.own.spine
    have hb0 := bel_alloc w (Obj.cells #[.int .i64 0, .int .i64 0, .string ⟨#[]⟩] 32)
    have K5 : Hid (∀ (w5 : World) (O : Obj), ((w.alloc (Obj.cells #[.int .i64 0, .int .i64 0, .string ⟨#[]⟩] 32)).alloc O).grownBy w5 (Value.slice pa pn pc).ownBlock → w5.cell? ⟨s0, 0, none⟩ = some (.slice pa pn pc) ∧ w5.frozen? ⟨s0, 0, none⟩ = false ∧ w5.heap[w.heap.size]? = some (.cells #[.int .i64 0, .int .i64 0, .string ⟨#[]⟩] 32 (0, 0))) := fun w5 O h2 => by
      have x := VarH.table_store HV.out hb0 O h2
      have h4 := HV.out.below (hb0.trans ((bel_alloc _ O).mono hb0.size))
      have hz4 : ((w.alloc (Obj.cells #[.int .i64 0, .int .i64 0, .string ⟨#[]⟩] 32)).alloc O).heap[w.heap.size]? = some (.cells #[.int .i64 0, .int .i64 0, .string ⟨#[]⟩] 32 (0, 0)) := (Below.heap_alloc _ _ _ (by simp)).trans (heap_alloc_new _ _)
      exact ⟨cell_of_row _ _ 0 _ _ _ x, frozen_of_row _ _ 0 _ _ x, (h2.block _ (by simp; omega) (own_ne h4.own.spine hz4 (by decide))).trans hz4⟩
    have NB : ∀ j u, [Value.slice none 0 0][j]? = some u → ∃ ad, some (⟨w.heap.size + 1, 0, none⟩ : Addr) = some ad ∧ ((w.alloc (Obj.cells #[.int .i64 0, .int .i64 0, .string ⟨#[]⟩] 32)).alloc (Obj.cells #[.slice none 0 0] 59)).cell? (ad.add j) = some u := fun j u hu => ⟨_, rfl, World.news_of_block (by have := heap_alloc_new (w.alloc (Obj.cells #[.int .i64 0, .int .i64 0, .string ⟨#[]⟩] 32)) (Obj.cells #[.slice none 0 0] 59); rwa [size_alloc] at this) j u hu⟩
    clear hv
    go_enter Try.func35, Try.ntmps35
    go_wp2_with (at_builtin; go_must (refine wpList_append_any _ rfl _ _ 27 rfl B 59 i2 _ 1 24 Try.underlying27 hi2 hx0 hx1 hx2 rfl (by decide) _ _ _ rfl (World.ownsRow.alloc OWN _) (some ⟨w.heap.size + 1, 0, none⟩) 1 1 [.slice none 0 0] rfl rfl NB (by simp [Value.oneCell']) (by unfold maxLen; omega) (by omega) (by rw [size_alloc, size_alloc]; omega) _ rfl ?_; intro b4 c4 w4 own4 gr4 at4; obtain ⟨c05, f05, r05⟩ := K5.out w4 _ gr4; have z0 := cell_of_row _ _ 0 _ _ _ r05; have z1 := cell_of_row _ _ 1 _ _ _ r05; have z2 := cell_of_row _ _ 2 _ _ _ r05; have f0 := frozen_of_row _ _ 0 _ _ r05; have f1 := frozen_of_row _ _ 1 _ _ r05; have f2 := frozen_of_row _ _ 2 _ _ r05; have ns : ¬ w.heap.size = s0 := (by omega); have ns' : ¬ s0 = w.heap.size := (by omega)))
    obtain ⟨hv5, hfar, hb5⟩ := HV.out.table hb0 (row_none _ _ _ _ _) _ gr4 b4 c4 own4 hB hs
    dsimp only at hv5 hfar hb5
    have nz : w.heap.size < w4.heap.size := (Array.getElem?_eq_some_iff.1 r05).1
    have nev : ∀ b, b ≠ w.heap.size → ((((w4.setCell ⟨s0, 0, none⟩ (.slice b4 (pn + 1) c4)).setCell ⟨w.heap.size, 0, none⟩ (.int .i64 4)).setCell ⟨w.heap.size, 1, none⟩ (.int .i64 pn)).setCell ⟨w.heap.size, 2, none⟩ (.string ⟨#[]⟩)).heap[b]? = (w4.setCell ⟨s0, 0, none⟩ (.slice b4 (pn + 1) c4)).heap[b]? := fun b hb => by
      rw [heap_setCell_other _ _ _ _ (by show b ≠ w.heap.size; exact hb), heap_setCell_other _ _ _ _ (by show b ≠ w.heap.size; exact hb), heap_setCell_other _ _ _ _ (by show b ≠ w.heap.size; exact hb)]
    have hz5 : (w4.setCell ⟨s0, 0, none⟩ (.slice b4 (pn + 1) c4)).heap[w.heap.size]? = some (.cells #[.int .i64 0, .int .i64 0, .string ⟨#[]⟩] 32 (0, 0)) := (heap_setCell_other _ _ _ _ (by show w.heap.size ≠ s0; omega)).trans r05
    have net : ∀ b cs T, (w4.setCell ⟨s0, 0, none⟩ (.slice b4 (pn + 1) c4)).heap[b]? = some (.cells cs T (0, 0)) → T ≠ 32 → b ≠ w.heap.size := fun b cs T h1 h2 e => by
      subst e; rw [hz5] at h1; simp only [Option.some.injEq, Obj.cells.injEq] at h1; exact h2 h1.2.1.symm
    refine bodyPost_ret (v := .agg #[.int .i64 4, .int .i64 pn, .string ⟨#[]⟩]) (by simp [results, Try.results35, go_sem, *]) rfl ⟨⟨⟨b4, pn + 1, c4⟩, ss ++ [⟨none, 0, 0⟩], by rw [HK.out.1, HK.out.2], by rw [tabL, if_neg hf], by rw [tabX, if_neg hf]; exact ⟨(nev s0 (by omega)).trans hv5.var, own_keep hv5.own.spine fun g cs _ hc => nev g (net g cs _ hc (by decide)), (hv5.own.tabs.keep fun b _ _ ⟨cs, hc⟩ => nev b (net b cs _ hc (by decide))).wide (Nat.le_refl _) (by simp), own_keep hv5.own.cells fun g cs hg _ => nev g (by have := (HV.out.own.cells.lt g hg).2; omega)⟩⟩, fun b cs hc hne => (nev b (by have := (Array.getElem?_eq_some_iff.1 hc).1; omega)).trans (hfar b cs hc hne), ?_⟩
    exact ((hb5.setCell (by show B ≤ w.heap.size; exact hB) _).setCell (by show B ≤ w.heap.size; exact hB) _).setCell (by show B ≤ w.heap.size; exact hB) _
end Go.Proofs.Ytbdpfmkpjeleaaa
