/- NewTable of the specification. -/
import Derived.Test.YtbdpfmkpjeleaaaNewU
namespace Go.Proofs.Ytbdpfmkpjeleaaa
open Go.RowKit

theorem alloc_eq {W W' : World} {O : Obj} {b : Nat} (hz : W.heap.size = W'.heap.size) (h : W.heap[b]? = W'.heap[b]?) : (W.alloc O).heap[b]? = (W'.alloc O).heap[b]? := by
  show (W.heap.push O)[b]? = (W'.heap.push O)[b]?
  rw [Array.getElem?_push, Array.getElem?_push, hz, h]
set_option maxRecDepth 100000 in
set_option maxHeartbeats 1600000 in
theorem newTable_spec (h : Hp) (a b : Option Addr) (ca cb lo hi : Nat) (w : World) (hh : hi ≤ w.heap.size) (hwt : h.wt ≤ 1048576) (hT : TAt w lo hi h.ts a) (hV : VAt w lo hi h.vs b) :
    Calls Try.prog 7 #[.agg #[.slice a h.ts.length ca, .slice b h.vs.length cb]] w fun e w' => (∃ (sp cl : Sl) (ss : List Sl), e = .returned (.tuple #[.agg #[sp.v, cl.v], .agg #[.int .i64 (tabK h.ts.length), .int .i64 (tabI h.ts.length), .string ⟨#[]⟩]]) ∧ OwnH w' w.heap.size h.table sp cl ss) ∧ Below w.heap.size w w' := by
  have hvl : h.ts.length ≤ 1048576 := by have := len_wtT h.ts; unfold Hp.wt at hwt; omega
  obtain ⟨rA, rB, rC, hs0, B0⟩ := rows3 w (Obj.cells #[.slice a h.ts.length ca, .slice b h.vs.length cb] 30) (Obj.cells #[.slice none 0 0, .slice none 0 0] 30) (Obj.cells #[.int .i64 0, .int .i64 0, .string ⟨#[]⟩] 32)
  obtain ⟨W0, hW0⟩ : ∃ W0, W0 = ((w.alloc (Obj.cells #[.slice a h.ts.length ca, .slice b h.vs.length cb] 30)).alloc (Obj.cells #[.slice none 0 0, .slice none 0 0] 30)).alloc (Obj.cells #[.int .i64 0, .int .i64 0, .string ⟨#[]⟩] 32) := ⟨_, rfl⟩
  go_enter Try.func7, Try.ntmps7
  go_wp2_with fail
  rw [← hW0] at rA rB rC hs0 B0 ⊢
  clear hW0
  refine (copy_spec h a b ca cb lo hi W0 (by omega) hwt (hT.below B0 hh) (hV.below B0 hh)).mono ?_
  rintro e w1 ⟨⟨⟨pa, pn, pc⟩, ⟨ua, un, uc⟩, ss, rfl, hpn, hun, hO⟩, hb1⟩
  dsimp only at hpn hun
  subst hpn
  subst hun
  have hs1 := hb1.size
  dsimp only [Sl.v]
  have HV : Hid (VarH (w1.alloc (Obj.cells #[.slice pa h.ts.length pc, .slice ua h.vs.length uc] 30)) W0.heap.size w1.heap.size ⟨pa, h.ts.length, pc⟩ ⟨ua, h.vs.length, uc⟩ ss h.xss (flatV h.vs)) := ⟨heap_alloc_new _ _, hO.below (bel_alloc _ _)⟩
  have B3 : Below W0.heap.size W0 (w1.alloc (Obj.cells #[.slice pa h.ts.length pc, .slice ua h.vs.length uc] 30)) := hb1.trans ((bel_alloc _ _).mono hs1)
  have hsz : (w1.alloc (Obj.cells #[.slice pa h.ts.length pc, .slice ua h.vs.length uc] 30)).heap.size = w1.heap.size + 1 := by simp
  have B1w : Below w.heap.size w w1 := B0.trans (hb1.mono B0.size)
  clear hO hT hV hb1
  have rA1 := (B3.block w.heap.size (by omega)).trans rA
  have rB1 := (B3.block (w.heap.size + 1) (by omega)).trans rB
  have rC1 := (B3.block (w.heap.size + 1 + 1) (by omega)).trans rC
  have B3' : Below w.heap.size w (w1.alloc (Obj.cells #[.slice pa h.ts.length pc, .slice ua h.vs.length uc] 30)) := B0.trans (B3.mono B0.size)
  have nA : w.heap.size < w1.heap.size := by omega
  have nB : w.heap.size + 1 < w1.heap.size := by omega
  have nC : w.heap.size + 1 + 1 < w1.heap.size := by omega
  have HS : Hid (w.heap.size + 1 + 1 < W0.heap.size) := by show _ < _; omega
  have HB0 : Hid (w.heap.size ≤ W0.heap.size) := B0.size
  have HRA : Hid ((w1.alloc (Obj.cells #[.slice pa h.ts.length pc, .slice ua h.vs.length uc] 30)).heap[w.heap.size]? = some (Obj.cells #[.slice a h.ts.length ca, .slice b h.vs.length cb] 30)) := rA1
  have HRB : Hid ((w1.alloc (Obj.cells #[.slice pa h.ts.length pc, .slice ua h.vs.length uc] 30)).heap[w.heap.size + 1]? = some (Obj.cells #[.slice none 0 0, .slice none 0 0] 30)) := rB1
  have HRC : Hid ((w1.alloc (Obj.cells #[.slice pa h.ts.length pc, .slice ua h.vs.length uc] 30)).heap[w.heap.size + 1 + 1]? = some (Obj.cells #[.int .i64 0, .int .i64 0, .string ⟨#[]⟩] 32)) := rC1
  have qA : ∀ (O : Obj) (j : Nat), (w1.alloc O).cell? ⟨w.heap.size, j, none⟩ = w1.cell? ⟨w.heap.size, j, none⟩ := fun O j => (bel_alloc w1 O).cell nA
  have a0 := (qA _ 0).symm.trans (cell_of_row _ _ 0 _ _ _ rA1)
  have qB : ∀ (O : Obj) (j : Nat), (w1.alloc O).cell? ⟨w.heap.size + 1, j, none⟩ = w1.cell? ⟨w.heap.size + 1, j, none⟩ := fun O j => (bel_alloc w1 O).cell nB
  have e0 := (qB _ 0).symm.trans (cell_of_row _ _ 0 _ _ _ rB1)
  have e1 := (qB _ 1).symm.trans (cell_of_row _ _ 1 _ _ _ rB1)
  have qC : ∀ (O : Obj) (j : Nat), (w1.alloc O).cell? ⟨w.heap.size + 1 + 1, j, none⟩ = w1.cell? ⟨w.heap.size + 1 + 1, j, none⟩ := fun O j => (bel_alloc w1 O).cell nC
  have d0 := (qC _ 0).symm.trans (cell_of_row _ _ 0 _ _ _ rC1)
  have d1 := (qC _ 1).symm.trans (cell_of_row _ _ 1 _ _ _ rC1)
  have d2 := (qC _ 2).symm.trans (cell_of_row _ _ 2 _ _ _ rC1)
  simp only [List.getElem?_toArray, List.getElem?_cons_zero, List.getElem?_cons_succ] at a0 e0 e1 d0 d1 d2
  have gB : ∀ (O : Obj) (j : Nat), (w1.alloc O).frozen? ⟨w.heap.size + 1, j, none⟩ = w1.frozen? ⟨w.heap.size + 1, j, none⟩ := fun O j => (bel_alloc w1 O).frozen nB
  have gC : ∀ (O : Obj) (j : Nat), (w1.alloc O).frozen? ⟨w.heap.size + 1 + 1, j, none⟩ = w1.frozen? ⟨w.heap.size + 1 + 1, j, none⟩ := fun O j => (bel_alloc w1 O).frozen nC
  have gB' : ∀ j, w1.frozen? ⟨w.heap.size + 1, j, none⟩ = false := fun j => (gB _ j).symm.trans (frozen_of_row _ _ j _ _ rB1)
  have gC' : ∀ j, w1.frozen? ⟨w.heap.size + 1 + 1, j, none⟩ = false := fun j => (gC _ j).symm.trans (frozen_of_row _ _ j _ _ rC1)
  clear rA rB rC rA1 rB1 rC1 B0
  by_cases hf : 500 ≤ h.ts.length
  · have hfi : (500 : Int) ≤ h.ts.length := by omega
    have HK : Hid (tabK h.ts.length = 0 ∧ tabI h.ts.length = 0) := ⟨by rw [tabK, if_pos hf], by rw [tabI, if_pos hf]⟩
    have HE : Hid (h.table.ts.length = h.ts.length ∧ h.table.xss = h.xss) := ⟨by simp only [Hp.table, if_pos hf], by simp only [Hp.table, Hp.xss, if_pos hf]⟩
    have HO : Hid (HOwn (w1.alloc (Obj.cells #[.slice pa h.ts.length pc, .slice ua h.vs.length uc] 30)) W0.heap.size ⟨pa, h.ts.length, pc⟩ ⟨ua, h.vs.length, uc⟩ ss h.xss (flatV h.vs)) := HV.out.own
    go_wp2_with fail
    refine bodyPost_ret (v := .tuple #[.agg #[.slice pa h.ts.length pc, .slice ua h.vs.length uc], .agg #[.int .i64 0, .int .i64 0, .string ⟨#[]⟩]]) (by simp [results, Try.results7, go_sem, *]) rfl ⟨⟨⟨pa, h.ts.length, pc⟩, ⟨ua, h.vs.length, uc⟩, ss, by rw [HK.out.1, HK.out.2]; rfl, HE.out.1.symm, rfl, ?_⟩, ?_⟩
    · rw [HE.out.2]
      refine (HO.out.under (fun b hb => ?_) (by simp)).base HB0.out
      have := HS.out
      refine alloc_eq (by simp) ?_
      repeat (first | (with_reducible refine (drew_at _ _).trans ?_) | (with_reducible refine (heap_setCell_other _ _ _ _ (by dsimp only; omega)).trans ?_))
      with_reducible rfl
    · repeat (first | (with_reducible exact B1w) | (with_reducible refine Below.drew ?_) | (with_reducible refine Below.setCell ?_ (by simp <;> omega) _) | (with_reducible refine Below.alloc ?_ (by simp; omega) _))
  · have hlt : h.ts.length < 500 := by omega
    obtain ⟨i2, hi2, hx0, hx1, hx2⟩ := info_parts info_prs
    have HK : Hid (tabK h.ts.length = 4 ∧ tabI h.ts.length = (h.ts.length : Int)) := ⟨by rw [tabK, if_neg hf], by rw [tabI, if_neg hf]⟩
    have HE : Hid (h.table.ts.length = h.ts.length + 1 ∧ h.table.xss = h.xss ++ [[]]) := ⟨by simp only [Hp.table, if_neg hf]; simp, by simp only [Hp.table, Hp.xss, if_neg hf, List.map_append]; rfl⟩
    have hb4 := bel_alloc (w1.alloc (Obj.cells #[.slice pa h.ts.length pc, .slice ua h.vs.length uc] 30)) (Obj.cells #[] 61)
    have hv4 := HV.out.below hb4
    have OWN : ((w1.alloc (Obj.cells #[.slice pa h.ts.length pc, .slice ua h.vs.length uc] 30)).alloc (Obj.cells #[] 61)).ownsRow W0.heap.size 59 1 (.slice pa h.ts.length pc) h.ts.length (ss.map Sl.v) := hv4.own.spine
    have K5 : Hid (∀ (w5 : World) (O : Obj), (((w1.alloc (Obj.cells #[.slice pa h.ts.length pc, .slice ua h.vs.length uc] 30)).alloc (Obj.cells #[] 61)).alloc O).grownBy w5 (Value.slice pa h.ts.length pc).ownBlock → w5.cell? ⟨w1.heap.size, 0, none⟩ = some (.slice pa h.ts.length pc) ∧ w5.frozen? ⟨w1.heap.size, 0, none⟩ = false) := fun w5 O h2 => by
      have x := VarH.table_store HV.out hb4 O h2
      exact ⟨cell_of_row _ _ 0 _ _ _ x, frozen_of_row _ _ 0 _ _ x⟩
    have NB : ∀ j u, [Value.slice (some ⟨w1.heap.size + 1, 0, none⟩) 0 0][j]? = some u → ∃ ad, some (⟨w1.heap.size + 1 + 1, 0, none⟩ : Addr) = some ad ∧ (((w1.alloc (Obj.cells #[.slice pa h.ts.length pc, .slice ua h.vs.length uc] 30)).alloc (Obj.cells #[] 61)).alloc (Obj.cells #[.slice (some ⟨w1.heap.size + 1, 0, none⟩) 0 0] 59)).cell? (ad.add j) = some u := fun j u hu => ⟨_, rfl, World.news_of_block (by have := heap_alloc_new ((w1.alloc (Obj.cells #[.slice pa h.ts.length pc, .slice ua h.vs.length uc] 30)).alloc (Obj.cells #[] 61)) (Obj.cells #[.slice (some ⟨w1.heap.size + 1, 0, none⟩) 0 0] 59); rwa [size_alloc, size_alloc] at this) j u hu⟩
    clear hv4
    go_wp2_with (at_builtin; go_must (refine wpList_append_any _ rfl _ _ 27 rfl W0.heap.size 59 i2 _ 1 24 Try.underlying27 hi2 hx0 hx1 hx2 rfl (by decide) _ _ _ rfl (World.ownsRow.alloc OWN _) (some ⟨w1.heap.size + 1 + 1, 0, none⟩) 1 1 [.slice (some ⟨w1.heap.size + 1, 0, none⟩) 0 0] rfl rfl NB (by simp [Value.oneCell']) (by unfold maxLen; omega) (by omega) (by rw [size_alloc, size_alloc, size_alloc]; omega) _ rfl ?_; intro b4 c4 w4 own4 gr4 at4; obtain ⟨c05, f05⟩ := K5.out w4 _ gr4))
    have REMP := row_empty (w1.alloc (Obj.cells #[.slice pa h.ts.length pc, .slice ua h.vs.length uc] 30)) 61 6
    rw [show (w1.alloc (Obj.cells #[.slice pa h.ts.length pc, .slice ua h.vs.length uc] 30)).heap.size = w1.heap.size + 1 by simp] at REMP
    obtain ⟨hv5, hfar, hb5⟩ := HV.out.table (s4 := ⟨some ⟨w1.heap.size + 1, 0, none⟩, 0, 0⟩) hb4 (by rw [show (w1.alloc (Obj.cells #[.slice pa h.ts.length pc, .slice ua h.vs.length uc] 30)).heap.size = w1.heap.size + 1 by simp]; exact REMP) _ gr4 b4 c4 own4 (by omega) hs1
    have rA6 := (hfar _ _ HRA.out (by omega)).trans HRA.out
    have rB6 := (hfar _ _ HRB.out (by omega)).trans HRB.out
    have B6 : Below w.heap.size w _ := B3'.trans (hb5.mono HB0.out)
    have hlow := fun bb hb => hb5.block bb hb
    have rC6 := (hlow (w.heap.size + 1 + 1) HS.out).trans HRC.out
    dsimp only at hv5 hfar hb5 rA6 rB6 rC6 B6 hlow ⊢
    clear HV HRA HRB HRC hb4 hfar hb5 gr4 own4 at4 K5 NB OWN qA qB qC gB gC gB' gC' a0 e0 e1 d0 d1 d2 c05 f05 B3' B3 hlow
    generalize w4.setCell ⟨w1.heap.size, 0, none⟩ (.slice b4 (h.ts.length + 1) c4) = W6 at *
    have a0 := cell_of_row _ _ 0 _ _ _ rA6
    have c0 := cell_of_row _ _ 0 _ _ _ hv5.var
    have c1 := cell_of_row _ _ 1 _ _ _ hv5.var
    have e0 := cell_of_row _ _ 0 _ _ _ rB6
    have e1 := cell_of_row _ _ 1 _ _ _ rB6
    have d0 := cell_of_row _ _ 0 _ _ _ rC6
    have d1 := cell_of_row _ _ 1 _ _ _ rC6
    have d2 := cell_of_row _ _ 2 _ _ _ rC6
    have g0 := frozen_of_row _ _ 0 _ _ rB6
    have g1 := frozen_of_row _ _ 1 _ _ rB6
    have f0 := frozen_of_row _ _ 0 _ _ rC6
    have f1 := frozen_of_row _ _ 1 _ _ rC6
    have f2 := frozen_of_row _ _ 2 _ _ rC6
    simp only [List.getElem?_toArray, List.getElem?_cons_zero, List.getElem?_cons_succ, Sl.v] at a0 c0 c1 e0 e1 d0 d1 d2
    have nD := (Array.getElem?_eq_some_iff.1 rC6).1
    have HO : Hid (HOwn W6 W0.heap.size ⟨b4, h.ts.length + 1, c4⟩ ⟨ua, h.vs.length, uc⟩ (ss ++ [⟨some ⟨w1.heap.size + 1, 0, none⟩, 0, 0⟩]) (h.xss ++ [[]]) (flatV h.vs)) := hv5.own
    clear hv5 rA6 rB6 rC6
    go_region
    go_wp2_with fail
    all_goals
      refine bodyPost_ret (v := .tuple #[.agg #[.slice b4 (h.ts.length + 1) c4, .slice ua h.vs.length uc], .agg #[.int .i64 4, .int .i64 h.ts.length, .string ⟨#[]⟩]]) (by simp [results, Try.results7, go_sem, *]) rfl ⟨⟨⟨b4, h.ts.length + 1, c4⟩, ⟨ua, h.vs.length, uc⟩, ss ++ [⟨some ⟨w1.heap.size + 1, 0, none⟩, 0, 0⟩], by rw [HK.out.1, HK.out.2]; rfl, HE.out.1.symm, rfl, ?_⟩, ?_⟩
      · rw [HE.out.2]
        refine (HO.out.under (fun b hb => ?_) (by simp)).base HB0.out
        have := HS.out
        repeat (first | (with_reducible refine (drew_at _ _).trans ?_) | (with_reducible refine (heap_setCell_other _ _ _ _ (by dsimp only; omega)).trans ?_))
        with_reducible rfl
      · repeat (first | (with_reducible exact B6) | (with_reducible refine Below.drew ?_) | (with_reducible refine Below.setCell ?_ (by simp <;> omega) _))
end Go.Proofs.Ytbdpfmkpjeleaaa
