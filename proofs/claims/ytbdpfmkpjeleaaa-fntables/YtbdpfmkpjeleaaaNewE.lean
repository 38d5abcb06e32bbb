/- NewCell by the specification. -/
import Derived.Test.YtbdpfmkpjeleaaaNewD
namespace Go.Proofs.Ytbdpfmkpjeleaaa
open Go.RowKit

set_option maxRecDepth 100000 in
set_option maxHeartbeats 1600000 in
theorem newCell_spec (h : Hp) (a b : Option Addr) (ca cb lo hi : Nat) (k n : Int) (s : ByteArray) (w : World) (hh : hi ≤ w.heap.size) (hwt : h.wt ≤ 1048576) (hT : TAt w lo hi h.ts a) (hV : VAt w lo hi h.vs b) :
    Calls Try.prog 15 #[.agg #[.slice a h.ts.length ca, .slice b h.vs.length cb], .agg #[.int .i64 k, .int .i64 n, .string s]] w fun e w' => (∃ (sp cl : Sl) (ss : List Sl), e = .returned (.tuple #[.agg #[sp.v, cl.v], .int .i64 (addN h.vs.length)]) ∧ OwnH w' w.heap.size (h.cell ⟨k, n, s⟩) sp cl ss) ∧ Below w.heap.size w w' := by
  have hvl : h.vs.length ≤ 1048576 := by unfold Hp.wt at hwt; omega
  obtain ⟨rA, rB, rC, hs0, B0⟩ := rows3 w (Obj.cells #[.slice a h.ts.length ca, .slice b h.vs.length cb] 30) (Obj.cells #[.int .i64 k, .int .i64 n, .string s] 32) (Obj.cells #[.slice none 0 0, .slice none 0 0] 30)
  obtain ⟨W0, hW0⟩ : ∃ W0, W0 = ((w.alloc (Obj.cells #[.slice a h.ts.length ca, .slice b h.vs.length cb] 30)).alloc (Obj.cells #[.int .i64 k, .int .i64 n, .string s] 32)).alloc (Obj.cells #[.slice none 0 0, .slice none 0 0] 30) := ⟨_, rfl⟩
  go_enter Try.func15, Try.ntmps15
  go_wp2_with fail
  rw [← hW0] at rA rB rC hs0 B0 ⊢
  clear hW0
  refine (copy_spec h a b ca cb lo hi W0 (by omega) hwt (hT.below B0 hh) (hV.below B0 hh)).mono ?_
  rintro e w1 ⟨⟨⟨pa, pn, pc⟩, ⟨ua, un, uc⟩, ss, rfl, hpn, hun, hO⟩, hb1⟩
  dsimp only at hpn hun
  subst hpn
  subst hun
  have hs1 := hb1.size
  dsimp only [Sl.v]
  obtain ⟨W3, hW3⟩ : ∃ W3, W3 = w1.alloc (Obj.cells #[.slice pa h.ts.length pc, .slice ua h.vs.length uc] 30) := ⟨_, rfl⟩
  have hb3 : Below w1.heap.size w1 W3 := by rw [hW3]; exact bel_alloc _ _
  have hv3 : VarH W3 W0.heap.size w1.heap.size ⟨pa, h.ts.length, pc⟩ ⟨ua, h.vs.length, uc⟩ ss h.xss (flatV h.vs) := ⟨by rw [hW3]; exact heap_alloc_new _ _, hO.below hb3⟩
  have B3 : Below W0.heap.size W0 W3 := hb1.trans (hb3.mono hs1)
  have rB3 := (hb1.block (w.heap.size + 1) (by omega)).trans rB
  have rC1 := (hb1.block (w.heap.size + 1 + 1) (by omega)).trans rC
  have rC3 := (B3.block (w.heap.size + 1 + 1) (by omega)).trans rC
  have z3 : W0.heap.size ≤ W3.heap.size := B3.size
  have BW3 : Below w.heap.size w W3 := B0.trans (B3.mono B0.size)
  have k0 := cell_of_row _ _ 0 _ _ _ rB3
  have k1 := cell_of_row _ _ 1 _ _ _ rB3
  have k2 := cell_of_row _ _ 2 _ _ _ rB3
  simp only [List.getElem?_toArray, List.getElem?_cons_zero, List.getElem?_cons_succ] at k0 k1 k2
  have rA3 := (hb1.block w.heap.size (by omega)).trans rA
  have rA3' := (B3.block w.heap.size (by omega)).trans rA
  have a1 := cell_of_row _ _ 1 _ _ _ rA3
  simp only [List.getElem?_toArray, List.getElem?_cons_zero, List.getElem?_cons_succ] at a1
  have HV : Hid (VarH W3 W0.heap.size w1.heap.size ⟨pa, h.ts.length, pc⟩ ⟨ua, h.vs.length, uc⟩ ss h.xss (flatV h.vs)) := hv3
  have OWN : W3.ownsRow W0.heap.size 32 3 (.slice ua h.vs.length uc) h.vs.length (flatV h.vs) := hv3.own.cells
  have HO : Hid (HOwn W3 W0.heap.size ⟨pa, h.ts.length, pc⟩ ⟨ua, h.vs.length, uc⟩ ss h.xss (flatV h.vs)) := hv3.own
  have RC : Hid (W3.heap[w.heap.size + 1 + 1]? = some (Obj.cells #[.slice none 0 0, .slice none 0 0] 30)) := rC3
  have RA : Hid (W3.heap[w.heap.size]? = some (Obj.cells #[.slice a h.ts.length ca, .slice b h.vs.length cb] 30)) := rA3'
  have qA : ∀ O : Obj, (w1.alloc O).cell? ⟨w.heap.size, 1, none⟩ = w1.cell? ⟨w.heap.size, 1, none⟩ := fun O => (bel_alloc w1 O).cell (by show w.heap.size < _; omega)
  have qB : ∀ (O : Obj) (j : Nat), (w1.alloc O).cell? ⟨w.heap.size + 1, j, none⟩ = w1.cell? ⟨w.heap.size + 1, j, none⟩ := fun O j => (bel_alloc w1 O).cell (by show w.heap.size + 1 < _; omega)
  have e0 := cell_of_row _ _ 0 _ _ _ rC1
  have e1 := cell_of_row _ _ 1 _ _ _ rC1
  simp only [List.getElem?_toArray, List.getElem?_cons_zero, List.getElem?_cons_succ] at e0 e1
  have qE : ∀ (O : Obj) (j : Nat), (w1.alloc O).cell? ⟨w.heap.size + 1 + 1, j, none⟩ = w1.cell? ⟨w.heap.size + 1 + 1, j, none⟩ := fun O j => (bel_alloc w1 O).cell (by show w.heap.size + 1 + 1 < _; omega)
  have g0 : ∀ (O : Obj) (j : Nat), (w1.alloc O).frozen? ⟨w.heap.size + 1 + 1, j, none⟩ = false := fun O j => ((bel_alloc w1 O).frozen (p := ⟨w.heap.size + 1 + 1, j, none⟩) (by show w.heap.size + 1 + 1 < _; omega)).trans (frozen_of_row _ _ j _ _ rC1)
  have B3' : Below w.heap.size w W3 := B0.trans (B3.mono B0.size)
  have nW := hv3.lt
  clear hO hv3 rA rB rC hT hV rA3 rB3 rC3 rA3' rC1
  subst hW3
  by_cases hf : 3000 ≤ h.vs.length
  · have HN : Hid (addN h.vs.length = -1) := by show _ = _; rw [addN, if_pos hf]
    have hfi : (3000 : Int) ≤ h.vs.length := by omega
    have ev : flatV (h.cell ⟨k, n, s⟩).vs = flatV h.vs := by simp only [Hp.cell, if_pos hf]
    have el : (h.cell ⟨k, n, s⟩).vs.length = h.vs.length := by simp only [Hp.cell, if_pos hf]
    have HE : Hid (flatV (h.cell ⟨k, n, s⟩).vs = flatV h.vs ∧ (h.cell ⟨k, n, s⟩).vs.length = h.vs.length) := ⟨ev, el⟩
    clear ev el
    go_wp2_with fail
    refine bodyPost_ret (v := .tuple #[.agg #[.slice pa h.ts.length pc, .slice ua h.vs.length uc], .int .i64 (-1)]) (by simp [results, Try.results15, go_sem, *]) rfl ⟨⟨⟨pa, h.ts.length, pc⟩, ⟨ua, h.vs.length, uc⟩, ss, by rw [HN.out]; rfl, rfl, HE.out.2.symm, ?_⟩, ?_⟩
    · have q := (HO.out.stored RC.out (by decide) (W := (((w1.alloc (Obj.cells #[.slice pa h.ts.length pc, .slice ua h.vs.length uc] 30)).setCell ⟨w.heap.size + 1 + 1, 0, none⟩ (.slice pa h.ts.length pc)).setCell ⟨w.heap.size + 1 + 1, 1, none⟩ (.slice ua h.vs.length uc))) (fun b hb => by rw [heap_setCell_other _ _ _ _ (by show b ≠ w.heap.size + 1 + 1; exact hb), heap_setCell_other _ _ _ _ (by show b ≠ w.heap.size + 1 + 1; exact hb)]) (by simp)).base B0.size
      rw [← HE.out.1] at q
      exact q
    · repeat (first | (with_reducible exact B3') | (with_reducible refine Below.setCell ?_ (by simp <;> omega) _))
  · have hlt : h.vs.length < 3000 := by omega
    have HN : Hid (addN h.vs.length = (h.vs.length : Int)) := by show _ = _; rw [addN, if_neg hf]
    obtain ⟨i0, hi0, hz0, hz1, hz2⟩ := info_parts info_val
    have K5 : Hid (∀ (w5 : World) (O : Obj), ((w1.alloc (Obj.cells #[.slice pa h.ts.length pc, .slice ua h.vs.length uc] 30)).alloc O).grownBy w5 (Value.slice ua h.vs.length uc).ownBlock → w5.cell? ⟨w1.heap.size, 1, none⟩ = some (.slice ua h.vs.length uc) ∧ w5.frozen? ⟨w1.heap.size, 1, none⟩ = false) := fun w5 O h2 => by
      have x := VarH.cell_store HV.out (Below.refl _ _) O h2
      exact ⟨cell_of_row _ _ 1 _ _ _ x, frozen_of_row _ _ 1 _ _ x⟩
    have NB : ∀ j u, [Value.int .i64 k, .int .i64 n, .string s][j]? = some u → ∃ ad, some (⟨w1.heap.size + 1, 0, none⟩ : Addr) = some ad ∧ ((w1.alloc (Obj.cells #[.slice pa h.ts.length pc, .slice ua h.vs.length uc] 30)).alloc (Obj.cells #[.int .i64 k, .int .i64 n, .string s] 32)).cell? (ad.add j) = some u := fun j u hu => ⟨_, rfl, World.news_of_block (by have := heap_alloc_new (w1.alloc (Obj.cells #[.slice pa h.ts.length pc, .slice ua h.vs.length uc] 30)) (Obj.cells #[.int .i64 k, .int .i64 n, .string s] 32); rwa [size_alloc] at this) j u hu⟩
    go_wp2_with (at_builtin; go_must (refine wpList_append_any _ rfl _ _ 28 rfl W0.heap.size 32 i0 _ 3 32 Try.underlying28 hi0 hz0 hz1 hz2 rfl (by decide) _ _ _ rfl (World.ownsRow.alloc OWN _) (some ⟨w1.heap.size + 1, 0, none⟩) 1 1 [.int .i64 k, .int .i64 n, .string s] rfl rfl NB (by simp [Value.oneCell']) (by unfold maxLen; omega) (by omega) (by rw [size_alloc]; omega) _ rfl ?_; intro b4 c4 w4 own4 gr4 at4; obtain ⟨c05, f05⟩ := K5.out w4 _ gr4))
    obtain ⟨hv5, hfar, hb5⟩ := HV.out.cell (Below.refl _ _) _ gr4 b4 c4 own4 B3.size hs1
    have rA6 := (hfar _ _ RA.out (by omega)).trans RA.out
    have rC6 := (hfar _ _ RC.out (by omega)).trans RC.out
    have B6 : Below w.heap.size w _ := B3'.trans (hb5.mono B0.size)
    have e' : flatV h.vs ++ [.int .i64 k, .int .i64 n, .string s] = flatV (h.cell ⟨k, n, s⟩).vs := by simp only [Hp.cell, if_neg hf, flatV_snoc]; rfl
    have l' : (h.cell ⟨k, n, s⟩).vs.length = h.vs.length + 1 := by simp only [Hp.cell, if_neg hf]; simp
    rw [e'] at hv5
    have HL : Hid ((h.cell ⟨k, n, s⟩).vs.length = h.vs.length + 1) := l'
    dsimp only at hv5 hfar hb5 rA6 rC6 B6 ⊢
    clear HV HO RC RA e' l' hfar hb5 gr4 own4 at4 K5 NB OWN qA qB qE g0 e0 e1 k0 k1 k2 a1 c05 f05 B3' B3
    generalize w4.setCell ⟨w1.heap.size, 1, none⟩ (.slice b4 (h.vs.length + 1) c4) = W6 at *
    have a1 := cell_of_row _ _ 1 _ _ _ rA6
    have c0 := cell_of_row _ _ 0 _ _ _ hv5.var
    have c1 := cell_of_row _ _ 1 _ _ _ hv5.var
    have g0 := frozen_of_row _ _ 0 _ _ rC6
    have g1 := frozen_of_row _ _ 1 _ _ rC6
    have e0 := cell_of_row _ _ 0 _ _ _ rC6
    have e1 := cell_of_row _ _ 1 _ _ _ rC6
    simp only [List.getElem?_toArray, List.getElem?_cons_zero, List.getElem?_cons_succ, Sl.v] at e0 e1 c0 c1 a1
    have nC := (Array.getElem?_eq_some_iff.1 rC6).1
    have HO : Hid (HOwn W6 W0.heap.size ⟨pa, h.ts.length, pc⟩ ⟨b4, h.vs.length + 1, c4⟩ ss h.xss (flatV (h.cell ⟨k, n, s⟩).vs)) := hv5.own
    have RC : Hid (W6.heap[w.heap.size + 1 + 1]? = some (Obj.cells #[.slice none 0 0, .slice none 0 0] 30)) := rC6
    clear hv5 rA6 rC6
    go_region
    go_wp2_with fail
    refine bodyPost_ret (v := .tuple #[.agg #[.slice pa h.ts.length pc, .slice b4 (h.vs.length + 1) c4], .int .i64 (h.vs.length : Int)]) (by simp [results, Try.results15, go_sem, *]) rfl ⟨⟨⟨pa, h.ts.length, pc⟩, ⟨b4, h.vs.length + 1, c4⟩, ss, by rw [HN.out]; rfl, rfl, HL.out.symm, ?_⟩, ?_⟩
    · refine (HO.out.stored RC.out (by decide) (fun b hb => ?_) (by simp)).base B0.size
      exact (heap_setCell_other _ _ _ _ (by show b ≠ w.heap.size + 1 + 1; exact hb)).trans (heap_setCell_other _ _ _ _ (by show b ≠ w.heap.size + 1 + 1; exact hb))
    · repeat (first | (with_reducible exact B6) | (with_reducible refine Below.drew ?_) | (with_reducible refine Below.setCell ?_ (by simp <;> omega) _))
end Go.Proofs.Ytbdpfmkpjeleaaa
