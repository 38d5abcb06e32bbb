/- NewCell of both sides. -/
import Derived.Test.YtbdpfmkpjeleaaaNewC
namespace Go.Proofs.Ytbdpfmkpjeleaaa
open Go.RowKit

def Hp.cell (h : Hp) (v : Vl) : Hp := ⟨h.ts, if 3000 ≤ h.vs.length then h.vs else h.vs ++ [v]⟩
theorem cell_ys (h : Hp) (v : Vl) : addY h.vs.length (flatV h.vs) v.cs = flatV (h.cell v).vs := by
  unfold addY Hp.cell
  by_cases hf : 3000 ≤ h.vs.length
  · simp only [if_pos hf]
  · simp only [if_neg hf, flatV_snoc]
theorem cell_len (h : Hp) (v : Vl) : addL h.vs.length = (h.cell v).vs.length := by
  unfold addL Hp.cell
  by_cases hf : 3000 ≤ h.vs.length
  · simp only [if_pos hf]
  · simp only [if_neg hf]; simp

/-- What is answered: a heap of one's own. -/
def OwnH (w : World) (B : Nat) (h : Hp) (sp cl : Sl) (ss : List Sl) : Prop := sp.n = h.ts.length ∧ cl.n = h.vs.length ∧ HOwn w B sp cl ss h.xss (flatV h.vs)

set_option maxRecDepth 100000 in
set_option maxHeartbeats 1600000 in
theorem newCell_impl (h : Hp) (a b : Option Addr) (ca cb lo hi : Nat) (k n : Int) (s : ByteArray) (w : World) (hh : hi ≤ w.heap.size) (hwt : h.wt ≤ 1048576) (hsm : h.Sm) (hss : s.size ≤ 1048576) (hT : TAt w lo hi h.ts a) (hV : VAt w lo hi h.vs b) :
    Calls Try.prog 17 #[.agg #[.slice a h.ts.length ca, .slice b h.vs.length cb], .agg #[.int .i64 k, .int .i64 n, .string s]] w fun e w' => (∃ (sp cl : Sl) (ss : List Sl), e = .returned (.tuple #[.agg #[sp.v, cl.v], .int .i64 (addN h.vs.length)]) ∧ OwnH w' w.heap.size (h.cell ⟨k, n, s⟩) sp cl ss) ∧ Below w.heap.size w w' := by
  have hvl : h.vs.length ≤ 1048576 := by unfold Hp.wt at hwt; omega
  obtain ⟨rA, rB, rC, hs0, B0⟩ := rows3 w (Obj.cells #[.slice a h.ts.length ca, .slice b h.vs.length cb] 30) (Obj.cells #[.int .i64 k, .int .i64 n, .string s] 32) (Obj.cells #[.slice none 0 0, .slice none 0 0] 30)
  obtain ⟨W0, hW0⟩ : ∃ W0, W0 = ((w.alloc (Obj.cells #[.slice a h.ts.length ca, .slice b h.vs.length cb] 30)).alloc (Obj.cells #[.int .i64 k, .int .i64 n, .string s] 32)).alloc (Obj.cells #[.slice none 0 0, .slice none 0 0] 30) := ⟨_, rfl⟩
  go_enter Try.func17, Try.ntmps17
  go_wp2_with fail
  rw [← hW0] at rA rB rC hs0 B0 ⊢
  clear hW0
  refine (copy_impl h a b ca cb lo hi W0 (by omega) hwt hsm (hT.below B0 hh) (hV.below B0 hh)).mono ?_
  rintro e w1 ⟨⟨⟨pa, pn, pc⟩, ⟨ua, un, uc⟩, ss, rfl, hpn, hun, hO⟩, hb1⟩
  dsimp only at hpn hun
  subst hpn
  subst hun
  have hs1 := hb1.size
  dsimp only [Sl.v]
  obtain ⟨W3, hW3⟩ : ∃ W3, W3 = w1.alloc (Obj.cells #[.slice pa h.ts.length pc, .slice ua h.vs.length uc] 30) := ⟨_, rfl⟩
  have hb3 : Below w1.heap.size w1 W3 := by rw [hW3]; exact bel_alloc _ _
  have hv3 : VarH W3 W0.heap.size w1.heap.size ⟨pa, h.ts.length, pc⟩ ⟨ua, h.vs.length, uc⟩ ss h.xss (flatV h.vs) := ⟨by rw [hW3]; exact heap_alloc_new _ _, hO.below hb3⟩
  have B3 : Below W0.heap.size W0 W3 := hb1.trans (hb3.mono hs1)
  have rB3 := (B3.block (w.heap.size + 1) (by omega)).trans rB
  have rC3 := (B3.block (w.heap.size + 1 + 1) (by omega)).trans rC
  have z3 : W0.heap.size ≤ W3.heap.size := B3.size
  have BW3 : Below w.heap.size w W3 := B0.trans (B3.mono B0.size)
  have k0 := cell_of_row _ _ 0 _ _ _ rB3
  have k1 := cell_of_row _ _ 1 _ _ _ rB3
  have k2 := cell_of_row _ _ 2 _ _ _ rB3
  simp only [List.getElem?_toArray, List.getElem?_cons_zero, List.getElem?_cons_succ] at k0 k1 k2
  have HW3 : Hid (W3 = w1.alloc (Obj.cells #[.slice pa h.ts.length pc, .slice ua h.vs.length uc] 30)) := hW3
  have HV : Hid (VarH W3 W0.heap.size w1.heap.size ⟨pa, h.ts.length, pc⟩ ⟨ua, h.vs.length, uc⟩ ss h.xss (flatV h.vs)) := hv3
  clear hW3 hO hv3 rA rB rC hT hV
  have q0 : ∀ j, (w1.alloc (Obj.cells #[.slice pa h.ts.length pc, .slice ua h.vs.length uc] 30)).cell? ⟨w.heap.size + 1, j, none⟩ = W3.cell? ⟨w.heap.size + 1, j, none⟩ := fun j => by rw [← HW3.out]
  go_wp2_with fail
  rw [← HW3.out]
  refine (copied_any k n s _ hss).mono ?_
  rintro e w4 ⟨rfl, hb4⟩
  have hv4 := HV.out.below hb4
  have hs4 := hb4.size
  go_wp2_with fail
  refine (addCell_any w4 W0.heap.size w1.heap.size _ _ ss _ _ k n s hv4 (by omega) hs1 hvl).mono ?_
  rintro e w5 ⟨⟨⟨va, vn, vc⟩, rfl, hvn, hv5⟩, hfar, hb5⟩
  dsimp only at hvn hv5
  have rC4 := (hb4.block (w.heap.size + 1 + 1) (by omega)).trans rC3
  have rC5 := (hfar _ _ rC4 (by omega)).trans rC4
  have B5 : Below w.heap.size w w5 := B0.trans (((B3.trans (hb4.mono z3)).trans hb5).mono B0.size)
  have g0 := frozen_of_row _ _ 0 _ _ rC5
  have g1 := frozen_of_row _ _ 1 _ _ rC5
  have e0 := cell_of_row _ _ 0 _ _ _ rC5
  have e1 := cell_of_row _ _ 1 _ _ _ rC5
  have c0 := cell_of_row _ _ 0 _ _ _ hv5.var
  have c1 := cell_of_row _ _ 1 _ _ _ hv5.var
  simp only [List.getElem?_toArray, List.getElem?_cons_zero, List.getElem?_cons_succ, Sl.v] at e0 e1 c0 c1
  have nC := (Array.getElem?_eq_some_iff.1 rC5).1
  have HO : Hid (HOwn w5 W0.heap.size ⟨pa, h.ts.length, pc⟩ ⟨va, vn, vc⟩ ss h.xss (addY h.vs.length (flatV h.vs) [.int .i64 k, .int .i64 n, .string s])) := hv5.own
  have HN : Hid (vn = addL h.vs.length) := hvn
  have RC : Hid (w5.heap[w.heap.size + 1 + 1]? = some (Obj.cells #[.slice none 0 0, .slice none 0 0] 30)) := rC5
  clear hvn hv5 hfar rC3 rC4 rC5 k0 k1 k2 q0 rB3 hv4
  go_wp2_with fail
  refine bodyPost_ret (v := .tuple #[.agg #[.slice pa h.ts.length pc, .slice va vn vc], .int .i64 (addN h.vs.length)]) (by simp [results, Try.results17, go_sem, *]) rfl ⟨⟨⟨pa, h.ts.length, pc⟩, ⟨va, vn, vc⟩, ss, rfl, rfl, HN.out.trans (cell_len h ⟨k, n, s⟩), ?_⟩, ?_⟩
  · have q := (HO.out.stored RC.out (by decide) (W := ((w5.setCell ⟨w.heap.size + 1 + 1, 0, none⟩ (.slice pa h.ts.length pc)).setCell ⟨w.heap.size + 1 + 1, 1, none⟩ (.slice va vn vc))) (fun b hb => by rw [heap_setCell_other _ _ _ _ (by show b ≠ w.heap.size + 1 + 1; exact hb), heap_setCell_other _ _ _ _ (by show b ≠ w.heap.size + 1 + 1; exact hb)]) (by simp)).base B0.size
    have e : addY h.vs.length (flatV h.vs) [.int .i64 k, .int .i64 n, .string s] = flatV (h.cell ⟨k, n, s⟩).vs := cell_ys h ⟨k, n, s⟩
    rw [e] at q
    exact q
  · repeat (first | (with_reducible exact B5) | (with_reducible refine Below.setCell ?_ (by simp <;> omega) _))
end Go.Proofs.Ytbdpfmkpjeleaaa
