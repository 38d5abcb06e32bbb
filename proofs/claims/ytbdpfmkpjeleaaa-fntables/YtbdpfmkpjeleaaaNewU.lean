/- NewTable of the program. -/
import Derived.Test.YtbdpfmkpjeleaaaNewT
namespace Go.Proofs.Ytbdpfmkpjeleaaa
open Go.RowKit

def Hp.table (h : Hp) : Hp := ⟨if 500 ≤ h.ts.length then h.ts else h.ts ++ [[]], h.vs⟩
theorem table_xss (h : Hp) : tabX h.ts.length h.xss = h.table.xss := by
  unfold tabX Hp.table Hp.xss
  by_cases hf : 500 ≤ h.ts.length
  · simp only [if_pos hf]
  · simp only [if_neg hf, List.map_append]; rfl
theorem table_len (h : Hp) : tabL h.ts.length = h.table.ts.length := by
  unfold tabL Hp.table
  by_cases hf : 500 ≤ h.ts.length
  · simp only [if_pos hf]
  · simp only [if_neg hf]; simp
theorem drew_at (w : World) (b : Nat) : w.drew.heap[b]? = w.heap[b]? := rfl
theorem HOwn.under {w W : World} {B : Nat} {sp cl : Sl} {ss : List Sl} {xss : List (List Value)} {ys : List Value} (h : HOwn w B sp cl ss xss ys) (hW : ∀ b, B ≤ b → W.heap[b]? = w.heap[b]?) (hz : w.heap.size ≤ W.heap.size) : HOwn W B sp cl ss xss ys :=
  ⟨own_keep h.spine fun g _ hg _ => hW g (h.spine.lt g hg).1, (h.tabs.keep fun b hb _ _ => hW b hb).wide (Nat.le_refl _) hz, own_keep h.cells fun g _ hg _ => hW g (h.cells.lt g hg).1⟩

set_option maxRecDepth 100000 in
set_option maxHeartbeats 1600000 in
theorem newTable_impl (h : Hp) (a b : Option Addr) (ca cb lo hi : Nat) (w : World) (hh : hi ≤ w.heap.size) (hwt : h.wt ≤ 1048576) (hsm : h.Sm) (hT : TAt w lo hi h.ts a) (hV : VAt w lo hi h.vs b) :
    Calls Try.prog 9 #[.agg #[.slice a h.ts.length ca, .slice b h.vs.length cb]] w fun e w' => (∃ (sp cl : Sl) (ss : List Sl), e = .returned (.tuple #[.agg #[sp.v, cl.v], .agg #[.int .i64 (tabK h.ts.length), .int .i64 (tabI h.ts.length), .string ⟨#[]⟩]]) ∧ OwnH w' w.heap.size h.table sp cl ss) ∧ Below w.heap.size w w' := by
  have hvl : h.ts.length ≤ 1048576 := by have := len_wtT h.ts; unfold Hp.wt at hwt; omega
  obtain ⟨rA, rB, rC, hs0, B0⟩ := rows3 w (Obj.cells #[.slice a h.ts.length ca, .slice b h.vs.length cb] 30) (Obj.cells #[.slice none 0 0, .slice none 0 0] 30) (Obj.cells #[.int .i64 0, .int .i64 0, .string ⟨#[]⟩] 32)
  obtain ⟨W0, hW0⟩ : ∃ W0, W0 = ((w.alloc (Obj.cells #[.slice a h.ts.length ca, .slice b h.vs.length cb] 30)).alloc (Obj.cells #[.slice none 0 0, .slice none 0 0] 30)).alloc (Obj.cells #[.int .i64 0, .int .i64 0, .string ⟨#[]⟩] 32) := ⟨_, rfl⟩
  go_enter Try.func9, Try.ntmps9
  go_wp2_with fail
  rw [← hW0] at rA rB rC hs0 B0 ⊢
  clear hW0
  refine (copy_impl h a b ca cb lo hi W0 (by omega) hwt hsm (hT.below B0 hh) (hV.below B0 hh)).mono ?_
  rintro e w1 ⟨⟨⟨pa, pn, pc⟩, ⟨ua, un, uc⟩, ss, rfl, hpn, hun, hO⟩, hb1⟩
  dsimp only at hpn hun
  subst hpn
  subst hun
  have hs1 := hb1.size
  dsimp only [Sl.v]
  have HV : Hid (VarH (w1.alloc (Obj.cells #[.slice pa h.ts.length pc, .slice ua h.vs.length uc] 30)) W0.heap.size w1.heap.size ⟨pa, h.ts.length, pc⟩ ⟨ua, h.vs.length, uc⟩ ss h.xss (flatV h.vs)) := ⟨heap_alloc_new _ _, hO.below (bel_alloc _ _)⟩
  have B3 : Below W0.heap.size W0 (w1.alloc (Obj.cells #[.slice pa h.ts.length pc, .slice ua h.vs.length uc] 30)) := hb1.trans ((bel_alloc _ _).mono hs1)
  have hsz : (w1.alloc (Obj.cells #[.slice pa h.ts.length pc, .slice ua h.vs.length uc] 30)).heap.size = w1.heap.size + 1 := by simp
  clear hO hT hV hb1
  go_wp2_with fail
  refine (addTable_any _ W0.heap.size w1.heap.size _ _ ss _ _ HV.out (by omega) hs1 hvl).mono ?_
  rintro e w5 ⟨⟨⟨va, vn, vc⟩, ss', rfl, hvn, hv5⟩, hfar, hb5⟩
  dsimp only at hvn hv5
  have B5 := B3.trans hb5
  have rB5 := (B5.block (w.heap.size + 1) (by omega)).trans rB
  have rC5 := (B5.block (w.heap.size + 1 + 1) (by omega)).trans rC
  have Bw : Below w.heap.size w w5 := B0.trans (B5.mono B0.size)
  have c0 := cell_of_row _ _ 0 _ _ _ hv5.var
  have c1 := cell_of_row _ _ 1 _ _ _ hv5.var
  have e0 := cell_of_row _ _ 0 _ _ _ rB5
  have e1 := cell_of_row _ _ 1 _ _ _ rB5
  have d0 := cell_of_row _ _ 0 _ _ _ rC5
  have d1 := cell_of_row _ _ 1 _ _ _ rC5
  have d2 := cell_of_row _ _ 2 _ _ _ rC5
  simp only [List.getElem?_toArray, List.getElem?_cons_zero, List.getElem?_cons_succ, Sl.v] at c0 c1 e0 e1 d0 d1 d2
  have HV5 : Hid (VarH w5 W0.heap.size w1.heap.size ⟨va, vn, vc⟩ ⟨ua, h.vs.length, uc⟩ ss' (tabX h.ts.length h.xss) (flatV h.vs)) := hv5
  have HN : Hid (vn = tabL h.ts.length) := hvn
  have n1 : w1.heap.size < w5.heap.size := hv5.lt
  have hz5 := B5.size
  obtain ⟨W6, hW6⟩ : ∃ W6, W6 = w5.alloc (Obj.cells #[.int .i64 (tabK h.ts.length), .int .i64 (tabI h.ts.length), .string ⟨#[]⟩] 32) := ⟨_, rfl⟩
  have HW6 : Hid (W6 = w5.alloc (Obj.cells #[.int .i64 (tabK h.ts.length), .int .i64 (tabI h.ts.length), .string ⟨#[]⟩] 32)) := hW6
  clear hW6 hvn hv5 hfar
  go_wp2_with fail
  rw [← HW6.out]
  have b6 : Below w5.heap.size w5 W6 := by rw [HW6.out]; exact bel_alloc _ _
  have r6 : W6.heap[w5.heap.size]? = some (.cells #[.int .i64 (tabK h.ts.length), .int .i64 (tabI h.ts.length), .string ⟨#[]⟩] 32 (0, 0)) := by rw [HW6.out]; exact heap_alloc_new _ _
  have hv6 := HV5.out.below b6
  have rB6 := (b6.block (w.heap.size + 1) (by omega)).trans rB5
  have rC6 := (b6.block (w.heap.size + 1 + 1) (by omega)).trans rC5
  have B6 : Below w.heap.size w W6 := Bw.trans (b6.mono Bw.size)
  clear c0 c1 e0 e1 d0 d1 d2
  have c0 := cell_of_row _ _ 0 _ _ _ hv6.var
  have c1 := cell_of_row _ _ 1 _ _ _ hv6.var
  have e0 := cell_of_row _ _ 0 _ _ _ rB6
  have e1 := cell_of_row _ _ 1 _ _ _ rB6
  have d0 := cell_of_row _ _ 0 _ _ _ rC6
  have d1 := cell_of_row _ _ 1 _ _ _ rC6
  have d2 := cell_of_row _ _ 2 _ _ _ rC6
  have g0 := frozen_of_row _ _ 0 _ _ rB6
  have g1 := frozen_of_row _ _ 1 _ _ rB6
  have f0 := frozen_of_row _ _ 0 _ _ rC6
  have f1 := frozen_of_row _ _ 1 _ _ rC6
  have f2 := frozen_of_row _ _ 2 _ _ rC6
  have m0 := cell_of_row _ _ 0 _ _ _ r6
  have m1 := cell_of_row _ _ 1 _ _ _ r6
  have m2 := cell_of_row _ _ 2 _ _ _ r6
  simp only [List.getElem?_toArray, List.getElem?_cons_zero, List.getElem?_cons_succ, Sl.v] at c0 c1 e0 e1 d0 d1 d2 m0 m1 m2
  have HO6 : Hid (HOwn W6 W0.heap.size ⟨va, vn, vc⟩ ⟨ua, h.vs.length, uc⟩ ss' (tabX h.ts.length h.xss) (flatV h.vs)) := hv6.own
  have HS : Hid (w.heap.size + 1 + 1 < W0.heap.size) := by show _ < _; omega
  clear rA rB rC rB5 rC5 rB6 rC6 hv6 r6
  go_region
  go_wp2_with fail
  all_goals
    refine bodyPost_ret (v := .tuple #[.agg #[.slice va vn vc, .slice ua h.vs.length uc], .agg #[.int .i64 (tabK h.ts.length), .int .i64 (tabI h.ts.length), .string ⟨#[]⟩]]) (by simp [results, Try.results9, go_sem, *]) rfl ⟨⟨⟨va, vn, vc⟩, ⟨ua, h.vs.length, uc⟩, ss', rfl, HN.out.trans (table_len h), rfl, ?_⟩, ?_⟩
    · rw [← table_xss]
      refine (HO6.out.under (fun b hb => ?_) (by simp)).base B0.size
      have := HS.out
      repeat (first | (with_reducible refine (drew_at _ _).trans ?_) | (with_reducible refine (heap_setCell_other _ _ _ _ (by dsimp only; omega)).trans ?_))
      with_reducible rfl
    · repeat (first | (with_reducible exact B6) | (with_reducible refine Below.drew ?_) | (with_reducible refine Below.setCell ?_ (by simp <;> omega) _))
end Go.Proofs.Ytbdpfmkpjeleaaa
