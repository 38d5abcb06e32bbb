/- A heap is copied by the specification. -/
import Derived.Test.YtbdpfmkpjeleaaaHeapV
namespace Go.Proofs.Ytbdpfmkpjeleaaa
open Go.RowKit

set_option maxRecDepth 100000 in
set_option maxHeartbeats 1600000 in
theorem copy_spec (h : Hp) (a b : Option Addr) (ca cb lo hi : Nat) (w : World) (hh : hi ≤ w.heap.size) (hwt : h.wt ≤ 1048576) (hT : TAt w lo hi h.ts a) (hV : VAt w lo hi h.vs b) :
    Calls Try.prog 31 #[.agg #[.slice a h.ts.length ca, .slice b h.vs.length cb]] w fun e w' => (∃ (sp cl : Sl) (ss : List Sl), e = .returned (.agg #[sp.v, cl.v]) ∧ sp.n = h.ts.length ∧ cl.n = h.vs.length ∧ HOwn w' w.heap.size sp cl ss h.xss (flatV h.vs)) ∧ Below w.heap.size w w' := by
  unfold Hp.wt at hwt
  have hln := len_wtT h.ts
  obtain ⟨i0, hi0, hz0, hz1, hz2⟩ := info_parts info_val
  obtain ⟨i1, hi1, hy0, hy1, hy2⟩ := info_parts info_pr
  obtain ⟨i2, hi2, hx0, hx1, hx2⟩ := info_parts info_prs
  obtain ⟨rA, rB, rC, hs0, B0⟩ := rows3 w (Obj.cells #[.slice a h.ts.length ca, .slice b h.vs.length cb] 30) (Obj.cells #[.slice none 0 0, .slice none 0 0] 30) (Obj.cells #[] 32)
  have own0 := own_lit0 ((w.alloc (Obj.cells #[.slice a h.ts.length ca, .slice b h.vs.length cb] 30)).alloc (Obj.cells #[.slice none 0 0, .slice none 0 0] 30)) w.heap.size 32 3 (by simp; omega)
  rw [show ((w.alloc (Obj.cells #[.slice a h.ts.length ca, .slice b h.vs.length cb] 30)).alloc (Obj.cells #[.slice none 0 0, .slice none 0 0] 30)).heap.size = w.heap.size + 1 + 1 by simp] at own0
  go_enter Try.func31, Try.ntmps31
  go_wp2_with (at_builtin; go_must (refine wpList_append_any _ rfl _ _ 28 rfl w.heap.size 32 i0 _ 3 32 Try.underlying28 hi0 hz0 hz1 hz2 rfl (by decide) _ _ _ rfl own0 b h.vs.length cb (flatV h.vs) rfl (by rw [flatV_len, Nat.mul_comm]) (news_of_vat (hV.below B0 hh)) (one_flatV _) (by unfold maxLen; omega) (by omega) (by rw [hs0]; omega) _ rfl ?_; intro b1 c1 w1 own1 gr1 at1; simp only [Nat.zero_add, List.nil_append] at own1 at1 ⊢))
  have hg1 := gr1.size
  rw [hs0] at hg1
  have rA1 := (gr1.block w.heap.size (by rw [hs0]; omega) (fun e => by have := Option.some.inj e; dsimp only at this; omega)).trans rA
  have rB1 := (gr1.block (w.heap.size + 1) (by rw [hs0]; omega) (fun e => by have := Option.some.inj e; dsimp only at this; omega)).trans rB
  have B1 : Below w.heap.size w w1 := B0.grown gr1 (by rw [hs0]; omega) (fun k hk => by have := Option.some.inj hk; dsimp only at this; omega)
  obtain ⟨W3, hW3⟩ : ∃ W3, W3 = w1.alloc (Obj.cells #[.slice none 0 0, .slice b1 h.vs.length c1] 30) := ⟨_, rfl⟩
  have hb3 : Below w1.heap.size w1 W3 := by rw [hW3]; exact bel_alloc _ _
  have rC3 : W3.heap[w1.heap.size]? = some (.cells #[.slice none 0 0, .slice b1 h.vs.length c1] 30 (0, 0)) := by rw [hW3]; exact heap_alloc_new _ _
  rw [← hW3]
  clear hW3
  have rA3 := (hb3.block w.heap.size (by omega)).trans rA1
  have rB3 := (hb3.block (w.heap.size + 1) (by omega)).trans rB1
  have B3 := B1.trans (hb3.mono (by omega))
  have own3 := own_below own1 hb3
  have hs1 : w.heap.size + 1 < w1.heap.size := by omega
  clear own1 rA1 rB1 own0 rA rB rC at1 gr1 hs0 hg1 B0 hb3
  go_loopw [4] (fun x wr => ∃ (i : Nat) (pa : Option Addr) (pc : Nat) (ss : List Sl), x = .int .i64 i ∧ i ≤ h.ts.length ∧ VarH wr w.heap.size w1.heap.size ⟨pa, i, pc⟩ ⟨b1, h.vs.length, c1⟩ ss ((h.ts.take i).map flatP) (flatV h.vs) ∧ wr.heap[w.heap.size]? = some (Obj.cells #[.slice a h.ts.length ca, .slice b h.vs.length cb] 30) ∧ wr.heap[w.heap.size + 1]? = some (Obj.cells #[.slice none 0 0, .slice none 0 0] 30) ∧ Below w.heap.size w wr) (fun x _ => h.ts.length - (intOf x).toNat)
  case atStart => exact ⟨0, none, 0, [], rfl, Nat.zero_le _, ⟨rC3, World.ownsRow_nil _ _ _ _, Tabs.nil _ B3.size, own3⟩, rA3, rB3, B3⟩
  case round =>
    clear rA3 rB3 B3 own3 rC3
    obtain ⟨i, pa, pc, ss, rfl, hil, hv, hA, hB, hbl⟩ := hrel
    have a0 := cell_of_row _ _ 0 _ _ _ hA
    have a1 := cell_of_row _ _ 1 _ _ _ hA
    have c0 := cell_of_row _ _ 0 _ _ _ hv.var
    have c1' := cell_of_row _ _ 1 _ _ _ hv.var
    have f0 := frozen_of_row _ _ 0 _ _ hv.var
    simp only [List.getElem?_toArray, List.getElem?_cons_zero, List.getElem?_cons_succ, Sl.v] at a0 a1 c0 c1'
    have HV : Hid (VarH wr w.heap.size w1.heap.size ⟨pa, i, pc⟩ ⟨b1, h.vs.length, c1⟩ ss ((h.ts.take i).map flatP) (flatV h.vs)) := hv
    have hC := hv.lt
    by_cases hlt : i < h.ts.length
    · obtain ⟨hl, g, o, d0, e0, rfl, _, hg, hc, hP⟩ := hT i hlt
      have x0 := (hbl.cell (p := ⟨g, o + i, none⟩) (by show g < _; omega)).trans hc
      have hP' := hP.below hbl hh
      have hwm := wtT_mem h.ts i hlt
      have HTS : Hid ((h.ts.take (i + 1)).map flatP = (h.ts.take i).map flatP ++ [flatP h.ts[i]]) := take_snoc flatP h.ts i hlt
      obtain ⟨t, ht⟩ : ∃ t, t = h.ts[i] := ⟨_, rfl⟩
      rw [← ht] at x0 hP' hwm hl HTS
      clear hc hP ht hv
      have hsz := hbl.size
      obtain ⟨W4, hW4⟩ : ∃ W4 : World, W4 = (wr.alloc (.cells #[] 61)).drew := ⟨_, rfl⟩
      have b4 : Below wr.heap.size wr W4 := by rw [hW4]; exact (bel_alloc wr _).drew
      have z4 : W4.heap.size = wr.heap.size + 1 := by rw [hW4]; exact size_alloc wr _
      have HW4 : Hid (W4 = (wr.alloc (.cells #[] 61)).drew) := hW4
      have OWN1 : W4.ownsRow wr.heap.size 61 6 (.slice (some ⟨wr.heap.size, 0, none⟩) 0 0) 0 [] := by rw [hW4]; exact own_lit0 wr wr.heap.size 61 6 (Nat.le_refl _)
      have hPW : PAt W4 lo hi t d0 := hP'.later (Nat.le_refl _) (Nat.le_refl _) fun p _ hp => b4.cell (by show p.block < wr.heap.size; omega)
      have NEWS1 := news_of_pat hPW
      have L1 : (flatP t).length = t.length * 6 := by rw [flatP_len, Nat.mul_comm]
      have ONE1 := one_flatP t
      have K4 : Hid (∀ w4 : World, W4.grownBy w4 (some wr.heap.size) → Below wr.heap.size wr w4 ∧ VarH w4 w.heap.size w1.heap.size ⟨pa, i, pc⟩ ⟨b1, h.vs.length, c1⟩ ss ((h.ts.take i).map flatP) (flatV h.vs) ∧ w4.cell? ⟨w1.heap.size, 0, none⟩ = some (.slice pa i pc)) := fun w4 gr4 => by
        have x1 : Below wr.heap.size wr w4 := b4.grown gr4 (by omega) (fun k hk => by cases hk; exact Nat.le_refl _)
        have x2 := HV.out.below x1
        exact ⟨x1, x2, cell_of_row _ _ 0 _ _ _ x2.var⟩
      have K5 : Hid (∀ (w4 w5 : World) (O : Obj), Below wr.heap.size wr w4 → (w4.alloc O).grownBy w5 (Value.slice pa i pc).ownBlock → w5.cell? ⟨w1.heap.size, 0, none⟩ = some (.slice pa i pc) ∧ w5.frozen? ⟨w1.heap.size, 0, none⟩ = false) := fun w4 w5 O h1 h2 => by
        have x := VarH.table_store HV.out h1 O h2
        exact ⟨cell_of_row _ _ 0 _ _ _ x, frozen_of_row _ _ 0 _ _ x⟩
      clear hW4
      have qA : ∀ O : Obj, (wr.alloc O).cell? ⟨w.heap.size, 0, none⟩ = wr.cell? ⟨w.heap.size, 0, none⟩ := fun O => (bel_alloc wr O).cell (Array.getElem?_eq_some_iff.1 hA).1
      have qC : ∀ O : Obj, (wr.alloc O).cell? ⟨w1.heap.size, 0, none⟩ = wr.cell? ⟨w1.heap.size, 0, none⟩ := fun O => (bel_alloc wr O).cell hC
      have qX : ∀ O : Obj, (wr.alloc O).cell? ⟨g, o + i, none⟩ = wr.cell? ⟨g, o + i, none⟩ := fun O => (bel_alloc wr O).cell (by show g < _; omega)
      go_wp2_with fail
      go_region_law (first
        | (refine step_append_any _ rfl _ _ 59 rfl wr.heap.size 61 i1 _ 6 64 Try.underlying59 hi1 hy0 hy1 hy2 rfl (by decide) _ _ _ rfl (by rw [← HW4.out]; exact OWN1) d0 t.length e0 (flatP t) rfl L1 (by rw [← HW4.out]; exact NEWS1) ONE1 (by unfold maxLen; omega) (by omega) (by rw [← HW4.out, z4]; omega) _ rfl ?_; rw [← HW4.out]; intro b4' c4 w4 own4 gr4 at4; simp only [Nat.zero_add, List.nil_append] at own4 at4 ⊢; obtain ⟨hb4, hv4, c04⟩ := K4.out w4 gr4; have hb4z := hb4.size; have qC4 : ∀ O : Obj, (w4.alloc O).cell? ⟨w1.heap.size, 0, none⟩ = w4.cell? ⟨w1.heap.size, 0, none⟩ := fun O => (bel_alloc w4 O).cell hv4.lt)
        | (refine step_append_any _ rfl _ _ 27 rfl w.heap.size 59 i2 _ 1 24 Try.underlying27 hi2 hx0 hx1 hx2 rfl (by decide) _ _ _ rfl (World.ownsRow.alloc (show w4.ownsRow w.heap.size 59 1 (.slice pa i pc) i (ss.map Sl.v) from hv4.own.spine) _) (some ⟨w4.heap.size, 0, none⟩) 1 1 [.slice b4' t.length c4] rfl rfl (fun j u hu => ⟨_, rfl, cell_one_new w4 _ _ j u hu⟩) (by simp [Value.oneCell']) (by unfold maxLen; omega) (by omega) (by rw [size_alloc]; omega) _ rfl ?_; intro b5 c5 w5 own5 gr5 at5; obtain ⟨c05, f05⟩ := K5.out w4 w5 _ hb4 gr5))
      all_goals
        go_wp2_with fail
        go_roundw
        case rel =>
          obtain ⟨hv5, hfar, hb5⟩ := HV.out.table hb4 (row_of_own (s := ⟨b4', t.length, c4⟩) own4) _ gr5 b5 c5 own5 hsz (by omega)
          exact ⟨i + 1, b5, c5, ss ++ [⟨b4', t.length, c4⟩], by go_num, by omega, by rw [HTS.out]; exact hv5, (hfar _ _ hA (by omega)).trans hA, (hfar _ _ hB (by omega)).trans hB, hbl.trans (hb5.mono (Nat.le_refl _))⟩
        case measure => simp [intOf]; omega
    · obtain rfl : i = h.ts.length := by omega
      rw [List.take_length] at hv HV
      have g0 := frozen_of_row _ _ 0 _ _ hB
      have g1 := frozen_of_row _ _ 1 _ _ hB
      have k0 := cell_of_row _ _ 0 _ _ _ hB
      have k1 := cell_of_row _ _ 1 _ _ _ hB
      simp only [List.getElem?_toArray, List.getElem?_cons_zero, List.getElem?_cons_succ] at k0 k1
      have hbl' := hbl
      have hnB := (Array.getElem?_eq_some_iff.1 hB).1
      clear hT hV hv
      go_wp2_with fail
      have far : ∀ W : World, (∀ b, b ≠ w.heap.size + 1 → W.heap[b]? = wr.heap[b]?) → wr.heap.size ≤ W.heap.size → HOwn W w.heap.size ⟨pa, h.ts.length, pc⟩ ⟨b1, h.vs.length, c1⟩ ss h.xss (flatV h.vs) := fun W hW hz => by
        have ne : ∀ b cs T, wr.heap[b]? = some (.cells cs T (0, 0)) → T ≠ 30 → b ≠ w.heap.size + 1 := fun b cs T h1 h2 e => by
          subst e; rw [hB] at h1; simp only [Option.some.injEq, Obj.cells.injEq] at h1; exact h2 h1.2.1.symm
        exact ⟨own_keep HV.out.own.spine fun g cs _ hc => hW g (ne g cs _ hc (by decide)), (HV.out.own.tabs.keep fun b _ _ ⟨cs, hc⟩ => hW b (ne b cs _ hc (by decide))).wide (Nat.le_refl _) hz, own_keep HV.out.own.cells fun g cs _ hc => hW g (ne g cs _ hc (by decide))⟩
      refine bodyPost_ret (v := .agg #[.slice pa h.ts.length pc, .slice b1 h.vs.length c1]) (by simp [results, Try.results31, go_sem, *]) rfl ⟨⟨⟨pa, h.ts.length, pc⟩, ⟨b1, h.vs.length, c1⟩, ss, rfl, rfl, rfl, ?_⟩, ?_⟩
      · refine far _ (fun b hb => ?_) (by simp)
        rw [heap_setCell_other _ _ _ _ (by show b ≠ w.heap.size + 1; exact hb), heap_setCell_other _ _ _ _ (by show b ≠ w.heap.size + 1; exact hb)]
      · repeat (first | (with_reducible exact hbl') | (with_reducible refine Below.setCell ?_ (by simp <;> omega) _))
end Go.Proofs.Ytbdpfmkpjeleaaa
