/- Tables in a row, a heap: marked, and found marked. -/
import Derived.Test.YtbdpfmkpjeleaaaMarkI
import Derived.Test.YtbdpfmkpjeleaaaMarkK
import Derived.Test.YtbdpfmkpjeleaaaMarkJ
import Derived.Test.YtbdpfmkpjeleaaaMarkM
namespace Go.Proofs.Ytbdpfmkpjeleaaa
open Go.RowKit

def off (ss : List Sl) (i : Nat) : Nat := ((ss.take i).map Sl.n).sum
theorem off_zero (ss : List Sl) : off ss 0 = 0 := rfl
theorem off_succ (ss : List Sl) (i : Nat) (h : i < ss.length) : off ss (i + 1) = off ss i + ss[i].n := by
  unfold off
  rw [List.take_succ_eq_append_getElem h, List.map_append, List.sum_append]; simp
theorem off_le (ss : List Sl) (i : Nat) : off ss i ≤ off ss ss.length := by
  unfold off
  rw [List.take_length]
  conv => rhs; rw [← List.take_append_drop i ss]
  rw [List.map_append, List.sum_append]; omega
def markT (K : Nat) (ss : List Sl) (j : Nat) : List Value := mks (K + 6 * off ss j) (6 * ((ss[j]?.map Sl.n).getD 0))
theorem markT_eq (K : Nat) (ss : List Sl) (j : Nat) (h : j < ss.length) : markT K ss j = mks (K + 6 * off ss j) (6 * ss[j].n) := by simp [markT, List.getElem?_eq_getElem h]
def markL (K : Nat) (ss : List Sl) : List (List Value) := (List.range ss.length).map (markT K ss)
theorem markL_len (K : Nat) (ss : List Sl) : (markL K ss).length = ss.length := by simp [markL]
theorem markL_get (K : Nat) (ss : List Sl) (j : Nat) (h : j < (markL K ss).length) : (markL K ss)[j] = markT K ss j := by simp [markL]

set_option maxRecDepth 100000 in
set_option maxHeartbeats 4000000 in
theorem mkT_any (sp : Sl) (ss : List Sl) (K lo hi : Nat) (xss : List (List Value)) (w : World) (hsp : Row w lo hi 59 1 sp (ss.map Sl.v)) (hT : Tabs w lo hi ss xss) (hK : 0 < K) (hn : K + 6 * off ss ss.length ≤ 1099511627776) (hl : ss.length ≤ maxLen) :
    Calls Try.prog 38 #[sp.v, .int .i64 (K : Int)] w fun e w' => e = .returned (.int .i64 ((K + 6 * off ss ss.length : Nat) : Int)) ∧ Tabs w' lo hi ss (markL K ss) ∧ Turn w w' lo hi 61 := by
  obtain ⟨h0, L, U, h1, h2, h4⟩ := hT
  have H0 : Hid (ss.length = xss.length) := h0
  have h0' : ss.length ≤ xss.length := Nat.le_of_eq h0
  clear h0
  have hsn : sp.n = ss.length := by have := hsp.1; rw [List.length_map] at this; omega
  unfold maxLen at hl
  obtain ⟨a, n, c⟩ := sp
  dsimp only [Sl.v] at *
  subst hsn
  go_enter Try.func38, Try.ntmps38
  go_wp2_with fail
  go_loopw [1, 5] (fun k x wr => ∃ i : Nat, k = .int .i64 ((K + 6 * off ss i : Nat) : Int) ∧ x = .int .i64 i ∧ i ≤ ss.length ∧ Turn w wr lo hi 61 ∧ (∀ j (h : j < ss.length), j < i → Row wr (L j) (U j) 61 6 ss[j] (markT K ss j)) ∧ ∀ j (h : j < ss.length), i ≤ j → Row wr (L j) (U j) 61 6 ss[j] (xss[j]'(by omega))) (fun _ x _ => ss.length - (intOf x).toNat)
  case atStart => exact ⟨0, by simp [off_zero], rfl, Nat.zero_le _, .same (Below.refl _ _), fun j _ hj => absurd hj (Nat.not_lt_zero _), fun j h _ => h4 j h (by omega)⟩
  case round =>
    obtain ⟨i, rfl, rfl, hil, hby, hd, ht⟩ := hrel
    by_cases hlt : i < ss.length
    · obtain ⟨g, rfl, _, _, _, hc⟩ := (hsp.turn hby (.inr (.inr (by decide)))).cell i (by rw [List.length_map]; exact hlt)
      rw [List.getElem?_map, List.getElem?_eq_getElem hlt, Option.map_some] at hc
      have ho := off_succ ss i hlt
      have hol := off_le ss (i + 1)
      have hri := ht i hlt (Nat.le_refl _)
      have hcall := mkP_any ss[i] (K + 6 * off ss i) (L i) (U i) 61 _ wr hri (by omega) (by omega)
      have HD : Hid (∀ j (h : j < ss.length), j < i → Row wr (L j) (U j) 61 6 ss[j] (markT K ss j)) := hd
      have HT : Hid (∀ j (h : j < ss.length), i ≤ j → Row wr (L j) (U j) 61 6 ss[j] (xss[j]'(by omega))) := ht
      have HO : Hid (off ss (i + 1) = off ss i + ss[i].n) := ho
      have HM : Hid (markT K ss i = mks (K + 6 * off ss i) (6 * ss[i].n)) := markT_eq K ss i hlt
      have HCALL := hcall
      clear hd ht hri ho hol hcall
      obtain ⟨s, hs⟩ : ∃ s, s = ss[i] := ⟨_, rfl⟩
      rw [← hs] at hc HCALL HO HM
      have HS : Hid (s = ss[i]) := hs
      clear hs
      obtain ⟨sa, sn, sc⟩ := s
      dsimp only [Sl.v] at hc HCALL HO HM
      have HC : Hid (Calls Try.prog 72 #[.slice sa sn sc, .int .i64 ((K + 6 * off ss i : Nat) : Int)] wr fun e w' => e = .returned (.int .i64 ((K + 6 * off ss i + 6 * sn : Nat) : Int)) ∧ Row w' (L i) (U i) 61 6 ⟨sa, sn, sc⟩ (mks (K + 6 * off ss i) (6 * sn)) ∧ Turn wr w' (L i) (U i) 61) := HCALL
      clear HCALL
      go_wp2_with fail
      refine Calls.mono (by have := HC.out; push_cast at this; exact this) ?_
      rintro e w1 ⟨rfl, hr1, ht1⟩
      go_wp2_with fail
      go_roundw
      case rel =>
        refine ⟨i + 1, by rw [HO.out]; first | rfl | (congr 1; push_cast; omega), by go_num, by omega, hby.trans (ht1.wide (h1 i hlt).1 (h1 i hlt).2), fun j h hj => ?_, fun j h hj => ?_⟩
        · by_cases e : j = i
          · subst e
            rw [HM.out, ← HS.out]
            exact hr1
          · exact (HD.out j h (by omega)).turn ht1 (by rcases h2 j i h hlt e with q | q; exact .inl q; exact .inr (.inl q))
        · exact (HT.out j h (by omega)).turn ht1 (by rcases h2 j i h hlt (by omega) with q | q; exact .inl q; exact .inr (.inl q))
      case measure => simp [intOf]; omega
    · obtain rfl : i = ss.length := by omega
      clear ht
      have HD : Hid (∀ j (h : j < ss.length), j < ss.length → Row wr (L j) (U j) 61 6 ss[j] (markT K ss j)) := hd
      clear hd h4
      go_wp2_with fail
      go_ret
      exact ⟨rfl, ⟨(markL_len K ss).symm, L, U, h1, h2, fun j h h' => by rw [markL_get]; exact HD.out j h h⟩, hby⟩
set_option maxRecDepth 100000 in
set_option maxHeartbeats 4000000 in
theorem hdT_any (sp : Sl) (ss : List Sl) (K lo hi : Nat) (w : World) (hsp : Row w lo hi 59 1 sp (ss.map Sl.v)) (hT : Tabs w lo hi ss (markL K ss)) (hK : 0 < K) (hn : K + 6 * off ss ss.length ≤ 1099511627776) (hl : ss.length ≤ maxLen) :
    Calls Try.prog 40 #[sp.v, .int .i64 (K : Int)] w fun e w' => e = .returned (.int .i64 ((K + 6 * off ss ss.length : Nat) : Int)) ∧ Below w.heap.size w w' := by
  have hsn : sp.n = ss.length := by have := hsp.1; rw [List.length_map] at this; omega
  unfold maxLen at hl
  have hR : ∀ j (h : j < ss.length), Row w lo hi 61 6 ss[j] (mks (K + 6 * off ss j) (6 * ss[j].n)) := fun j h => by
    have := hT.get j h (by rw [markL_len]; exact h)
    rwa [markL_get, markT_eq K ss j h] at this
  obtain ⟨a, n, c⟩ := sp
  dsimp only [Sl.v] at *
  subst hsn
  clear hT
  go_enter Try.func40, Try.ntmps40
  go_wp2_with fail
  go_loopw [1, 5] (fun k x wr => ∃ i : Nat, k = .int .i64 ((K + 6 * off ss i : Nat) : Int) ∧ x = .int .i64 i ∧ i ≤ ss.length ∧ Below w.heap.size w wr) (fun _ x _ => ss.length - (intOf x).toNat)
  case atStart => exact ⟨0, by simp [off_zero], rfl, Nat.zero_le _, Below.refl _ _⟩
  case round =>
    obtain ⟨i, rfl, rfl, hil, hby⟩ := hrel
    by_cases hlt : i < ss.length
    · obtain ⟨g, rfl, _, _, _, hc⟩ := (hsp.below hby).cell i (by rw [List.length_map]; exact hlt)
      rw [List.getElem?_map, List.getElem?_eq_getElem hlt, Option.map_some] at hc
      have ho := off_succ ss i hlt
      have hol := off_le ss (i + 1)
      have hcall := hdP_any ss[i] (K + 6 * off ss i) lo hi 61 wr ((hR i hlt).below hby) (by omega) (by omega)
      have HO : Hid (off ss (i + 1) = off ss i + ss[i].n) := ho
      have HR : Hid (∀ j (h : j < ss.length), Row w lo hi 61 6 ss[j] (mks (K + 6 * off ss j) (6 * ss[j].n))) := hR
      clear ho hol
      obtain ⟨s, hs⟩ : ∃ s, s = ss[i] := ⟨_, rfl⟩
      rw [← hs] at hc hcall HO
      clear hs
      obtain ⟨sa, sn, sc⟩ := s
      dsimp only [Sl.v] at hc hcall HO
      have HC : Hid (Calls Try.prog 74 #[.slice sa sn sc, .int .i64 ((K + 6 * off ss i : Nat) : Int)] wr fun e w' => e = .returned (.int .i64 ((K + 6 * off ss i + 6 * sn : Nat) : Int)) ∧ Below wr.heap.size wr w') := hcall
      clear hcall
      go_wp2_with fail
      refine Calls.mono (by have := HC.out; push_cast at this; exact this) ?_
      rintro e w1 ⟨rfl, hb1⟩
      go_wp2_with fail
      go_roundw
      case rel => exact ⟨i + 1, by rw [HO.out]; first | rfl | (congr 1; push_cast; omega), by go_num, by omega, hby.trans (hb1.mono hby.size)⟩
      case measure => simp [intOf]; omega
    · obtain rfl : i = ss.length := by omega
      clear hR
      go_wp2_with fail
      go_ret
      exact ⟨rfl, hby⟩

def markN (K : Nat) (ss : List Sl) (cl : Sl) : Nat := K + 6 * off ss ss.length + 3 * cl.n
def markC (K : Nat) (ss : List Sl) (cl : Sl) : List Value := mks (K + 6 * off ss ss.length) (3 * cl.n)
theorem HLay.alloc {w : World} {lo hi : Nat} {sp cl : Sl} {ss : List Sl} {xss : List (List Value)} {ys : List Value} (h : HLay w lo hi sp cl ss xss ys) (o : Obj) : HLay (w.alloc o) lo hi sp cl ss xss ys := h.below (bel_alloc w o)
set_option maxRecDepth 100000 in
set_option maxHeartbeats 4000000 in
theorem mkH_any (sp cl : Sl) (ss : List Sl) (K lo hi : Nat) (xss : List (List Value)) (ys : List Value) (w : World) (hL : HLay w lo hi sp cl ss xss ys) (hhi : hi ≤ w.heap.size) (hK : 0 < K) (hn : markN K ss cl ≤ 1099511627776) (hl : ss.length ≤ maxLen) :
    Calls Try.prog 12 #[.agg #[sp.v, cl.v], .int .i64 (K : Int)] w fun e w' => e = .returned (.int .i64 ((markN K ss cl : Nat) : Int)) ∧ HLay w' lo hi sp cl ss (markL K ss) (markC K ss cl) ∧ Out w w' lo hi ∧ ∀ (b : Nat) (cs : Array Value), w.heap[b]? = some (Obj.cells cs 30 (0, 0)) → w'.heap[b]? = w.heap[b]? := by
  unfold markN at hn ⊢
  have HL1 := hL.alloc (Obj.cells #[sp.v, cl.v] 30)
  have hm := mkT_any sp ss K lo hi xss _ HL1.spine HL1.tabs hK (by omega) hl
  have r0 := heap_alloc_new w (Obj.cells #[sp.v, cl.v] 30)
  have a0 : w.heap.size < (w.alloc (Obj.cells #[sp.v, cl.v] 30)).heap.size := by simp
  have hb0 := bel_alloc w (Obj.cells #[sp.v, cl.v] 30)
  obtain ⟨pa, pn, pc⟩ := sp
  obtain ⟨ca, cn, cc⟩ := cl
  dsimp only [Sl.v] at *
  have HM : Hid (Calls Try.prog 38 #[.slice pa pn pc, .int .i64 (K : Int)] (w.alloc (Obj.cells #[.slice pa pn pc, .slice ca cn cc] 30)) fun e w' => e = .returned (.int .i64 ((K + 6 * off ss ss.length : Nat) : Int)) ∧ Tabs w' lo hi ss (markL K ss) ∧ Turn (w.alloc (Obj.cells #[.slice pa pn pc, .slice ca cn cc] 30)) w' lo hi 61) := hm
  have HR0 : Hid ((w.alloc (Obj.cells #[.slice pa pn pc, .slice ca cn cc] 30)).heap[w.heap.size]? = some (Obj.cells #[.slice pa pn pc, .slice ca cn cc] 30)) := r0
  clear hm r0 hL
  go_enter Try.func12, Try.ntmps12
  go_wp2_with fail
  refine HM.out.mono ?_
  rintro e w1 ⟨rfl, hT1, ht1⟩
  have r1 := (ht1.block w.heap.size a0 (.inr (.inl hhi))).trans HR0.out
  have c0 := cell_of_row _ _ 0 _ _ _ r1
  have c1 := cell_of_row _ _ 1 _ _ _ r1
  simp only [List.getElem?_toArray, List.getElem?_cons_zero, List.getElem?_cons_succ] at c0 c1
  have hV1 := HL1.cells.turn ht1 (.inr (.inr (by decide)))
  have hS1 := HL1.spine.turn ht1 (.inr (.inr (by decide)))
  have hv := mkV_any ⟨ca, cn, cc⟩ (K + 6 * off ss ss.length) lo hi 32 _ w1 hV1 (by omega) (by exact hn)
  have HV : Hid (Calls Try.prog 39 #[.slice ca cn cc, .int .i64 ((K + 6 * off ss ss.length : Nat) : Int)] w1 fun e w' => e = .returned (.int .i64 ((K + 6 * off ss ss.length + 3 * cn : Nat) : Int)) ∧ Row w' lo hi 32 3 ⟨ca, cn, cc⟩ (mks (K + 6 * off ss ss.length) (3 * cn)) ∧ Turn w1 w' lo hi 32) := hv
  clear hv r1 hV1
  go_wp2_with fail
  refine Calls.mono (by have := HV.out; push_cast at this; exact this) ?_
  rintro e w2 ⟨rfl, hR2, ht2⟩
  go_wp2_with fail
  go_ret
  refine ⟨by first | rfl | (push_cast; rfl), ⟨hS1.turn ht2 (.inr (.inr (by decide))), hT1.keep fun b _ _ ⟨cs, hc⟩ => ht2.block b (Array.getElem?_eq_some_iff.1 hc).1 (.inr (.inr fun cs' e => ?_)), hR2⟩, ((Out.same hb0).trans ht1.out).trans ht2.out, fun b cs hc => ?_⟩
  · rw [hc] at e
    simp at e
  · have hl := (Array.getElem?_eq_some_iff.1 hc).1
    have h0 := (hb0.block b hl).trans hc
    have hne : ∀ (W : World) (T : TypeId), T ≠ 30 → W.heap[b]? = some (.cells cs 30 (0, 0)) → ∀ cs', W.heap[b]? ≠ some (.cells cs' T (0, 0)) := fun W T hT h1 cs' h2 => by
      rw [h1] at h2; simp only [Option.some.injEq, Obj.cells.injEq] at h2; exact hT h2.2.1.symm
    have h1 := (ht1.block b (Nat.lt_of_lt_of_le hl hb0.size) (.inr (.inr (hne _ _ (by decide) h0)))).trans h0
    exact ((ht2.block b (Nat.lt_of_lt_of_le hl (Nat.le_trans hb0.size ht1.size)) (.inr (.inr (hne _ _ (by decide) h1)))).trans h1).trans hc.symm
set_option maxRecDepth 100000 in
set_option maxHeartbeats 4000000 in
theorem hdH_any (sp cl : Sl) (ss : List Sl) (K lo hi : Nat) (w : World) (hL : HLay w lo hi sp cl ss (markL K ss) (markC K ss cl)) (hK : 0 < K) (hn : markN K ss cl ≤ 1099511627776) (hl : ss.length ≤ maxLen) :
    Calls Try.prog 13 #[.agg #[sp.v, cl.v], .int .i64 (K : Int)] w fun e w' => e = .returned (.int .i64 ((markN K ss cl : Nat) : Int)) ∧ Below w.heap.size w w' := by
  unfold markN at hn ⊢
  have hb0 := bel_alloc w (Obj.cells #[sp.v, cl.v] 30)
  have HL1 := hL.alloc (Obj.cells #[sp.v, cl.v] 30)
  have hm := hdT_any sp ss K lo hi _ HL1.spine HL1.tabs hK (by omega) hl
  have r0 := heap_alloc_new w (Obj.cells #[sp.v, cl.v] 30)
  have a0 : w.heap.size < (w.alloc (Obj.cells #[sp.v, cl.v] 30)).heap.size := by simp
  obtain ⟨pa, pn, pc⟩ := sp
  obtain ⟨ca, cn, cc⟩ := cl
  dsimp only [Sl.v] at *
  have HM : Hid (Calls Try.prog 40 #[.slice pa pn pc, .int .i64 (K : Int)] (w.alloc (Obj.cells #[.slice pa pn pc, .slice ca cn cc] 30)) fun e w' => e = .returned (.int .i64 ((K + 6 * off ss ss.length : Nat) : Int)) ∧ Below (w.alloc (Obj.cells #[.slice pa pn pc, .slice ca cn cc] 30)).heap.size (w.alloc (Obj.cells #[.slice pa pn pc, .slice ca cn cc] 30)) w') := hm
  have HR0 : Hid ((w.alloc (Obj.cells #[.slice pa pn pc, .slice ca cn cc] 30)).heap[w.heap.size]? = some (Obj.cells #[.slice pa pn pc, .slice ca cn cc] 30)) := r0
  clear hm r0 hL
  go_enter Try.func13, Try.ntmps13
  go_wp2_with fail
  refine HM.out.mono ?_
  rintro e w1 ⟨rfl, hb1⟩
  have r1 := (hb1.block w.heap.size a0).trans HR0.out
  have c0 := cell_of_row _ _ 0 _ _ _ r1
  have c1 := cell_of_row _ _ 1 _ _ _ r1
  simp only [List.getElem?_toArray, List.getElem?_cons_zero, List.getElem?_cons_succ] at c0 c1
  have hv := hdV_any ⟨ca, cn, cc⟩ (K + 6 * off ss ss.length) lo hi 32 w1 (HL1.cells.below hb1) (by omega) (by exact hn)
  have HV : Hid (Calls Try.prog 41 #[.slice ca cn cc, .int .i64 ((K + 6 * off ss ss.length : Nat) : Int)] w1 fun e w' => e = .returned (.int .i64 ((K + 6 * off ss ss.length + 3 * cn : Nat) : Int)) ∧ Below w1.heap.size w1 w') := hv
  clear hv r1
  go_wp2_with fail
  refine Calls.mono (by have := HV.out; push_cast at this; exact this) ?_
  rintro e w2 ⟨rfl, hb2⟩
  have hb3 : Below w.heap.size w w2 := hb0.trans ((hb1.trans (hb2.mono hb1.size)).mono hb0.size)
  go_wp2_with fail
  go_ret
  exact ⟨by first | rfl | (push_cast; rfl), hb3⟩
end Go.Proofs.Ytbdpfmkpjeleaaa
