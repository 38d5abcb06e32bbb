/- A heap is copied by the program. -/
import Derived.Test.YtbdpfmkpjeleaaaHeapT
import Derived.Test.YtbdpfmkpjeleaaaHeapG
namespace Go.Proofs.Ytbdpfmkpjeleaaa
open Go.RowKit

theorem step_b {A : Nat} {W0 W W' : World} (h : Below A W0 W) (hb : Below W.heap.size W W') (hA : A ≤ W0.heap.size) : Below A W0 W' := h.trans (hb.mono (Nat.le_trans hA h.size))
theorem flatP_take (ps : List Pr) (j : Nat) (h : j < ps.length) : flatP (ps.take (j + 1)) = flatP (ps.take j) ++ ps[j].cs := by
  rw [List.take_succ_eq_append_getElem h]; exact flatP_snoc _ _
theorem flatV_take (vs : List Vl) (j : Nat) (h : j < vs.length) : flatV (vs.take (j + 1)) = flatV (vs.take j) ++ vs[j].cs := by
  rw [List.take_succ_eq_append_getElem h]; exact flatV_snoc _ _
set_option maxRecDepth 100000 in
set_option maxHeartbeats 1600000 in
theorem copy_impl (h : Hp) (a b : Option Addr) (ca cb lo hi : Nat) (w : World) (hh : hi ≤ w.heap.size) (hwt : h.wt ≤ 1048576) (hsm : h.Sm) (hT : TAt w lo hi h.ts a) (hV : VAt w lo hi h.vs b) :
    Calls Try.prog 34 #[.agg #[.slice a h.ts.length ca, .slice b h.vs.length cb]] w fun e w' => (∃ (sp cl : Sl) (ss : List Sl), e = .returned (.agg #[sp.v, cl.v]) ∧ sp.n = h.ts.length ∧ cl.n = h.vs.length ∧ HOwn w' w.heap.size sp cl ss h.xss (flatV h.vs)) ∧ Below w.heap.size w w' := by
  unfold Hp.wt at hwt
  have hln := len_wtT h.ts
  obtain ⟨i0, hi0, hz0, hz1, hz2⟩ := info_parts info_val
  obtain ⟨i1, hi1, hy0, hy1, hy2⟩ := info_parts info_pr
  obtain ⟨i2, hi2, hx0, hx1, hx2⟩ := info_parts info_prs
  obtain ⟨W0, hW0⟩ : ∃ W0, W0 = ((w.alloc (Obj.cells #[.slice a h.ts.length ca, .slice b h.vs.length cb] 30)).alloc (Obj.cells #[.slice none 0 0, .slice none 0 0] 30)).alloc (Obj.cells #[.slice none 0 0, .slice none 0 0] 30) := ⟨_, rfl⟩
  obtain ⟨rA, rB, rC, hs0, B0⟩ := rows3 w (Obj.cells #[.slice a h.ts.length ca, .slice b h.vs.length cb] 30) (Obj.cells #[.slice none 0 0, .slice none 0 0] 30) (Obj.cells #[.slice none 0 0, .slice none 0 0] 30)
  rw [← hW0] at rA rB rC hs0 B0
  have a0 := cell_of_row _ _ 0 _ _ _ rA
  simp only [List.getElem?_toArray, List.getElem?_cons_zero] at a0
  go_enter Try.func34, Try.ntmps34
  go_wp2_with fail
  rw [← hW0]
  have HW0 : Hid (w.heap.size + 3 ≤ W0.heap.size) := by rw [hs0]; exact Nat.le_refl _
  clear hW0 hs0
  go_loopw [14] (fun x wr => ∃ (i : Nat) (pa : Option Addr) (pc : Nat) (ss : List Sl), x = .int .i64 i ∧ i ≤ h.ts.length ∧ VarH wr w.heap.size (w.heap.size + 1 + 1) ⟨pa, i, pc⟩ ⟨none, 0, 0⟩ ss ((h.ts.take i).map flatP) [] ∧ wr.heap[w.heap.size]? = some (Obj.cells #[.slice a h.ts.length ca, .slice b h.vs.length cb] 30) ∧ wr.heap[w.heap.size + 1]? = some (Obj.cells #[.slice none 0 0, .slice none 0 0] 30) ∧ Below w.heap.size w wr) (fun x _ => h.ts.length - (intOf x).toNat)
  case atStart => exact ⟨0, none, 0, [], rfl, Nat.zero_le _, ⟨rC, World.ownsRow_nil _ _ _ _, Tabs.nil _ B0.size, World.ownsRow_nil _ _ _ _⟩, rA, rB, B0⟩
  case round =>
    clear rA rB B0 rC a0
    obtain ⟨i, pa, pc, ss, rfl, hil, hv, hA, hB, hbl⟩ := hrel
    have hsz := hbl.size
    by_cases hlt : i < h.ts.length
    · obtain ⟨hl, g, o, d0, e0, rfl, _, hg, hc, hP⟩ := hT i hlt
      have x0 := (hbl.cell (p := ⟨g, o + i, none⟩) (by show g < _; omega)).trans hc
      have hP' := hP.below hbl hh
      have hwm := wtT_mem h.ts i hlt
      have HTS : Hid ((h.ts.take (i + 1)).map flatP = (h.ts.take i).map flatP ++ [flatP h.ts[i]]) := take_snoc flatP h.ts i hlt
      have hst := hsm.ts i hlt
      obtain ⟨t, ht⟩ : ∃ t, t = h.ts[i] := ⟨_, rfl⟩
      have hst' : ∀ j (hj : j < t.length), t[j].Sm := by subst ht; exact hst
      rw [← ht] at x0 hP' hwm hl HTS
      have HV : Hid (VarH wr w.heap.size (w.heap.size + 1 + 1) ⟨pa, i, pc⟩ ⟨none, 0, 0⟩ ss ((h.ts.take i).map flatP) []) := hv
      clear hc hP ht hst hv
      go_wp2_with fail
      go_loopw [6, 20] (fun y x wx => ∃ (j : Nat) (b3 : Option Addr) (c3 : Nat), y = .slice b3 j c3 ∧ x = .int .i64 j ∧ j ≤ t.length ∧ wx.ownsRow wr.heap.size 61 6 (.slice b3 j c3) j (flatP (t.take j)) ∧ Below wr.heap.size wr wx) (fun _ x _ => t.length - (intOf x).toNat)
      case atStart => exact ⟨0, none, 0, rfl, rfl, Nat.zero_le _, World.ownsRow_nil _ _ _ _, Below.refl _ _⟩
      case round =>
        rename World => wx
        obtain ⟨j, b3, c3, rfl, rfl, hj, own, hbx⟩ := hrel
        have hxs := hbx.size
        by_cases hjt : j < t.length
        · obtain ⟨hok, g', o', rfl, _, hg', hc'⟩ := hP' j hjt
          have x0 := (hbx.cell (p := ⟨g', o' + 6 * j + 0, none⟩) (by show g' < _; omega)).trans (hc' 0 (by decide))
          have x1 := (hbx.cell (p := ⟨g', o' + 6 * j + 1, none⟩) (by show g' < _; omega)).trans (hc' 1 (by decide))
          have x2 := (hbx.cell (p := ⟨g', o' + 6 * j + 2, none⟩) (by show g' < _; omega)).trans (hc' 2 (by decide))
          have x3 := (hbx.cell (p := ⟨g', o' + 6 * j + 3, none⟩) (by show g' < _; omega)).trans (hc' 3 (by decide))
          have x4 := (hbx.cell (p := ⟨g', o' + 6 * j + 4, none⟩) (by show g' < _; omega)).trans (hc' 4 (by decide))
          have x5 := (hbx.cell (p := ⟨g', o' + 6 * j + 5, none⟩) (by show g' < _; omega)).trans (hc' 5 (by decide))
          simp only [Pr.cs, List.getElem?_cons_zero, List.getElem?_cons_succ, Nat.add_zero] at x0 x1 x2 x3 x4 x5
          have mc : j * 6 = 6 * j := Nat.mul_comm _ _
          have HSM := hst' j hjt
          have HTJ : Hid (flatP (t.take (j + 1)) = flatP (t.take j) ++ t[j].cs) := flatP_take t j hjt
          have HOWN : Hid (wx.ownsRow wr.heap.size 61 6 (.slice b3 j c3) j (flatP (t.take j))) := own
          have HST : Hid (∀ j (hj : j < t.length), t[j].Sm) := hst'
          have HPT : Hid (PAt wr lo hi t (some ⟨g', o', none⟩)) := hP'
          clear hc' own hst' hP'
          obtain ⟨p, hp⟩ : ∃ p, p = t[j] := ⟨_, rfl⟩
          rw [← hp] at x0 x1 x2 x3 x4 x5 hok HSM HTJ
          clear hp
          obtain ⟨⟨k1, n1, s1⟩, ⟨k2, n2, s2⟩⟩ := p
          dsimp only [Pr.cs] at x0 x1 x2 x3 x4 x5 HTJ
          have HK : Hid (s1.size ≤ 1048576) := HSM.key
          have HW : Hid (s2.size ≤ 1048576) := HSM.val
          clear HSM hok
          obtain ⟨W8, hW8⟩ : ∃ W8, W8 = wx.alloc (Obj.cells #[.int .i64 k1, .int .i64 n1, .string s1, .int .i64 k2, .int .i64 n2, .string s2] 61) := ⟨_, rfl⟩
          have hb8 : Below wx.heap.size wx W8 := by rw [hW8]; exact bel_alloc _ _
          have r8 : W8.heap[wx.heap.size]? = some (.cells #[.int .i64 k1, .int .i64 n1, .string s1, .int .i64 k2, .int .i64 n2, .string s2] 61 (0, 0)) := by rw [hW8]; exact heap_alloc_new _ _
          have KEEP : Hid (∀ W' : World, Below W8.heap.size W8 W' → W'.cell? ⟨wx.heap.size, 0, none⟩ = some (.int .i64 k1) ∧ W'.cell? ⟨wx.heap.size, 1, none⟩ = some (.int .i64 n1) ∧ W'.cell? ⟨wx.heap.size, 2, none⟩ = some (.string s1) ∧ W'.cell? ⟨wx.heap.size, 3, none⟩ = some (.int .i64 k2) ∧ W'.cell? ⟨wx.heap.size, 4, none⟩ = some (.int .i64 n2) ∧ W'.cell? ⟨wx.heap.size, 5, none⟩ = some (.string s2)) := fun W' hB' => by
            have r := (hB'.block wx.heap.size (Array.getElem?_eq_some_iff.1 r8).1).trans r8
            exact ⟨cell_of_row _ _ 0 _ _ _ r, cell_of_row _ _ 1 _ _ _ r, cell_of_row _ _ 2 _ _ _ r, cell_of_row _ _ 3 _ _ _ r, cell_of_row _ _ 4 _ _ _ r, cell_of_row _ _ 5 _ _ _ r⟩
          have OWN8 : Hid (∀ W', Below W8.heap.size W8 W' → W'.ownsRow wr.heap.size 61 6 (.slice b3 j c3) j (flatP (t.take j))) := fun W' hB' => own_below HOWN.out (hb8.trans (hB'.mono hb8.size))
          have FIN : Hid (∀ (W' w4 : World) (O : Obj), Below W8.heap.size W8 W' → (W'.alloc O).grownBy w4 (Value.slice b3 j c3).ownBlock → Below wr.heap.size wr w4) := fun W' w4 O hB' hg' => by
            have q : Below wr.heap.size wr (W'.alloc O) := hbx.trans (((hb8.trans (hB'.mono hb8.size)).trans ((bel_alloc W' O).mono (Nat.le_trans hb8.size hB'.size))).mono hxs)
            exact q.grown hg' (Nat.le_trans hxs (Nat.le_trans hb8.size (Nat.le_trans hB'.size (by simp)))) (fun k hk => (HOWN.out.lt k hk).1)
          have hW8z : wr.heap.size ≤ W8.heap.size := Nat.le_trans hxs hb8.size
          have HZ : Hid (∀ W', Below W8.heap.size W8 W' → wr.heap.size ≤ W'.heap.size) := fun W' hB' => Nat.le_trans hW8z hB'.size
          have hq0 : Below W8.heap.size W8 W8.drew := (Below.refl _ _).drew
          obtain ⟨y0, y1, y2, y3, y4, y5⟩ := KEEP.out _ (Below.refl _ _)
          clear r8 hb8 hW8z
          go_wp2_with fail
          rw [← hW8]
          clear hW8
          clear x0 x1 x2 x3 x4 x5
          go_region_law (first
            | (refine step_append_any _ rfl _ _ 59 rfl wr.heap.size 61 i1 _ 6 64 Try.underlying59 hi1 hy0 hy1 hy2 rfl (by decide) _ _ _ rfl (World.ownsRow.alloc (OWN8.out _ hq') _) (some ⟨_, 0, none⟩) 1 1 [.int .i64 k1, .int .i64 n1, .string s1, .int .i64 k2, .int .i64 n2, .string s2] rfl rfl (fun j u hu => ⟨_, rfl, World.news_of_block (heap_alloc_new _ _) j u hu⟩) (by simp [Value.oneCell']) (by unfold maxLen; omega) (by omega) (by rw [size_alloc]; exact Nat.le_succ_of_le (HZ.out _ hq')) _ rfl ?_; intro b4 c4 w4 own4 gr4 at4)
            | (go_simp; go_at_call 43; refine (copied_any k1 n1 s1 _ HK.out).mono ?_; rintro e w' ⟨rfl, hb'⟩; have hq' := step_b (by assumption) hb' (Nat.le_refl _); obtain ⟨z0, z1, z2, z3, z4, z5⟩ := KEEP.out _ hq')
            | (go_simp; go_at_call 43; refine (copied_any k2 n2 s2 _ HW.out).mono ?_; rintro e w' ⟨rfl, hb'⟩; have hq' := step_b (by assumption) hb' (Nat.le_refl _); obtain ⟨z0, z1, z2, z3, z4, z5⟩ := KEEP.out _ hq'))
          all_goals
            go_wp2_with fail
            go_roundw
            case rel => exact ⟨j + 1, b4, c4, rfl, by go_num, by omega, by rw [HTJ.out]; exact own4, FIN.out _ _ _ hq' gr4⟩
            case measure => simp [intOf]; omega
        · obtain rfl : j = t.length := by omega
          rw [List.take_length] at own
          have hv' := HV.out.below hbx
          have c0 := cell_of_row _ _ 0 _ _ _ hv'.var
          simp only [List.getElem?_toArray, List.getElem?_cons_zero, Sl.v] at c0
          have SPO : wx.ownsRow w.heap.size 59 1 (.slice pa i pc) i (ss.map Sl.v) := hv'.own.spine
          have qC : ∀ O : Obj, (wx.alloc O).cell? ⟨w.heap.size + 1 + 1, 0, none⟩ = wx.cell? ⟨w.heap.size + 1 + 1, 0, none⟩ := fun O => (bel_alloc wx O).cell hv'.lt
          have K5 : Hid (∀ (w5 : World) (O : Obj), (wx.alloc O).grownBy w5 (Value.slice pa i pc).ownBlock → w5.cell? ⟨w.heap.size + 1 + 1, 0, none⟩ = some (.slice pa i pc) ∧ w5.frozen? ⟨w.heap.size + 1 + 1, 0, none⟩ = false) := fun w5 O h2 => by
            have x := VarH.table_store HV.out hbx O h2
            exact ⟨cell_of_row _ _ 0 _ _ _ x, frozen_of_row _ _ 0 _ _ x⟩
          have HOWN : Hid (wx.ownsRow wr.heap.size 61 6 (.slice b3 t.length c3) t.length (flatP t)) := own
          clear own hv' hst' hP'
          go_wp2_with (at_builtin; go_must (refine wpList_append_any _ rfl _ _ 27 rfl w.heap.size 59 i2 _ 1 24 Try.underlying27 hi2 hx0 hx1 hx2 rfl (by decide) _ _ _ rfl (World.ownsRow.alloc SPO _) (some ⟨_, 0, none⟩) 1 1 [.slice b3 t.length c3] rfl rfl (fun j u hu => ⟨_, rfl, World.news_of_block (heap_alloc_new _ _) j u hu⟩) (by simp [Value.oneCell']) (by unfold maxLen; omega) (by omega) (by rw [size_alloc]; omega) _ rfl ?_; intro b5 c5 w5 own5 gr5 at5; obtain ⟨c05, f05⟩ := K5.out w5 _ gr5))
          go_roundw
          case rel =>
            obtain ⟨hv5, hfar, hb5⟩ := HV.out.table hbx (row_of_own (s := ⟨b3, t.length, c3⟩) HOWN.out) _ gr5 b5 c5 own5 hsz (by omega)
            exact ⟨i + 1, b5, c5, ss ++ [⟨b3, t.length, c3⟩], by go_num, by omega, by rw [HTS.out]; exact hv5, (hfar _ _ hA (by omega)).trans hA, (hfar _ _ hB (by omega)).trans hB, hbl.trans (hb5.mono (Nat.le_refl _))⟩
          case measure => simp [intOf]; omega
    · obtain rfl : i = h.ts.length := by omega
      rw [List.take_length] at hv
      have HV : Hid (VarH wr w.heap.size (w.heap.size + 1 + 1) ⟨pa, h.ts.length, pc⟩ ⟨none, 0, 0⟩ ss (h.ts.map flatP) []) := hv
      have a1 := cell_of_row _ _ 1 _ _ _ hA
      simp only [List.getElem?_toArray, List.getElem?_cons_zero, List.getElem?_cons_succ] at a1
      have HSV : Hid (∀ m (hm : m < h.vs.length), h.vs[m].Sm) := hsm.vs
      have HBL : Hid (Below w.heap.size w wr) := hbl
      clear hv hT hsm
      go_wp2_with fail
      go_loopw [45] (fun x wx => ∃ (j : Nat) (b3 : Option Addr) (c3 : Nat), x = .int .i64 j ∧ j ≤ h.vs.length ∧ VarH wx w.heap.size (w.heap.size + 1 + 1) ⟨pa, h.ts.length, pc⟩ ⟨b3, j, c3⟩ ss (h.ts.map flatP) (flatV (h.vs.take j)) ∧ wx.heap[w.heap.size + 1]? = some (Obj.cells #[.slice none 0 0, .slice none 0 0] 30) ∧ Below w.heap.size w wx) (fun x _ => h.vs.length - (intOf x).toNat)
      case atStart => exact ⟨0, none, 0, rfl, Nat.zero_le _, HV.out, hB, hbl⟩
      case round =>
        rename World => wx
        clear hA hB a1 HV hbl
        obtain ⟨j, b3, c3, rfl, hj, hv, hB, hbl⟩ := hrel
        have hxs := hbl.size
        by_cases hjt : j < h.vs.length
        · obtain ⟨hok, g', o', rfl, _, hg', hc'⟩ := hV j hjt
          have x0 := (hbl.cell (p := ⟨g', o' + 3 * j + 0, none⟩) (by show g' < _; omega)).trans (hc' 0 (by decide))
          have x1 := (hbl.cell (p := ⟨g', o' + 3 * j + 1, none⟩) (by show g' < _; omega)).trans (hc' 1 (by decide))
          have x2 := (hbl.cell (p := ⟨g', o' + 3 * j + 2, none⟩) (by show g' < _; omega)).trans (hc' 2 (by decide))
          simp only [Vl.cs, List.getElem?_cons_zero, List.getElem?_cons_succ, Nat.add_zero] at x0 x1 x2
          have mc : j * 3 = 3 * j := Nat.mul_comm _ _
          have HSM := HSV.out j hjt
          have HTJ : Hid (flatV (h.vs.take (j + 1)) = flatV (h.vs.take j) ++ h.vs[j].cs) := flatV_take h.vs j hjt
          obtain ⟨p, hp⟩ : ∃ p, p = h.vs[j] := ⟨_, rfl⟩
          rw [← hp] at x0 x1 x2 hok HSM HTJ
          clear hp hc'
          obtain ⟨k1, n1, s1⟩ := p
          dsimp only [Vl.cs] at x0 x1 x2 HTJ
          have HK : Hid (s1.size ≤ 1048576) := HSM
          have HV : Hid (VarH wx w.heap.size (w.heap.size + 1 + 1) ⟨pa, h.ts.length, pc⟩ ⟨b3, j, c3⟩ ss (h.ts.map flatP) (flatV (h.vs.take j))) := hv
          have HVV : Hid (VAt w lo hi h.vs (some ⟨g', o', none⟩)) := hV
          clear HSM hok hV
          obtain ⟨W8, hW8⟩ : ∃ W8, W8 = wx.alloc (Obj.cells #[.int .i64 k1, .int .i64 n1, .string s1] 32) := ⟨_, rfl⟩
          have hb8 : Below wx.heap.size wx W8 := by rw [hW8]; exact bel_alloc _ _
          have r8 : W8.heap[wx.heap.size]? = some (.cells #[.int .i64 k1, .int .i64 n1, .string s1] 32 (0, 0)) := by rw [hW8]; exact heap_alloc_new _ _
          have hW8z : wx.heap.size ≤ W8.heap.size := hb8.size
          have BX : Hid (∀ W' : World, Below W8.heap.size W8 W' → Below wx.heap.size wx W') := fun W' hB' => hb8.trans (hB'.mono hb8.size)
          have KEEP : Hid (∀ W' : World, Below W8.heap.size W8 W' → W'.cell? ⟨wx.heap.size, 0, none⟩ = some (.int .i64 k1) ∧ W'.cell? ⟨wx.heap.size, 1, none⟩ = some (.int .i64 n1) ∧ W'.cell? ⟨wx.heap.size, 2, none⟩ = some (.string s1) ∧ W'.cell? ⟨w.heap.size + 1 + 1, 1, none⟩ = some (.slice b3 j c3)) := fun W' hB' => by
            have r := (hB'.block wx.heap.size (Array.getElem?_eq_some_iff.1 r8).1).trans r8
            have r' := (HV.out.below (BX.out _ hB')).var
            exact ⟨cell_of_row _ _ 0 _ _ _ r, cell_of_row _ _ 1 _ _ _ r, cell_of_row _ _ 2 _ _ _ r, cell_of_row _ _ 1 _ _ _ r'⟩
          have OWN8 : Hid (∀ W', Below W8.heap.size W8 W' → W'.ownsRow w.heap.size 32 3 (.slice b3 j c3) j (flatV (h.vs.take j))) := fun W' hB' => (HV.out.below (BX.out _ hB')).own.cells
          have K5 : Hid (∀ (W' w5 : World) (O : Obj), Below W8.heap.size W8 W' → (W'.alloc O).grownBy w5 (Value.slice b3 j c3).ownBlock → w5.cell? ⟨w.heap.size + 1 + 1, 1, none⟩ = some (.slice b3 j c3) ∧ w5.frozen? ⟨w.heap.size + 1 + 1, 1, none⟩ = false) := fun W' w5 O h1 h2 => by
            have x := VarH.cell_store HV.out (BX.out _ h1) O h2
            exact ⟨cell_of_row _ _ 1 _ _ _ x, frozen_of_row _ _ 1 _ _ x⟩
          have HZ : Hid (∀ W', Below W8.heap.size W8 W' → w.heap.size ≤ W'.heap.size) := fun W' hB' => Nat.le_trans (Nat.le_trans hxs hW8z) hB'.size
          have qN : ∀ W', Below W8.heap.size W8 W' → ∀ O : Obj, (W'.alloc O).cell? ⟨w.heap.size + 1 + 1, 1, none⟩ = W'.cell? ⟨w.heap.size + 1 + 1, 1, none⟩ := fun W' hB' O => (bel_alloc W' O).cell (HV.out.below (BX.out _ hB')).lt
          have QN : Hid (∀ W', Below W8.heap.size W8 W' → ∀ O : Obj, (W'.alloc O).cell? ⟨w.heap.size + 1 + 1, 1, none⟩ = W'.cell? ⟨w.heap.size + 1 + 1, 1, none⟩) := qN
          have hq0 : Below W8.heap.size W8 W8.drew := (Below.refl _ _).drew
          obtain ⟨y0, y1, y2, y3⟩ := KEEP.out _ (Below.refl _ _)
          clear r8 hb8 hW8z hv qN
          go_wp2_with fail
          rw [← hW8]
          clear hW8
          clear x0 x1 x2
          go_region_law (first
            | (refine step_append_any _ rfl _ _ 28 rfl w.heap.size 32 i0 _ 3 32 Try.underlying28 hi0 hz0 hz1 hz2 rfl (by decide) _ _ _ rfl (World.ownsRow.alloc (OWN8.out _ hq') _) (some ⟨_, 0, none⟩) 1 1 [.int .i64 k1, .int .i64 n1, .string s1] rfl rfl (fun j u hu => ⟨_, rfl, World.news_of_block (heap_alloc_new _ _) j u hu⟩) (by simp [Value.oneCell']) (by unfold maxLen; omega) (by omega) (by rw [size_alloc]; exact Nat.le_succ_of_le (HZ.out _ hq')) _ rfl ?_; intro b4 c4 w4 own4 gr4 at4; obtain ⟨c05, f05⟩ := K5.out _ w4 _ hq' gr4)
            | (go_simp; go_at_call 43; refine (copied_any k1 n1 s1 _ HK.out).mono ?_; rintro e w' ⟨rfl, hb'⟩; have hq' := step_b (by assumption) hb' (Nat.le_refl _); obtain ⟨z0, z1, z2, z3⟩ := KEEP.out _ hq'; have qn' := QN.out _ hq'))
          all_goals
            go_wp2_with fail
            go_roundw
            case rel =>
              obtain ⟨hv5, hfar, hb5⟩ := HV.out.cell (BX.out _ hq') _ gr4 b4 c4 own4 hxs (by omega)
              exact ⟨j + 1, b4, c4, by go_num, by omega, by rw [HTJ.out]; exact hv5, (hfar _ _ hB (by omega)).trans hB, hbl.trans (hb5.mono (Nat.le_refl _))⟩
            case measure => simp [intOf]; omega
        · obtain rfl : j = h.vs.length := by omega
          rw [List.take_length] at hv
          have g0 := frozen_of_row _ _ 0 _ _ hB
          have g1 := frozen_of_row _ _ 1 _ _ hB
          have k0 := cell_of_row _ _ 0 _ _ _ hB
          have k1 := cell_of_row _ _ 1 _ _ _ hB
          have c0 := cell_of_row _ _ 0 _ _ _ hv.var
          have c1 := cell_of_row _ _ 1 _ _ _ hv.var
          simp only [List.getElem?_toArray, List.getElem?_cons_zero, List.getElem?_cons_succ, Sl.v] at k0 k1 c0 c1
          have hbl' := hbl
          have hnB := (Array.getElem?_eq_some_iff.1 hB).1
          have HV : Hid (VarH wx w.heap.size (w.heap.size + 1 + 1) ⟨pa, h.ts.length, pc⟩ ⟨b3, h.vs.length, c3⟩ ss (h.ts.map flatP) (flatV h.vs)) := hv
          have HB : Hid (wx.heap[w.heap.size + 1]? = some (Obj.cells #[.slice none 0 0, .slice none 0 0] 30)) := hB
          clear hv hB hV
          go_wp2_with fail
          have far : ∀ W : World, (∀ b, b ≠ w.heap.size + 1 → W.heap[b]? = wx.heap[b]?) → wx.heap.size ≤ W.heap.size → HOwn W w.heap.size ⟨pa, h.ts.length, pc⟩ ⟨b3, h.vs.length, c3⟩ ss h.xss (flatV h.vs) := fun W hW hz => by
            have ne : ∀ b cs T, wx.heap[b]? = some (.cells cs T (0, 0)) → T ≠ 30 → b ≠ w.heap.size + 1 := fun b cs T h1 h2 e => by
              subst e; rw [HB.out] at h1; simp only [Option.some.injEq, Obj.cells.injEq] at h1; exact h2 h1.2.1.symm
            exact ⟨own_keep HV.out.own.spine fun g cs _ hc => hW g (ne g cs _ hc (by decide)), (HV.out.own.tabs.keep fun b _ _ ⟨cs, hc⟩ => hW b (ne b cs _ hc (by decide))).wide (Nat.le_refl _) hz, own_keep HV.out.own.cells fun g cs _ hc => hW g (ne g cs _ hc (by decide))⟩
          refine bodyPost_ret (v := .agg #[.slice pa h.ts.length pc, .slice b3 h.vs.length c3]) (by simp [results, Try.results34, go_sem, *]) rfl ⟨⟨⟨pa, h.ts.length, pc⟩, ⟨b3, h.vs.length, c3⟩, ss, rfl, rfl, rfl, ?_⟩, ?_⟩
          · refine far _ (fun b hb => ?_) (by simp)
            rw [heap_setCell_other _ _ _ _ (by show b ≠ w.heap.size + 1; exact hb), heap_setCell_other _ _ _ _ (by show b ≠ w.heap.size + 1; exact hb)]
          · repeat (first | (with_reducible exact hbl') | (with_reducible refine Below.setCell ?_ (by simp <;> omega) _))
end Go.Proofs.Ytbdpfmkpjeleaaa
