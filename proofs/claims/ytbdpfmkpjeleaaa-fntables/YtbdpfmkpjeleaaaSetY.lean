/- SetAt of the specification. -/
import Derived.Test.YtbdpfmkpjeleaaaSetX
namespace Go.Proofs.Ytbdpfmkpjeleaaa
open Go.RowKit

set_option maxRecDepth 100000 in
set_option maxHeartbeats 1600000 in
theorem setAt_spec (h : Hp) (a b : Option Addr) (ca cb lo hi : Nat) (tk tn : Int) (tx : ByteArray) (kk kn : Int) (ks : ByteArray) (vk vn : Int) (vs : ByteArray) (w : World) (hh : hi ≤ w.heap.size) (hwt : h.wt ≤ 1048576) (hT : TAt w lo hi h.ts a) (hV : VAt w lo hi h.vs b) :
    Calls Try.prog 21 #[.agg #[.slice a h.ts.length ca, .slice b h.vs.length cb], .agg #[.int .i64 tk, .int .i64 tn, .string tx], .agg #[.int .i64 kk, .int .i64 kn, .string ks], .agg #[.int .i64 vk, .int .i64 vn, .string vs]] w fun e w' => (∃ (sp cl : Sl) (ss : List Sl), e = .returned (.tuple #[.agg #[sp.v, cl.v], .string (setU (setOk h tk tn ⟨kk, kn, ks⟩ ⟨vk, vn, vs⟩))]) ∧ OwnH w' w.heap.size (h.setAt tk tn ⟨kk, kn, ks⟩ ⟨vk, vn, vs⟩) sp cl ss) ∧ Below w.heap.size w w' := by
  have hln := len_wtT h.ts
  have hok := ok_of_tv hT hV
  have hwt' := hwt
  unfold Hp.wt at hwt'
  obtain ⟨rA, rB, rC, hs0, B0⟩ := rows3 w (Obj.cells #[.slice a h.ts.length ca, .slice b h.vs.length cb] 30) (Obj.cells #[.int .i64 tk, .int .i64 tn, .string tx] 32) (Obj.cells #[.int .i64 kk, .int .i64 kn, .string ks] 32)
  obtain ⟨V0, hV0⟩ : ∃ V0, V0 = ((w.alloc (Obj.cells #[.slice a h.ts.length ca, .slice b h.vs.length cb] 30)).alloc (Obj.cells #[.int .i64 tk, .int .i64 tn, .string tx] 32)).alloc (Obj.cells #[.int .i64 kk, .int .i64 kn, .string ks] 32) := ⟨_, rfl⟩
  rw [← hV0] at rA rB rC hs0 B0
  obtain ⟨rD, rE, hs1, B1⟩ := rows2 V0 (Obj.cells #[.int .i64 vk, .int .i64 vn, .string vs] 32) (Obj.cells #[.slice none 0 0, .slice none 0 0] 30)
  have b1 : ∀ k, k < V0.heap.size → ((V0.alloc (Obj.cells #[.int .i64 vk, .int .i64 vn, .string vs] 32)).alloc (Obj.cells #[.slice none 0 0, .slice none 0 0] 30)).heap[k]? = V0.heap[k]? := fun k hk => B1.block k hk
  have rA := (b1 _ (by omega)).trans rA
  have rB := (b1 _ (by omega)).trans rB
  have rC := (b1 _ (by omega)).trans rC
  rw [hs0] at rD rE hs1
  have B0 := B0.trans (B1.mono (by omega))
  go_enter Try.func21, Try.ntmps21
  go_wp2_with fail
  rw [← hV0]
  obtain ⟨W0, hW0⟩ : ∃ W0, W0 = (V0.alloc (Obj.cells #[.int .i64 vk, .int .i64 vn, .string vs] 32)).alloc (Obj.cells #[.slice none 0 0, .slice none 0 0] 30) := ⟨_, rfl⟩
  rw [← hW0] at rA rB rC rD rE hs1 B0 ⊢
  clear hW0 hV0 b1 B1
  have z0 : W0.heap.size = w.heap.size + 5 := by omega
  clear hs0 hs1
  refine (copy_spec h a b ca cb lo hi W0 (by omega) hwt (hT.below B0 hh) (hV.below B0 hh)).mono ?_
  rintro e w1 ⟨⟨⟨pa, pn, pc⟩, ⟨ua, un, uc⟩, ss, rfl, hpn, hun, hO⟩, hb1⟩
  dsimp only at hpn hun
  subst hpn
  subst hun
  have hs1 := hb1.size
  dsimp only [Sl.v]
  have HV3 : Hid (VarH (w1.alloc (Obj.cells #[.slice pa h.ts.length pc, .slice ua h.vs.length uc] 30)) W0.heap.size w1.heap.size ⟨pa, h.ts.length, pc⟩ ⟨ua, h.vs.length, uc⟩ ss h.xss (flatV h.vs)) := ⟨heap_alloc_new _ _, hO.below (bel_alloc _ _)⟩
  have ha3 := bel_alloc w1 (Obj.cells #[.slice pa h.ts.length pc, .slice ua h.vs.length uc] 30)
  have B3 : Below W0.heap.size W0 (w1.alloc (Obj.cells #[.slice pa h.ts.length pc, .slice ua h.vs.length uc] 30)) := hb1.trans (ha3.mono hs1)
  have rA1 := (hb1.block _ (by omega)).trans rA
  have rA3 := (ha3.block _ (by omega)).trans rA1
  have rB1 := (hb1.block _ (by omega)).trans rB
  have rB3 := (ha3.block _ (by omega)).trans rB1
  have rC1 := (hb1.block _ (by omega)).trans rC
  have rC3 := (ha3.block _ (by omega)).trans rC1
  have rD1 := (hb1.block _ (by omega)).trans rD
  have rD3 := (ha3.block _ (by omega)).trans rD1
  have rE1 := (hb1.block _ (by omega)).trans rE
  have rE3 := (ha3.block _ (by omega)).trans rE1
  have a0 := cell_of_row _ _ 0 _ _ _ rA1
  have a1 := cell_of_row _ _ 1 _ _ _ rA1
  have qA : ∀ (O : Obj) (j : Nat), (w1.alloc O).cell? ⟨w.heap.size, j, none⟩ = w1.cell? ⟨w.heap.size, j, none⟩ := fun O j => (bel_alloc w1 O).cell (by show w.heap.size < _; omega)
  have b0 := cell_of_row _ _ 0 _ _ _ rB1
  have b1 := cell_of_row _ _ 1 _ _ _ rB1
  have b2 := cell_of_row _ _ 2 _ _ _ rB1
  have qB : ∀ (O : Obj) (j : Nat), (w1.alloc O).cell? ⟨w.heap.size + 1, j, none⟩ = w1.cell? ⟨w.heap.size + 1, j, none⟩ := fun O j => (bel_alloc w1 O).cell (by show w.heap.size + 1 < _; omega)
  simp only [List.getElem?_toArray, List.getElem?_cons_zero, List.getElem?_cons_succ] at a0 a1 b0 b1 b2
  clear hO hT hV rA1 rB1 rC1 rD1 rE1 rA rB rC rD rE
  go_wp2_with fail
  refine (table_spec a b h.ts.length ca h.vs.length cb tk tn tx _ (by unfold maxLen; omega)).mono ?_
  rintro e w4 ⟨rfl, hb4⟩
  have hv4 := HV3.out.below hb4
  have z3 : (w1.alloc (Obj.cells #[.slice pa h.ts.length pc, .slice ua h.vs.length uc] 30)).heap.size = w1.heap.size + 1 := size_alloc _ _
  have hs4 := hb4.size
  have B4 : Below W0.heap.size W0 w4 := B3.trans (hb4.mono B3.size)
  have Bw : Below w.heap.size w w4 := B0.trans (B4.mono B0.size)
  have rB4 := (hb4.block _ (by omega)).trans rB3
  have rC4 := (hb4.block _ (by omega)).trans rC3
  have rD4 := (hb4.block _ (by omega)).trans rD3
  have rE4 := (hb4.block _ (by omega)).trans rE3
  clear a0 a1 b0 b1 b2 qA qB ha3 rA3 rB3 rC3 rD3 rE3 hb4 HV3 B3 hb1
  have b0 := cell_of_row _ _ 0 _ _ _ rB4
  have b1 := cell_of_row _ _ 1 _ _ _ rB4
  have b2 := cell_of_row _ _ 2 _ _ _ rB4
  have c0 := cell_of_row _ _ 0 _ _ _ rC4
  have c1 := cell_of_row _ _ 1 _ _ _ rC4
  have c2 := cell_of_row _ _ 2 _ _ _ rC4
  have d0 := cell_of_row _ _ 0 _ _ _ rD4
  have d1 := cell_of_row _ _ 1 _ _ _ rD4
  have d2 := cell_of_row _ _ 2 _ _ _ rD4
  have e0 := cell_of_row _ _ 0 _ _ _ rE4
  have e1 := cell_of_row _ _ 1 _ _ _ rE4
  have v0 := cell_of_row _ _ 0 _ _ _ hv4.var
  have v1 := cell_of_row _ _ 1 _ _ _ hv4.var
  simp only [List.getElem?_toArray, List.getElem?_cons_zero, List.getElem?_cons_succ, Sl.v] at b0 b1 b2 c0 c1 c2 d0 d1 d2 e0 e1 v0 v1
  have g0 := frozen_of_row _ _ 0 _ _ rE4
  have g1 := frozen_of_row _ _ 1 _ _ rE4
  have nE := (Array.getElem?_eq_some_iff.1 rE4).1
  have HV4 : Hid (VarH w4 W0.heap.size w1.heap.size ⟨pa, h.ts.length, pc⟩ ⟨ua, h.vs.length, uc⟩ ss h.xss (flatV h.vs)) := hv4
  have nW := hv4.lt
  have HE4 : Hid (w4.heap[w.heap.size + 3 + 1]? = some (Obj.cells #[.slice none 0 0, .slice none 0 0] 30)) := rE4
  have HZ : Hid (w.heap.size + 3 + 1 < W0.heap.size) := by show _ < _; omega
  have HZ0 : Hid (w.heap.size ≤ W0.heap.size) := B0.size
  clear hv4 rB4 rC4 rD4 rE4
  -- what stays as it was
  have FIN : ∀ V W : World, Below w4.heap.size w4 V → (∀ b, b ≠ w.heap.size + 3 + 1 → W.heap[b]? = V.heap[b]?) → V.heap.size ≤ W.heap.size → setOk h tk tn ⟨kk, kn, ks⟩ ⟨vk, vn, vs⟩ = false → OwnH W w.heap.size (h.setAt tk tn ⟨kk, kn, ks⟩ ⟨vk, vn, vs⟩) ⟨pa, h.ts.length, pc⟩ ⟨ua, h.vs.length, uc⟩ ss := fun V W hVB hW hz hno => by
    have e : h.setAt tk tn ⟨kk, kn, ks⟩ ⟨vk, vn, vs⟩ = h := by rw [Hp.setAt, if_neg (by rw [hno]; decide)]
    rw [e]
    exact ⟨rfl, rfl, ((HV4.out.below hVB).own.under (fun b hb => hW b (by have := HZ.out; omega)) hz).base HZ0.out⟩
  have HFIN : Hid (∀ V W : World, Below w4.heap.size w4 V → (∀ b, b ≠ w.heap.size + 3 + 1 → W.heap[b]? = V.heap[b]?) → V.heap.size ≤ W.heap.size → setOk h tk tn ⟨kk, kn, ks⟩ ⟨vk, vn, vs⟩ = false → OwnH W w.heap.size (h.setAt tk tn ⟨kk, kn, ks⟩ ⟨vk, vn, vs⟩) ⟨pa, h.ts.length, pc⟩ ⟨ua, h.vs.length, uc⟩ ss) := FIN
  clear FIN
  by_cases htab : tabB h.ts.length tk tn = true
  · by_cases hk0 : kk = 0
    · have HNO : Hid (setOk h tk tn ⟨kk, kn, ks⟩ ⟨vk, vn, vs⟩ = false) := by show _ = _; simp [setOk, hk0]
      go_wp2_with fail
      refine bodyPost_ret (v := .tuple #[.agg #[.slice pa h.ts.length pc, .slice ua h.vs.length uc], .string ⟨#[105, 110, 100, 101, 120]⟩]) (by simp [results, Try.results21, go_sem, *]) rfl ⟨⟨⟨pa, h.ts.length, pc⟩, ⟨ua, h.vs.length, uc⟩, ss, by rw [HNO.out]; rfl, HFIN.out w4 _ (Below.refl _ _) (fun bb hb => ?_) (by simp) HNO.out⟩, ?_⟩
      · repeat (first | (with_reducible refine (drew_at _ _).trans ?_) | (with_reducible refine (heap_setCell_other _ _ _ _ (by dsimp only; omega)).trans ?_))
        with_reducible rfl
      · repeat (first | (with_reducible exact Bw) | (with_reducible refine Below.drew ?_) | (with_reducible refine Below.setCell ?_ (by simp <;> omega) _))
    · skip
      have hl0 : 0 ≤ tn ∧ tn < (h.ts.length : Int) := by
        simp only [tabB, Bool.and_eq_true, decide_eq_true_eq] at htab
        exact htab.2
      obtain ⟨i, rfl⟩ : ∃ i : Nat, tn = i := ⟨tn.toNat, by omega⟩
      have hlt : i < h.ts.length := by omega
      have hssl : ss.length = h.ts.length := by have := HV4.out.own.tabs.1; rw [Hp.xss, List.length_map] at this; exact this
      obtain ⟨hcl1, g, hpa, hcell, hfz, hg⟩ := spine_addr HV4.out.own i (by omega)
      dsimp only at hpa
      subst hpa
      have hrow := HV4.out.own.tabs.get i (by omega) (by rw [Hp.xss, List.length_map]; exact hlt)
      have ex : h.xss[i]'(by rw [Hp.xss, List.length_map]; exact hlt) = flatP h.ts[i] := by simp [Hp.xss]
      rw [ex] at hrow
      have hPi := pat_of_row hrow (hok.1 i hlt).2
      have hli : (ss[i]'(by omega)).n = h.ts[i].length := by have := hrow.1; rw [flatP_len] at this; omega
      have hwm := wtT_mem h.ts i hlt
      have HSL : Hid (setL h i ⟨kk, kn, ks⟩ ⟨vk, vn, vs⟩ = withF ⟨kk, kn, ks⟩ ⟨vk, vn, vs⟩ (decide (vk = 0)) h.ts[i]) := by show _ = _; simp [setL, List.getElem?_eq_getElem hlt]
      have HSI : Hid (i < ss.length) := by show _ < _; omega
      obtain ⟨⟨sa, sn, sc⟩, hsi⟩ : ∃ x : Sl, x = ss[i]'(by omega) := ⟨_, rfl⟩
      rw [← hsi] at hcell hPi hli
      dsimp only [Sl.v] at hcell hPi hli
      subst hli
      have hPi4 : PAt w4 W0.heap.size w4.heap.size h.ts[i] sa := hPi
      have HC : Hid (∀ W, Below w4.heap.size w4 W → Calls Try.prog 50 #[.slice sa h.ts[i].length sc, .agg #[.int .i64 kk, .int .i64 kn, .string ks], .agg #[.int .i64 vk, .int .i64 vn, .string vs]] W fun e w' => (∃ na nn nc, e = .returned (.slice na nn nc) ∧ Hid (nn = (setL h i ⟨kk, kn, ks⟩ ⟨vk, vn, vs⟩).length) ∧ Row w' w4.heap.size w'.heap.size 61 6 ⟨na, nn, nc⟩ (flatP (setL h i ⟨kk, kn, ks⟩ ⟨vk, vn, vs⟩))) ∧ Below W.heap.size W w') := fun W hW => by
        have q := with_spec h.ts[i] sa sc W0.heap.size w4.heap.size kk kn ks vk vn vs W hW.size (by omega) (hPi4.below hW (Nat.le_refl _))
        rw [← HSL.out] at q
        refine q.mono ?_
        rintro e w' ⟨⟨⟨na, nn, nc⟩, he, h1, h2⟩, hb⟩
        exact ⟨⟨na, nn, nc, he, h1, h2.wide hW.size (Nat.le_refl _)⟩, hb⟩
      have HTB : Hid (tabB h.ts.length tk i = true) := htab
      have KEEP : Hid (∀ W' : World, Below w4.heap.size w4 W' → (fun w' => Below w4.heap.size w4 w' ∧ w'.cell? ⟨w1.heap.size, 0, none⟩ = some (.slice (some ⟨g, 0, none⟩) h.ts.length pc) ∧ w'.cell? ⟨w.heap.size + 1, 1, none⟩ = some (.int .i64 i) ∧ w'.cell? ⟨g, i, none⟩ = some (.slice sa h.ts[i].length sc) ∧ w'.cell? ⟨w.heap.size + 1 + 1, 0, none⟩ = some (.int .i64 kk) ∧ w'.cell? ⟨w.heap.size + 1 + 1, 1, none⟩ = some (.int .i64 kn) ∧ w'.cell? ⟨w.heap.size + 1 + 1, 2, none⟩ = some (.string ks) ∧ w'.cell? ⟨w.heap.size + 3, 0, none⟩ = some (.int .i64 vk) ∧ w'.cell? ⟨w.heap.size + 3, 1, none⟩ = some (.int .i64 vn) ∧ w'.cell? ⟨w.heap.size + 3, 2, none⟩ = some (.string vs)) W') := fun W' hB => ⟨hB, (hB.cell (p := ⟨w1.heap.size, 0, none⟩) nW).trans v0, (hB.cell (p := ⟨w.heap.size + 1, 1, none⟩) (by show w.heap.size + 1 < _; omega)).trans b1, (hB.cell (p := ⟨g, i, none⟩) hg).trans hcell, (hB.cell (p := ⟨w.heap.size + 1 + 1, 0, none⟩) (by show w.heap.size + 1 + 1 < _; omega)).trans c0, (hB.cell (p := ⟨w.heap.size + 1 + 1, 1, none⟩) (by show w.heap.size + 1 + 1 < _; omega)).trans c1, (hB.cell (p := ⟨w.heap.size + 1 + 1, 2, none⟩) (by show w.heap.size + 1 + 1 < _; omega)).trans c2, (hB.cell (p := ⟨w.heap.size + 3, 0, none⟩) (by show w.heap.size + 3 < _; omega)).trans d0, (hB.cell (p := ⟨w.heap.size + 3, 1, none⟩) (by show w.heap.size + 3 < _; omega)).trans d1, (hB.cell (p := ⟨w.heap.size + 3, 2, none⟩) (by show w.heap.size + 3 < _; omega)).trans d2⟩
      have hq0 : Below w4.heap.size w4 w4.drew := (Below.refl _ _).drew
      clear hrow hPi hPi4 hsi htab hcell hfz hwm ex hcl1 hssl
      go_wp2_with fail
      clear b0 b1 b2 c0 c1 c2 d0 d1 d2 e0 e1 v0 v1 g0 g1
      go_region_held3 (fun w' => Below w4.heap.size w4 w' ∧ w'.cell? ⟨w1.heap.size, 0, none⟩ = some (.slice (some ⟨g, 0, none⟩) h.ts.length pc) ∧ w'.cell? ⟨w.heap.size + 1, 1, none⟩ = some (.int .i64 i) ∧ w'.cell? ⟨g, i, none⟩ = some (.slice sa h.ts[i].length sc) ∧ w'.cell? ⟨w.heap.size + 1 + 1, 0, none⟩ = some (.int .i64 kk) ∧ w'.cell? ⟨w.heap.size + 1 + 1, 1, none⟩ = some (.int .i64 kn) ∧ w'.cell? ⟨w.heap.size + 1 + 1, 2, none⟩ = some (.string ks) ∧ w'.cell? ⟨w.heap.size + 3, 0, none⟩ = some (.int .i64 vk) ∧ w'.cell? ⟨w.heap.size + 3, 1, none⟩ = some (.int .i64 vn) ∧ w'.cell? ⟨w.heap.size + 3, 2, none⟩ = some (.string vs)) (first | (with_reducible assumption) | exact KEEP.out _ (by with_reducible assumption)) (first | (go_at_call 50; refine (HC.out _ (bel_of (by assumption))).mono ?_; rintro e w5 ⟨⟨na, nn, nc, rfl, hnn, hR⟩, hb5⟩; have hq5 := bel_step (by assumption) hb5))
      have HNN : Hid (nn = (setL h i ⟨kk, kn, ks⟩ ⟨vk, vn, vs⟩).length) := hnn
      clear hnn hq0
      have B5 : Below w.heap.size w w5 := Bw.trans (hq5.mono Bw.size)
      have z5 := hq5.size
      have hv5 := HV4.out.below hq5
      have rE5 := (hq5.block _ nE).trans HE4.out
      have v0 := cell_of_row _ _ 0 _ _ _ hv5.var
      have v1 := cell_of_row _ _ 1 _ _ _ hv5.var
      have e0 := cell_of_row _ _ 0 _ _ _ rE5
      have e1 := cell_of_row _ _ 1 _ _ _ rE5
      have g0 := frozen_of_row _ _ 0 _ _ rE5
      have g1 := frozen_of_row _ _ 1 _ _ rE5
      simp only [List.getElem?_toArray, List.getElem?_cons_zero, List.getElem?_cons_succ, Sl.v] at e0 e1 v0 v1
      have nW5 := hv5.lt
      have nE5 := (Array.getElem?_eq_some_iff.1 rE5).1
      by_cases hlen : nn ≤ 200
      · have HYES : Hid (setOk h tk i ⟨kk, kn, ks⟩ ⟨vk, vn, vs⟩ = true) := by
          show _ = _
          have := HNN.out
          have := HTB.out
          simp [setOk, *]
          omega
        have hlen' : ¬ (200 < (nn : Int)) := by omega
        have hlenN : ¬ 200 < nn := by omega
        have q5 := (KEEP.out _ hq5).2
        obtain ⟨p0, p1, p2, p3, p4, p5, p6, p7, p8⟩ := q5
        obtain ⟨hcl5, g5, e5, hcell5, hfz5, hg5⟩ := spine_addr hv5.own i HSI.out
        obtain rfl : g = g5 := by simpa using e5
        have ng1 : ¬ w1.heap.size = g := fun e => own_ne hv5.own.spine hv5.var (by decide) (by rw [e]; rfl)
        have ng2 : ¬ w.heap.size + 3 + 1 = g := fun e => own_ne hv5.own.spine rE5 (by decide) (by rw [e]; rfl)
        have ng1' : ¬ g = w1.heap.size := fun e => ng1 e.symm
        have ng2' : ¬ g = w.heap.size + 3 + 1 := fun e => ng2 e.symm
        obtain ⟨hvF, hfarF, hbF⟩ := HV4.out.setTable hq5 hR rfl HSI.out B4.size
        have HVF : Hid (VarH (w5.setCell ⟨g, i, none⟩ (Sl.v ⟨na, nn, nc⟩)) W0.heap.size w1.heap.size ⟨some ⟨g, 0, none⟩, h.ts.length, pc⟩ ⟨ua, h.vs.length, uc⟩ (ss.set i ⟨na, nn, nc⟩) (h.xss.set i (flatP (setL h i ⟨kk, kn, ks⟩ ⟨vk, vn, vs⟩))) (flatV h.vs)) := hvF
        have HBF : Hid (Below w.heap.size w (w5.setCell ⟨g, i, none⟩ (Sl.v ⟨na, nn, nc⟩))) := Bw.trans (hbF.mono HZ0.out)
        have HSA : Hid (h.setAt tk i ⟨kk, kn, ks⟩ ⟨vk, vn, vs⟩ = ⟨h.ts.set i (setL h i ⟨kk, kn, ks⟩ ⟨vk, vn, vs⟩), h.vs⟩) := by
          show _ = _
          rw [Hp.setAt, if_pos HYES.out, Int.toNat_natCast]
        clear hv5 rE5 hcl5 hcell5 hvF hfarF hbF p2 p3 p4 p5 p6 p7 p8 hR e5
        go_wp2_with fail
        refine bodyPost_ret (v := .tuple #[.agg #[.slice (some ⟨g, 0, none⟩) h.ts.length pc, .slice ua h.vs.length uc], .string ⟨#[]⟩]) (by simp [results, Try.results21, go_sem, *]) rfl ⟨⟨⟨some ⟨g, 0, none⟩, h.ts.length, pc⟩, ⟨ua, h.vs.length, uc⟩, by rw [HYES.out]; rfl, ss.set i ⟨na, nn, nc⟩, ?_⟩, ?_⟩
        · rw [HSA.out]
          refine ⟨by simp, rfl, ?_⟩
          rw [set_xss]
          refine (HVF.out.own.under (fun bb hb => ?_) (by simp)).base HZ0.out
          have := HZ.out
          repeat (first | (with_reducible refine (drew_at _ _).trans ?_) | (with_reducible refine (heap_setCell_other _ _ _ _ (by dsimp only; omega)).trans ?_))
          rfl
        · have B9 := HBF.out
          unfold Sl.v at B9
          dsimp only at B9
          repeat (first | (with_reducible exact B9) | (with_reducible refine Below.drew ?_) | (with_reducible refine Below.setCell ?_ (by simp <;> omega) _))
      · have hlen' : 200 < (nn : Int) := by omega
        have hlenN : 200 < nn := by omega
        have HNO : Hid (setOk h tk i ⟨kk, kn, ks⟩ ⟨vk, vn, vs⟩ = false) := by
          show _ = _
          have := HNN.out
          simp [setOk]
          intros
          omega
        clear hv5 rE5
        go_wp2_with fail
        refine bodyPost_ret (v := .tuple #[.agg #[.slice (some ⟨g, 0, none⟩) h.ts.length pc, .slice ua h.vs.length uc], .string ⟨#[105, 110, 100, 101, 120]⟩]) (by simp [results, Try.results21, go_sem, *]) rfl ⟨⟨⟨(some ⟨g, 0, none⟩), h.ts.length, pc⟩, ⟨ua, h.vs.length, uc⟩, ss, by rw [HNO.out]; rfl, HFIN.out w5 _ hq5 (fun bb hb => ?_) (by simp) HNO.out⟩, ?_⟩
        · repeat (first | (with_reducible refine (drew_at _ _).trans ?_) | (with_reducible refine (heap_setCell_other _ _ _ _ (by dsimp only; omega)).trans ?_))
          with_reducible rfl
        · repeat (first | (with_reducible exact B5) | (with_reducible refine Below.drew ?_) | (with_reducible refine Below.setCell ?_ (by simp <;> omega) _))
  · have htab' : tabB h.ts.length tk tn = false := by simpa using htab
    have HNO : Hid (setOk h tk tn ⟨kk, kn, ks⟩ ⟨vk, vn, vs⟩ = false) := by show _ = _; simp [setOk, htab']
    go_wp2_with fail
    refine bodyPost_ret (v := .tuple #[.agg #[.slice pa h.ts.length pc, .slice ua h.vs.length uc], .string ⟨#[105, 110, 100, 101, 120]⟩]) (by simp [results, Try.results21, go_sem, *]) rfl ⟨⟨⟨pa, h.ts.length, pc⟩, ⟨ua, h.vs.length, uc⟩, ss, by rw [HNO.out]; rfl, HFIN.out w4 _ (Below.refl _ _) (fun bb hb => ?_) (by simp) HNO.out⟩, ?_⟩
    · repeat (first | (with_reducible refine (drew_at _ _).trans ?_) | (with_reducible refine (heap_setCell_other _ _ _ _ (by dsimp only; omega)).trans ?_))
      with_reducible rfl
    · repeat (first | (with_reducible exact Bw) | (with_reducible refine Below.drew ?_) | (with_reducible refine Below.setCell ?_ (by simp <;> omega) _))
end Go.Proofs.Ytbdpfmkpjeleaaa
