/- Two trees told alike or not, by the specification. -/
import Derived.Test.YtlmmomffanakiaaSmP
import Derived.Deep.RegionHeld3
namespace Go.Proofs.Ytlmmomffanakiaa
open Go.RowKit

theorem bytesEq {a b : ByteArray} (h : a.toList = b.toList) : a = b := by
  rw [ByteArray.toList_eq, ByteArray.toList_eq] at h
  exact ByteArray.ext (Array.toList_inj.1 h)
def SsOk (b : Nat) : Prop := ∀ (s t : Nd) (lo hi lo' hi' : Nat) (v u : List Value) (z : Int) (w : World), z = b → Flat b s → NAt w lo hi s v → NAt w lo' hi' t u → hi ≤ w.heap.size → hi' ≤ w.heap.size → wt s ≤ 1048576 → wt t ≤ 1048576 →
    Calls Try.prog 22 #[.agg v.toArray, .agg u.toArray, .int .i64 z] w fun e w' => e = .returned (.bool (lk s t)) ∧ Below w.heap.size w w'

set_option maxRecDepth 100000 in
set_option maxHeartbeats 6400000 in
theorem ss_step (b : Nat) (hb : b ≤ 60) (ih : 0 < b → SsOk (b - 1)) : SsOk b := by
  rintro s t lo hi lo' hi' v u z w hz hF hN hN' hh hh' h1 h1'
  obtain ⟨xk, xt, xn, ns, xy, ks⟩ := s
  obtain ⟨yk, yt, yn, ns', yy, ks'⟩ := t
  simp only [NAt] at hN hN'
  obtain ⟨_, xa, xc, xb, xd, rfl, hn, hk, hS, hK⟩ := hN
  obtain ⟨_, ya, yc, yb, yd, rfl, hn', hk', hS', hK'⟩ := hN'
  have hln := len_wtL ks
  have hln' := len_wtL ks'
  simp only [wt] at h1 h1'
  have hm1 : ns.length ≤ 1048576 := by omega
  have hm2 : ns'.length ≤ 1048576 := by omega
  have hq1 : ks.length ≤ 1048576 := by omega
  have hq2 : ks'.length ≤ 1048576 := by omega
  have hw1 : ∀ x ∈ ks, wt x ≤ 1048576 := fun x hx => by have := wt_mem hx; omega
  have hw2 : ∀ x ∈ ks', wt x ≤ 1048576 := fun x hx => by have := wt_mem hx; omega
  have HZ : Hid (z = b) := hz
  have hz0 : 0 ≤ z := by omega
  have hz1 : z ≤ 60 := by omega
  have hzw : IntKind.i64.wrap (z - 1) = z - 1 := by rw [IntKind.wrap_i64]; omega
  clear hz hln hln' h1 h1' hn hn' hk hk'
  have HM : Hid (ns.length = ns.length) := rfl
  have HM' : Hid (ns'.length = ns'.length) := rfl
  have HQ : Hid (ks.length = ks.length) := rfl
  have HQ' : Hid (ks'.length = ks'.length) := rfl
  revert HM HM' HQ HQ' hm1 hm2 hq1 hq2
  generalize em : ns.length = m
  generalize em' : ns'.length = m2
  generalize eq : ks.length = q
  generalize eq' : ks'.length = q2
  intro hq2 hq1 hm2 hm1 _ _ _ _
  have HM : Hid (ns.length = m) := em
  have HM' : Hid (ns'.length = m2) := em'
  have HQ : Hid (ks.length = q) := eq
  have HQ' : Hid (ks'.length = q2) := eq'
  clear em em' eq eq'
  generalize hB : lk _ _ = B
  have HB : Hid (lk (.mk xk xt xn ns xy ks) (.mk yk yt yn ns' yy ks') = B) := hB
  clear hB
  by_cases e1 : ¬ (xk = yk)
  · have HF : Hid (B = false) := by
      show B = false
      rw [← HB.out]
      exact lk_false fun e => e1 ((lk_true.1 e).1)
    clear ih hS hK hS' hK' HM HM' HQ HQ' hF hw1 hw2 HB
    go_enter Try.func22, Try.ntmps22
    go_wp2_with fail
    all_goals
      go_ret
      exact ⟨by rw [HF.out]; rfl, (bel_alloc w _).trans ((bel_alloc _ _).mono (by simp))⟩
  replace e1 := Decidable.of_not_not e1
  subst e1
  by_cases e2 : ¬ (xt.toList = yt.toList)
  · have HF : Hid (B = false) := by
      show B = false
      rw [← HB.out]
      exact lk_false fun e => e2 ((lk_true.1 e).2.1 ▸ rfl)
    clear ih hS hK hS' hK' HM HM' HQ HQ' hF hw1 hw2 HB
    go_enter Try.func22, Try.ntmps22
    go_wp2_with fail
    all_goals
      go_ret
      exact ⟨by rw [HF.out]; rfl, (bel_alloc w _).trans ((bel_alloc _ _).mono (by simp))⟩
  replace e2 := bytesEq (Decidable.of_not_not e2)
  subst e2
  by_cases e3 : ¬ (xn = yn)
  · have HF : Hid (B = false) := by
      show B = false
      rw [← HB.out]
      exact lk_false fun e => e3 ((lk_true.1 e).2.2.1)
    clear ih hS hK hS' hK' HM HM' HQ HQ' hF hw1 hw2 HB
    go_enter Try.func22, Try.ntmps22
    go_wp2_with fail
    all_goals
      go_ret
      exact ⟨by rw [HF.out]; rfl, (bel_alloc w _).trans ((bel_alloc _ _).mono (by simp))⟩
  replace e3 := Decidable.of_not_not e3
  subst e3
  by_cases e4 : ¬ (m = m2)
  · have HF : Hid (B = false) := by
      show B = false
      rw [← HB.out]
      exact lk_false fun e => e4 (by rw [← HM.out, ← HM'.out, (lk_true.1 e).2.2.2.1])
    clear ih hS hK hS' hK' HM HM' HQ HQ' hF hw1 hw2 HB
    have e4' : ¬ ((m : Int) = (m2 : Int)) := by omega
    go_enter Try.func22, Try.ntmps22
    go_wp2_with fail
    all_goals
      go_ret
      exact ⟨by rw [HF.out]; rfl, (bel_alloc w _).trans ((bel_alloc _ _).mono (by simp))⟩
  replace e4 := Decidable.of_not_not e4
  subst e4
  by_cases e5 : ¬ (q = q2)
  · have HF : Hid (B = false) := by
      show B = false
      rw [← HB.out]
      exact lk_false fun e => e5 (by rw [← HQ.out, ← HQ'.out]; exact ((lkL_iff _ _).1 (lk_true.1 e).2.2.2.2).1)
    clear ih hS hK hS' hK' HM HM' HQ HQ' hF hw1 hw2 HB
    have e5' : ¬ ((q : Int) = (q2 : Int)) := by omega
    go_enter Try.func22, Try.ntmps22
    go_wp2_with fail
    all_goals
      go_ret
      exact ⟨by rw [HF.out]; rfl, (bel_alloc w _).trans ((bel_alloc _ _).mono (by simp))⟩
  replace e5 := Decidable.of_not_not e5
  subst e5
  go_enter Try.func22, Try.ntmps22
  go_wp2_with fail
  go_loopw [7] (fun x wr => ∃ i : Nat, x = .int .i64 i ∧ i ≤ m ∧ (∀ j, j < i → ns[j]? = ns'[j]?) ∧ Below ((w.alloc (Obj.cells #[Value.int IntKind.i64 xk, Value.string xt, Value.int IntKind.i64 xn, Value.slice xa m xc, Value.int IntKind.i64 xy, Value.slice xb q xd] 27)).alloc (Obj.cells #[Value.int IntKind.i64 xk, Value.string xt, Value.int IntKind.i64 xn, Value.slice ya m yc, Value.int IntKind.i64 yy, Value.slice yb q yd] 27)).heap.size ((w.alloc (Obj.cells #[Value.int IntKind.i64 xk, Value.string xt, Value.int IntKind.i64 xn, Value.slice xa m xc, Value.int IntKind.i64 xy, Value.slice xb q xd] 27)).alloc (Obj.cells #[Value.int IntKind.i64 xk, Value.string xt, Value.int IntKind.i64 xn, Value.slice ya m yc, Value.int IntKind.i64 yy, Value.slice yb q yd] 27)) wr) (fun x _ => m - (intOf x).toNat)
  case atStart => exact ⟨0, rfl, Nat.zero_le _, fun j hj => absurd hj (Nat.not_lt_zero _), Below.refl _ _⟩
  case round =>
    obtain ⟨i, rfl, him, hpre, hbl⟩ := hrel
    have HP : Hid (∀ j, j < i → ns[j]? = ns'[j]?) := hpre
    clear hpre
    obtain ⟨hA, hB, hbw, hsz⟩ := two_alloc hbl
    have c3 := cell_of_row _ _ 3 _ _ _ hA
    have d3 := cell_of_row _ _ 3 _ _ _ hB
    simp only [List.getElem?_toArray, List.getElem?_cons_zero, List.getElem?_cons_succ] at c3 d3
    clear hA hB
    by_cases hlt : i < m
    · have l1 : i < ns.length := by rw [HM.out]; exact hlt
      have l2 : i < ns'.length := by rw [HM'.out]; exact hlt
      obtain ⟨_, g, o, rfl, _, hg, hc⟩ := hS i l1
      obtain ⟨_, g', o', rfl, _, hg', hc'⟩ := hS' i l2
      have x0 := (hbw.cell (p := ⟨g, o + i, none⟩) (by show g < _; omega)).trans hc
      have y0 := (hbw.cell (p := ⟨g', o' + i, none⟩) (by show g' < _; omega)).trans hc'
      have E1 : Hid (ns[i]? = some ns[i]) := List.getElem?_eq_getElem l1
      have E2 : Hid (ns'[i]? = some ns'[i]) := List.getElem?_eq_getElem l2
      clear hc hc' hS hS' hK hK' hw1 hw2 ih hF
      generalize ns[i] = s1 at *
      generalize ns'[i] = s2 at *
      by_cases he : s1.toList = s2.toList
      · have EQ : Hid (s1 = s2) := bytesEq he
        go_wp2_with fail
        go_region
        go_wp2_with fail
        go_roundw
        case rel =>
          refine ⟨i + 1, by go_num, by omega, fun j hj => ?_, hbl.drew⟩
          by_cases hji : j < i
          · exact HP.out j hji
          · obtain rfl : j = i := by omega
            rw [E1.out, E2.out, EQ.out]
        case measure => simp [intOf]; omega
      · have HF : Hid (B = false) := by
          show B = false
          rw [← HB.out]
          refine lk_false fun e => he ?_
          have e4 := (lk_true.1 e).2.2.2.1
          have e5 := E1.out
          rw [e4, E2.out] at e5
          rw [Option.some.inj e5]
        have he' : (s1.toList == s2.toList) = false := beq_eq_false_iff_ne.2 he
        clear he
        go_wp2_with fail
        go_region
        go_wp2_with fail
        go_ret
        exact ⟨by rw [HF.out]; rfl, hbw.drew⟩
    · obtain rfl : m = i := by omega
      have HE : Hid (ns = ns') := by
        refine List.ext_getElem? fun j => ?_
        by_cases hj : j < m
        · exact HP.out j hj
        · rw [List.getElem?_eq_none (by rw [HM.out]; omega), List.getElem?_eq_none (by rw [HM'.out]; omega)]
      clear hS hS' HP
      rename_i wo
      have hzp : b ≠ 0 → 0 < z := fun h => by have := HZ.out; omega
      by_cases hq0 : 0 < q
      · have hb0 : 0 < b := by
          cases b with
          | zero =>
            simp only [Flat] at hF
            have := HQ.out
            rw [hF] at this
            simp at this
            omega
          | succ b => omega
        have hz2 := hzp (by omega)
        have ih' := ih hb0
        have hFk : ∀ x ∈ ks, Flat (b - 1) x := by
          cases b with
          | zero => omega
          | succ b =>
            simp only [Flat] at hF
            exact hF
        clear hzp ih hF
        go_wp2_with fail
        clear c3 d3 hbw hsz
        go_loopw [8] (fun x wr => ∃ i : Nat, x = .int .i64 i ∧ i ≤ q ∧ (∀ j (a : j < ks.length) (b' : j < ks'.length), j < i → lk ks[j] ks'[j] = true) ∧ Below ((w.alloc (Obj.cells #[Value.int IntKind.i64 xk, Value.string xt, Value.int IntKind.i64 xn, Value.slice xa m xc, Value.int IntKind.i64 xy, Value.slice xb q xd] 27)).alloc (Obj.cells #[Value.int IntKind.i64 xk, Value.string xt, Value.int IntKind.i64 xn, Value.slice ya m yc, Value.int IntKind.i64 yy, Value.slice yb q yd] 27)).heap.size ((w.alloc (Obj.cells #[Value.int IntKind.i64 xk, Value.string xt, Value.int IntKind.i64 xn, Value.slice xa m xc, Value.int IntKind.i64 xy, Value.slice xb q xd] 27)).alloc (Obj.cells #[Value.int IntKind.i64 xk, Value.string xt, Value.int IntKind.i64 xn, Value.slice ya m yc, Value.int IntKind.i64 yy, Value.slice yb q yd] 27)) wr) (fun x _ => q - (intOf x).toNat)
        case atStart => exact ⟨0, rfl, Nat.zero_le _, fun j _ _ hj => absurd hj (Nat.not_lt_zero _), hbl⟩
        case round =>
          clear hbl
          rename_i i0 _ _ _
          obtain ⟨i, rfl, hi2, hpre, hbl⟩ := hrel
          have HP : Hid (∀ j (a : j < ks.length) (b' : j < ks'.length), j < i → lk ks[j] ks'[j] = true) := hpre
          clear hpre
          obtain ⟨hA, hB, hbw, hsz⟩ := two_alloc hbl
          have c5 := cell_of_row _ _ 5 _ _ _ hA
          have d5 := cell_of_row _ _ 5 _ _ _ hB
          simp only [List.getElem?_toArray, List.getElem?_cons_zero, List.getElem?_cons_succ] at c5 d5
          clear hA hB
          by_cases hlt : i < q
          · have l1 : i < ks.length := by rw [HQ.out]; exact hlt
            have l2 : i < ks'.length := by rw [HQ'.out]; exact hlt
            obtain ⟨g, o, v, rfl, _, hg, hc, hN⟩ := hK.get i l1
            obtain ⟨g', o', v', rfl, _, hg', hc', hN'⟩ := hK'.get i l2
            rw [Nat.zero_add] at hc hc'
            have hszw := hbw.size
            have hok := ih' ks[i] ks'[i] lo hi lo' hi' v v' (z - 1) wr.drew (by have := HZ.out; omega) (hFk _ (List.getElem_mem l1)) (hN.below hbw.drew hh) (hN'.below hbw.drew hh') (by show hi ≤ wr.heap.size; omega) (by show hi' ≤ wr.heap.size; omega) (hw1 _ (List.getElem_mem l1)) (hw2 _ (List.getElem_mem l2))
            obtain ⟨L, hL⟩ : ∃ L, lk ks[i] ks'[i] = L := ⟨_, rfl⟩
            rw [hL] at hok
            have HL : Hid (lk ks[i] ks'[i] = L) := hL
            clear hL
            obtain ⟨k1, t1, n1, m1, a1, ca1, y1', b1, cb1, q1, rfl⟩ := nd_cells hN
            obtain ⟨k2, t2, n2, m2, a2, ca2, y2', b2, cb2, q2, rfl⟩ := nd_cells hN'
            have kg : g < w.heap.size := by omega
            have kg' : g' < w.heap.size := by omega
            have x0 := (hbw.cell (p := ⟨g, o + 6 * i + 0, none⟩) kg).trans (hc 0 (by decide))
            have x1 := (hbw.cell (p := ⟨g, o + 6 * i + 1, none⟩) kg).trans (hc 1 (by decide))
            have x2 := (hbw.cell (p := ⟨g, o + 6 * i + 2, none⟩) kg).trans (hc 2 (by decide))
            have x3 := (hbw.cell (p := ⟨g, o + 6 * i + 3, none⟩) kg).trans (hc 3 (by decide))
            have x4 := (hbw.cell (p := ⟨g, o + 6 * i + 4, none⟩) kg).trans (hc 4 (by decide))
            have x5 := (hbw.cell (p := ⟨g, o + 6 * i + 5, none⟩) kg).trans (hc 5 (by decide))
            have y0 := (hbw.cell (p := ⟨g', o' + 6 * i + 0, none⟩) kg').trans (hc' 0 (by decide))
            have y1 := (hbw.cell (p := ⟨g', o' + 6 * i + 1, none⟩) kg').trans (hc' 1 (by decide))
            have y2 := (hbw.cell (p := ⟨g', o' + 6 * i + 2, none⟩) kg').trans (hc' 2 (by decide))
            have y3 := (hbw.cell (p := ⟨g', o' + 6 * i + 3, none⟩) kg').trans (hc' 3 (by decide))
            have y4 := (hbw.cell (p := ⟨g', o' + 6 * i + 4, none⟩) kg').trans (hc' 4 (by decide))
            have y5 := (hbw.cell (p := ⟨g', o' + 6 * i + 5, none⟩) kg').trans (hc' 5 (by decide))
            simp only [List.getElem?_cons_zero, List.getElem?_cons_succ, Nat.add_zero] at x0 x1 x2 x3 x4 x5 y0 y1 y2 y3 y4 y5
            have m6 : i * 6 = 6 * i := Nat.mul_comm _ _
            have kx : g < wr.heap.size := by omega
            have kw0 : w.heap.size < wr.heap.size := by omega
            have kw1 : w.heap.size + 1 < wr.heap.size := by omega
            have ky : g' < wr.heap.size := by omega
            clear hc hc' ih' hK hK' hN hN' hw1 hw2 hFk
            go_wp2_with fail
            go_region_held3 (fun w' => w'.cell? ⟨w.heap.size, 5, none⟩ = some (.slice (some ⟨g, o, none⟩) q xd) ∧ w'.cell? ⟨w.heap.size + 1, 5, none⟩ = some (.slice (some ⟨g', o', none⟩) q yd) ∧ w'.cell? ⟨g, o + 6 * i, none⟩ = some (.int .i64 k1) ∧ w'.cell? ⟨g, o + 6 * i + 1, none⟩ = some (.string t1) ∧ w'.cell? ⟨g, o + 6 * i + 2, none⟩ = some (.int .i64 n1) ∧ w'.cell? ⟨g, o + 6 * i + 3, none⟩ = some (.slice a1 m1 ca1) ∧ w'.cell? ⟨g, o + 6 * i + 4, none⟩ = some (.int .i64 y1') ∧ w'.cell? ⟨g, o + 6 * i + 5, none⟩ = some (.slice b1 q1 cb1) ∧ w'.cell? ⟨g', o' + 6 * i, none⟩ = some (.int .i64 k2) ∧ w'.cell? ⟨g', o' + 6 * i + 1, none⟩ = some (.string t2) ∧ w'.cell? ⟨g', o' + 6 * i + 2, none⟩ = some (.int .i64 n2) ∧ w'.cell? ⟨g', o' + 6 * i + 3, none⟩ = some (.slice a2 m2 ca2) ∧ w'.cell? ⟨g', o' + 6 * i + 4, none⟩ = some (.int .i64 y2') ∧ w'.cell? ⟨g', o' + 6 * i + 5, none⟩ = some (.slice b2 q2 cb2)) (go_keep) (first | (go_at_call 22; refine hok.mono ?_; rintro e w1 ⟨rfl, hb1⟩; have qc5 := (hb1.cell (p := ⟨w.heap.size, 5, none⟩) kw0).trans c5; have qd5 := (hb1.cell (p := ⟨w.heap.size + 1, 5, none⟩) kw1).trans d5; have qx0 := (hb1.cell (p := ⟨g, o + 6 * i, none⟩) kx).trans x0; have qy0 := (hb1.cell (p := ⟨g', o' + 6 * i, none⟩) ky).trans y0; have qx1 := (hb1.cell (p := ⟨g, o + 6 * i + 1, none⟩) kx).trans x1; have qy1 := (hb1.cell (p := ⟨g', o' + 6 * i + 1, none⟩) ky).trans y1; have qx2 := (hb1.cell (p := ⟨g, o + 6 * i + 2, none⟩) kx).trans x2; have qy2 := (hb1.cell (p := ⟨g', o' + 6 * i + 2, none⟩) ky).trans y2; have qx3 := (hb1.cell (p := ⟨g, o + 6 * i + 3, none⟩) kx).trans x3; have qy3 := (hb1.cell (p := ⟨g', o' + 6 * i + 3, none⟩) ky).trans y3; have qx4 := (hb1.cell (p := ⟨g, o + 6 * i + 4, none⟩) kx).trans x4; have qy4 := (hb1.cell (p := ⟨g', o' + 6 * i + 4, none⟩) ky).trans y4; have qx5 := (hb1.cell (p := ⟨g, o + 6 * i + 5, none⟩) kx).trans x5; have qy5 := (hb1.cell (p := ⟨g', o' + 6 * i + 5, none⟩) ky).trans y5))
            all_goals
              cases L
              · have HF : Hid (B = false) := by
                  show B = false
                  rw [← HB.out]
                  refine lk_false fun e => ?_
                  have := ((lkL_iff _ _).1 (lk_true.1 e).2.2.2.2).2 i l1 l2
                  rw [HL.out] at this
                  cases this
                go_wp2_with fail
                go_ret
                exact ⟨by rw [HF.out]; rfl, hbw.drew.trans (hb1.mono hbw.size)⟩
              · go_wp2_with fail
                go_roundw
                case rel =>
                  refine ⟨i + 1, by go_num, by omega, fun j a b' hj => ?_, hbl.drew.trans (hb1.mono hbl.size)⟩
                  by_cases hji : j < i
                  · exact HP.out j a b' hji
                  · obtain rfl : j = i := by omega
                    exact HL.out
                case measure => simp [intOf]; omega
          · obtain rfl : q = i := by omega
            have HT : Hid (B = true) := by
              show B = true
              rw [← HB.out]
              exact lk_true.2 ⟨rfl, rfl, rfl, HE.out, (lkL_iff _ _).2 ⟨by rw [HQ.out, HQ'.out], fun j a b' => HP.out j a b' (by rw [HQ.out] at a; exact a)⟩⟩
            clear ih' hFk hw1 hw2 hK hK'
            go_wp2_with fail
            go_ret
            exact ⟨by rw [HT.out]; rfl, hbw⟩
      · obtain rfl : q = 0 := by omega
        have HT : Hid (B = true) := by
          show B = true
          rw [← HB.out]
          exact lk_true.2 ⟨rfl, rfl, rfl, HE.out, (lkL_iff _ _).2 ⟨by rw [HQ.out, HQ'.out], fun j a b' => by have := HQ.out; omega⟩⟩
        clear ih hF hw1 hw2 hK hK' hzp
        go_wp2_with fail
        clear c3 d3 hbw hsz
        go_loopw [8] (fun x wr => x = .int .i64 0 ∧ Below ((w.alloc (Obj.cells #[Value.int IntKind.i64 xk, Value.string xt, Value.int IntKind.i64 xn, Value.slice xa m xc, Value.int IntKind.i64 xy, Value.slice xb 0 xd] 27)).alloc (Obj.cells #[Value.int IntKind.i64 xk, Value.string xt, Value.int IntKind.i64 xn, Value.slice ya m yc, Value.int IntKind.i64 yy, Value.slice yb 0 yd] 27)).heap.size ((w.alloc (Obj.cells #[Value.int IntKind.i64 xk, Value.string xt, Value.int IntKind.i64 xn, Value.slice xa m xc, Value.int IntKind.i64 xy, Value.slice xb 0 xd] 27)).alloc (Obj.cells #[Value.int IntKind.i64 xk, Value.string xt, Value.int IntKind.i64 xn, Value.slice ya m yc, Value.int IntKind.i64 yy, Value.slice yb 0 yd] 27)) wr) (fun x _ => 0)
        case atStart => exact ⟨rfl, hbl⟩
        case round =>
          clear hbl
          obtain ⟨rfl, hbl⟩ := hrel
          obtain ⟨hA, hB, hbw, hsz⟩ := two_alloc hbl
          have c5 := cell_of_row _ _ 5 _ _ _ hA
          have d5 := cell_of_row _ _ 5 _ _ _ hB
          simp only [List.getElem?_toArray, List.getElem?_cons_zero, List.getElem?_cons_succ] at c5 d5
          clear hA hB
          go_wp2_with fail
          go_ret
          exact ⟨by rw [HT.out]; rfl, hbw⟩
theorem ss_any (b : Nat) (hb : b ≤ 60) : SsOk b := by
  induction b with
  | zero => exact ss_step 0 hb (fun h => absurd h (Nat.lt_irrefl _))
  | succ b ih => exact ss_step (b + 1) hb (fun _ => ih (by omega))
end Go.Proofs.Ytlmmomffanakiaa
