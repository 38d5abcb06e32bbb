/- Two trees told alike or not, by the program: whole; both sides' SameTree. -/
import Derived.Test.YtlmmomffanakiaaSmI
import Derived.Test.YtlmmomffanakiaaSmS
namespace Go.Proofs.Ytlmmomffanakiaa
open Go.RowKit

theorem alloc3_of {w w1 : World} {A B C : Obj} (hb : Below (((w.alloc A).alloc B).alloc C).heap.size (((w.alloc A).alloc B).alloc C) w1) :
    w1.heap[w.heap.size]? = some A ∧ w1.heap[w.heap.size + 1]? = some B ∧ w1.heap[w.heap.size + 2]? = some C ∧ Below w.heap.size w w1 ∧ w.heap.size + 3 ≤ w1.heap.size := by
  have s1 := size_alloc w A
  have s2 := size_alloc (w.alloc A) B
  have s3 := size_alloc ((w.alloc A).alloc B) C
  have h3 := hb.size
  have hn := heap_alloc_new ((w.alloc A).alloc B) C
  rw [s2, s1] at hn
  have hn2 := heap_alloc_new (w.alloc A) B
  rw [s1] at hn2
  refine ⟨?_, ?_, ?_, ?_, by omega⟩
  · rw [hb.block _ (by omega), Below.heap_alloc _ _ _ (by omega), Below.heap_alloc _ _ _ (by omega)]; exact heap_alloc_new w A
  · rw [hb.block _ (by omega), Below.heap_alloc _ _ _ (by omega)]; exact hn2
  · rw [hb.block _ (by omega)]; exact hn
  · exact (((bel_alloc w A).trans ((bel_alloc _ B).mono (by omega))).trans ((bel_alloc _ C).mono (by omega))).trans (hb.mono (by omega))
theorem bel_dn (w : World) (n : Nat) : Below w.heap.size w (w.drewN n) := ⟨rfl, rfl, rfl, Nat.le_refl _, fun _ _ => rfl⟩

set_option maxRecDepth 100000 in
set_option maxHeartbeats 6400000 in
theorem sd_step (b : Nat) (hb : b ≤ 60) (ih : 0 < b → SdOk (b - 1)) : SdOk b := by
  rintro s t lo hi lo' hi' v u z w hz hF hF' hN hN' hh hh' h1 h1'
  obtain ⟨xk, xt, xn, ns, xy, ks⟩ := s
  obtain ⟨yk, yt, yn, ns', yy, ks'⟩ := t
  simp only [NAt] at hN hN'
  obtain ⟨_, xa, xc, xb, xd, rfl, hn, hk, hS, hK⟩ := hN
  obtain ⟨_, ya, yc, yb, yd, rfl, hn', hk', hS', hK'⟩ := hN'
  simp only [wt] at h1 h1'
  have HZ : Hid (z = b) := hz
  have hz0 : 0 ≤ z := by omega
  have hz1 : z ≤ 60 := by omega
  clear hz
  have hb3 : ∀ X Y Z : Obj, Below w.heap.size w (((w.alloc X).alloc Y).alloc Z) := fun X Y Z => ((bel_alloc w X).trans ((bel_alloc _ Y).mono (by simp))).trans ((bel_alloc _ Z).mono (by simp; omega))
  generalize hB : lk _ _ = B
  have HB : Hid (lk (.mk xk xt xn ns xy ks) (.mk yk yt yn ns' yy ks') = B) := hB
  clear hB
  by_cases e1 : ¬ (xk = yk)
  · have HF : Hid (B = false) := by
      show B = false
      rw [← HB.out]
      exact lk_false fun e => e1 ((lk_true.1 e).1)
    clear ih hS hK hS' hK' hF hF' HB HZ
    go_enter Try.func21, Try.ntmps21
    go_wp2_with fail
    all_goals
      go_ret
      exact ⟨by rw [HF.out]; rfl, hb3 _ _ _⟩
  replace e1 := Decidable.of_not_not e1
  subst e1
  by_cases e2 : ¬ (xt.toList = yt.toList)
  · have HF : Hid (B = false) := by
      show B = false
      rw [← HB.out]
      exact lk_false fun e => e2 ((lk_true.1 e).2.1 ▸ rfl)
    clear ih hS hK hS' hK' hF hF' HB HZ
    go_enter Try.func21, Try.ntmps21
    go_wp2_with fail
    all_goals
      go_ret
      exact ⟨by rw [HF.out]; rfl, hb3 _ _ _⟩
  replace e2 := Decidable.of_not_not e2
  replace e2 := bytesEq e2
  subst e2
  by_cases e3 : ¬ (xn = yn)
  · have HF : Hid (B = false) := by
      show B = false
      rw [← HB.out]
      exact lk_false fun e => e3 ((lk_true.1 e).2.2.1)
    clear ih hS hK hS' hK' hF hF' HB HZ
    go_enter Try.func21, Try.ntmps21
    go_wp2_with fail
    all_goals
      go_ret
      exact ⟨by rw [HF.out]; rfl, hb3 _ _ _⟩
  replace e3 := Decidable.of_not_not e3
  subst e3
  go_enter Try.func21, Try.ntmps21
  go_wp2_with fail
  have hV : ∃ V : Bool, (V = true ↔ ns = ns') := ⟨decide (ns = ns'), by simp⟩
  obtain ⟨V, hV⟩ := hV
  have HV : Hid (V = true ↔ ns = ns') := hV
  refine (sstr_impl ns ns' xa ya xc yc lo hi lo' hi' V hV _ hn (hS.below (hb3 _ _ _) hh) (hS'.below (hb3 _ _ _) hh')).mono ?_
  rintro e w1 ⟨rfl, m, rfl⟩
  clear hV
  have hbl := bel_dn ((((w.alloc (Obj.cells #[Value.int IntKind.i64 xk, Value.string xt, Value.int IntKind.i64 xn, Value.slice xa ns.length xc, Value.int IntKind.i64 xy, Value.slice xb ks.length xd] 27)).alloc (Obj.cells #[Value.int IntKind.i64 xk, Value.string xt, Value.int IntKind.i64 xn, Value.slice ya ns'.length yc, Value.int IntKind.i64 yy, Value.slice yb ks'.length yd] 27)).alloc (Obj.cells #[.int .i64 z] 3))) m
  generalize World.drewN _ m = w1 at hbl ⊢
  obtain ⟨hA, hB, hC, hbw, hsz⟩ := alloc3_of hbl
  clear hbl
  cases V
  · have HF : Hid (B = false) := by
      show B = false
      rw [← HB.out]
      exact lk_false fun e => by have := HV.out.2 (lk_true.1 e).2.2.2.1; cases this
    clear HV HB ih hS hK hS' hK' hF hF' hA hB hC
    go_wp2_with fail
    go_ret
    exact ⟨by rw [HF.out]; rfl, hbw⟩
  · have HE : Hid (ns = ns') := HV.out.1 rfl
    clear HV
    have c5 := cell_of_row _ _ 5 _ _ _ hA
    have d5 := cell_of_row _ _ 5 _ _ _ hB
    have p0 := cell_of_row _ _ 0 _ _ _ hC
    simp only [List.getElem?_toArray, List.getElem?_cons_zero, List.getElem?_cons_succ] at c5 d5 p0
    by_cases hb0 : b = 0
    · subst hb0
      obtain rfl : z = 0 := HZ.out
      have HT : Hid (B = true) := by
        show B = true
        rw [← HB.out]
        simp only [Flat] at hF hF'
        exact lk_true.2 ⟨rfl, rfl, rfl, HE.out, by rw [hF, hF']; rfl⟩
      clear HB ih hS hK hS' hK' hF hF' hA hB hC HZ
      go_wp2_with fail
      go_ret
      exact ⟨by rw [HT.out]; rfl, hbw⟩
    · have hz2 : ¬ z = 0 := by have := HZ.out; omega
      have hFk : ∀ x ∈ ks, Flat (b - 1) x := by
        cases b with
        | zero => omega
        | succ b =>
          simp only [Flat] at hF
          exact hF
      have hFk' : ∀ x ∈ ks', Flat (b - 1) x := by
        cases b with
        | zero => omega
        | succ b =>
          simp only [Flat] at hF'
          exact hF'
      have EN := eqf_any (b - 1) (by omega) (ih (by omega)) ks ks' lo hi lo' hi' xb yb xd yd z (w.heap.size + 2) w1 (by have := HZ.out; omega) hC hFk hFk' (hK.below hbw hh) (hK'.below hbw hh') (by omega) (by omega) (by omega) (by omega)
      have HL : Hid (lkL ks ks' = B) := by
        show lkL ks ks' = B
        rw [← HB.out]
        simp only [lk, HE.out, decide_true, Bool.true_and]
      generalize lkL ks ks' = L at *
      obtain rfl : L = B := HL.out
      clear HB HL ih hS hK hS' hK' hF hF' hFk hFk' hA hB hC HE HZ
      go_wp2_with fail
      refine EN.mono ?_
      rintro e w2 ⟨rfl, hb2⟩
      go_wp2_with fail
      go_ret
      exact ⟨rfl, hbw.trans (hb2.mono (by omega))⟩
theorem sd_any (b : Nat) (hb : b ≤ 60) : SdOk b := by
  induction b with
  | zero => exact sd_step 0 hb (fun h => absurd h (Nat.lt_irrefl _))
  | succ b ih => exact sd_step (b + 1) hb (fun _ => ih (by omega))
set_option maxRecDepth 100000 in
set_option maxHeartbeats 1600000 in
theorem same_spec (s t : Nd) (lo hi lo' hi' : Nat) (v u : List Value) (w : World) (hF : Flat 30 s) (hN : NAt w lo hi s v) (hN' : NAt w lo' hi' t u) (hh : hi ≤ w.heap.size) (hh' : hi' ≤ w.heap.size) (h1 : wt s ≤ 1048576) (h1' : wt t ≤ 1048576) :
    Calls Try.prog 10 #[.agg v.toArray, .agg u.toArray] w fun e w' => e = .returned (.bool (lk s t)) ∧ Below w.heap.size w w' := by
  have up : ∀ t : Nd, Flat 30 t → Flat 60 t := fun t h => by
    have H : ∀ n, Flat (30 + n) t := fun n => by
      induction n with
      | zero => exact h
      | succ n ih => exact ih.up
    exact H 30
  have hok := fun (W : World) (hbl : Below w.heap.size w W) => ss_any 60 (by decide) s t lo hi lo' hi' v u 60 W rfl (up s hF) (hN.below hbl hh) (hN'.below hbl hh') (by have := hbl.size; omega) (by have := hbl.size; omega) h1 h1'
  clear up
  generalize lk s t = L at *
  obtain ⟨k1, t1, n1, m1, a1, ca1, y1, b1, cb1, q1, rfl⟩ := nd_cells hN
  obtain ⟨k2, t2, n2, m2, a2, ca2, y2, b2, cb2, q2, rfl⟩ := nd_cells hN'
  clear hN hN' hF
  go_enter Try.func10, Try.ntmps10
  go_wp2_with fail
  have hb2 : ∀ X Y : Obj, Below w.heap.size w ((w.alloc X).alloc Y) := fun X Y => (bel_alloc w _).trans ((bel_alloc _ _).mono (by simp))
  refine (hok _ (hb2 _ _)).mono ?_
  rintro e w1 ⟨rfl, hb1⟩
  go_wp2_with fail
  go_ret
  exact ⟨rfl, (hb2 _ _).trans (hb1.mono (by simp; omega))⟩
set_option maxRecDepth 100000 in
set_option maxHeartbeats 1600000 in
theorem same_impl (s t : Nd) (lo hi lo' hi' : Nat) (v u : List Value) (w : World) (hF : Flat 30 s) (hF' : Flat 30 t) (hN : NAt w lo hi s v) (hN' : NAt w lo' hi' t u) (hh : hi ≤ w.heap.size) (hh' : hi' ≤ w.heap.size) (h1 : wt s ≤ 1048576) (h1' : wt t ≤ 1048576) :
    Calls Try.prog 8 #[.agg v.toArray, .agg u.toArray] w fun e w' => e = .returned (.bool (lk s t)) ∧ Below w.heap.size w w' := by
  have up : ∀ t : Nd, Flat 30 t → Flat 60 t := fun t h => by
    have H : ∀ n, Flat (30 + n) t := fun n => by
      induction n with
      | zero => exact h
      | succ n ih => exact ih.up
    exact H 30
  have hok := fun (W : World) (hbl : Below w.heap.size w W) => sd_any 60 (by decide) s t lo hi lo' hi' v u 60 W rfl (up s hF) (up t hF') (hN.below hbl hh) (hN'.below hbl hh') (by have := hbl.size; omega) (by have := hbl.size; omega) h1 h1'
  clear up
  generalize lk s t = L at *
  obtain ⟨k1, t1, n1, m1, a1, ca1, y1, b1, cb1, q1, rfl⟩ := nd_cells hN
  obtain ⟨k2, t2, n2, m2, a2, ca2, y2, b2, cb2, q2, rfl⟩ := nd_cells hN'
  clear hN hN' hF hF'
  go_enter Try.func8, Try.ntmps8
  go_wp2_with fail
  have hb2 : ∀ X Y : Obj, Below w.heap.size w ((w.alloc X).alloc Y) := fun X Y => (bel_alloc w _).trans ((bel_alloc _ _).mono (by simp))
  refine (hok _ (hb2 _ _)).mono ?_
  rintro e w1 ⟨rfl, hb1⟩
  go_wp2_with fail
  go_ret
  exact ⟨rfl, (hb2 _ _).trans (hb1.mono (by simp; omega))⟩
end Go.Proofs.Ytlmmomffanakiaa
