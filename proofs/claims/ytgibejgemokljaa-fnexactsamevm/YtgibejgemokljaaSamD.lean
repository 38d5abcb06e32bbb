/- Rows compared by a function: the program. -/
import Derived.Test.YtgibejgemokljaaSamC
namespace Go.Proofs.Ytgibejgemokljaa
open Go.RowKit

set_option maxRecDepth 100000 in
set_option maxHeartbeats 1600000 in
theorem efp_impl (xs ys : List (List PairD)) (a b : Option Addr) (ca cb lo hi lo' hi' : Nat) (V : Bool) (hV : V = true ↔ xs = ys) (w : World) (hh : hi ≤ w.heap.size) (hh' : hi' ≤ w.heap.size) (hn : xs.length ≤ maxLen) (hS : RowAt 1 PairSC w lo hi xs a) (hT : RowAt 1 PairSC w lo' hi' ys b) :
    Calls Try.prog 44 #[.slice a xs.length ca, .slice b ys.length cb, .func (.func 45) #[] #[]] w fun e w' => e = .returned (.bool V) ∧ Below w.heap.size w w' := by
  unfold maxLen at hn
  by_cases hl : xs.length = ys.length
  · rw [← hl]
    have HL : Hid (xs.length = ys.length) := hl
    clear hl
    go_enter Try.func44, Try.ntmps44
    go_wp2_with fail
    go_loopw [17] (fun z wr => ∃ i : Nat, z = .int .i64 i ∧ i ≤ xs.length ∧ Below w.heap.size w wr ∧ ∀ j (_ : j < i) (h1 : j < xs.length) (h2 : j < ys.length), xs[j] = ys[j]) (fun z _ => xs.length - (intOf z).toNat)
    case atStart => exact ⟨0, rfl, Nat.zero_le _, Below.refl _ _, fun j h => absurd h (Nat.not_lt_zero _)⟩
    case round =>
      obtain ⟨i, rfl, hil, hbl, hall⟩ := hrel
      by_cases hlt : i < xs.length
      · have hlt2 : i < ys.length := by have := HL.out; omega
        obtain ⟨g, o, cx, rfl, _, hg, hC, _, hc⟩ := hS i hlt
        obtain ⟨g', o', cy, rfl, _, hg', hC', _, hc'⟩ := hT i hlt2
        have hC1 := PairSC_keeps.below hC hbl hh
        have hC2 := PairSC_keeps.below hC' hbl hh'
        have hC3 := hC1
        have hC4 := hC2
        obtain ⟨ok, a_p, c_p, rfl, r_p⟩ := hC1
        obtain ⟨ok2, n_a_p, n_c_p, rfl, n_r_p⟩ := hC2
        have x0 := (hbl.cell (p := ⟨g, o + 1 * i + 0, none⟩) (by show g < _; omega)).trans (hc 0 (by decide))
        have y0 := (hbl.cell (p := ⟨g', o' + 1 * i + 0, none⟩) (by show g' < _; omega)).trans (hc' 0 (by decide))
        simp only [List.getElem?_cons_zero, Nat.add_zero, Nat.one_mul] at x0 y0
        have HN : Hid (¬ xs[i] = ys[i] → V = false) := fun h => vno hV (ne_rows hlt hlt2 h)
        have HY : Hid (xs[i] = ys[i] → ∀ j (_ : j < i + 1) (h1 : j < xs.length) (h2 : j < ys.length), xs[j] = ys[j]) := fun h j hj h1 h2 => by
          by_cases e : j = i
          · subst e; exact h
          · exact hall j (by omega) h1 h2
        have hszw := hbl.size
        have kx : g < wr.heap.size := by omega
        have ky : g' < wr.heap.size := by omega
        have HBL : Hid (Below w.heap.size w wr) := hbl
        clear hc hc' hS hT hall hC hC' hV hC3 hC4 hbl
        generalize xs[i] = x at *
        generalize ys[i] = y at *
        by_cases he : x = y
        · have HYY : Hid (∀ j (_ : j < i + 1) (h1 : j < xs.length) (h2 : j < ys.length), xs[j] = ys[j]) := HY.out he
          have HE : Hid (x = y) := he
          clear HY HN he
          go_wp2_with fail
          refine (spair_impl x y a_p n_a_p c_p n_c_p lo hi lo' hi' true ⟨fun _ => HE.out, fun _ => rfl⟩ _ ok r_p n_r_p).mono ?_
          rintro e w1 ⟨rfl, hq1⟩
          have hb1 := quiet_below hq1
          have B1 : Below w.heap.size w w1 := HBL.out.trans (hb1.mono HBL.out.size)
          go_wp2_with fail
          go_roundw
          case rel => exact ⟨i + 1, by go_num, by omega, B1, HYY.out⟩
          case measure => simp [intOf]; omega
        · have hv : V = false := HN.out he
          have HE : Hid (¬ x = y) := he
          clear HY HN he
          subst hv
          go_wp2_with fail
          refine (spair_impl x y a_p n_a_p c_p n_c_p lo hi lo' hi' false ⟨fun h => absurd h (by decide), fun h => absurd h HE.out⟩ _ ok r_p n_r_p).mono ?_
          rintro e w1 ⟨rfl, hq1⟩
          have hb1 := quiet_below hq1
          have B1 : Below w.heap.size w w1 := HBL.out.trans (hb1.mono HBL.out.size)
          go_wp2_with fail
          go_ret
          exact ⟨rfl, B1⟩
      · obtain rfl : i = xs.length := by omega
        have hv : V = true := vyes hV (ext_rows HL.out fun j h1 h2 => hall j h1 h1 h2)
        clear hall hS hT hV
        subst hv
        go_wp2_with fail
        go_ret
        exact ⟨rfl, hbl⟩
  · have hv : V = false := vno hV fun e => hl (by rw [e])
    have hl' : ¬ ((xs.length : Int) = (ys.length : Int)) := by omega
    clear hV
    subst hv
    go_enter Try.func44, Try.ntmps44
    go_wp2_with fail
    go_ret
    exact ⟨rfl, Below.refl _ _⟩
set_option maxRecDepth 100000 in
set_option maxHeartbeats 1600000 in
theorem efc_impl (xs ys : List ClosureD) (a b : Option Addr) (ca cb lo hi lo' hi' : Nat) (V : Bool) (hV : V = true ↔ xs = ys) (w : World) (hh : hi ≤ w.heap.size) (hh' : hi' ≤ w.heap.size) (hn : xs.length ≤ maxLen) (hS : RowAt 2 ClosureC w lo hi xs a) (hT : RowAt 2 ClosureC w lo' hi' ys b) :
    Calls Try.prog 46 #[.slice a xs.length ca, .slice b ys.length cb, .func (.func 47) #[] #[]] w fun e w' => e = .returned (.bool V) ∧ Below w.heap.size w w' := by
  unfold maxLen at hn
  by_cases hl : xs.length = ys.length
  · rw [← hl]
    have HL : Hid (xs.length = ys.length) := hl
    clear hl
    go_enter Try.func46, Try.ntmps46
    go_wp2_with fail
    go_loopw [17] (fun z wr => ∃ i : Nat, z = .int .i64 i ∧ i ≤ xs.length ∧ Below w.heap.size w wr ∧ ∀ j (_ : j < i) (h1 : j < xs.length) (h2 : j < ys.length), xs[j] = ys[j]) (fun z _ => xs.length - (intOf z).toNat)
    case atStart => exact ⟨0, rfl, Nat.zero_le _, Below.refl _ _, fun j h => absurd h (Nat.not_lt_zero _)⟩
    case round =>
      obtain ⟨i, rfl, hil, hbl, hall⟩ := hrel
      by_cases hlt : i < xs.length
      · have hlt2 : i < ys.length := by have := HL.out; omega
        obtain ⟨g, o, cx, rfl, _, hg, hC, _, hc⟩ := hS i hlt
        obtain ⟨g', o', cy, rfl, _, hg', hC', _, hc'⟩ := hT i hlt2
        have hC1 := ClosureC_keeps.below hC hbl hh
        have hC2 := ClosureC_keeps.below hC' hbl hh'
        have hC3 := hC1
        have hC4 := hC2
        obtain ⟨ok, a_ups, c_ups, rfl, l_ups, r_ups⟩ := hC1
        obtain ⟨ok2, n_a_ups, n_c_ups, rfl, n_l_ups, n_r_ups⟩ := hC2
        have x0 := (hbl.cell (p := ⟨g, o + 2 * i + 0, none⟩) (by show g < _; omega)).trans (hc 0 (by decide))
        have y0 := (hbl.cell (p := ⟨g', o' + 2 * i + 0, none⟩) (by show g' < _; omega)).trans (hc' 0 (by decide))
        have x1 := (hbl.cell (p := ⟨g, o + 2 * i + 1, none⟩) (by show g < _; omega)).trans (hc 1 (by decide))
        have y1 := (hbl.cell (p := ⟨g', o' + 2 * i + 1, none⟩) (by show g' < _; omega)).trans (hc' 1 (by decide))
        simp only [List.getElem?_cons_zero, List.getElem?_cons_succ, Nat.add_zero] at x0 y0 x1 y1
        have mc : i * 2 = 2 * i := Nat.mul_comm _ _
        have HN : Hid (¬ xs[i] = ys[i] → V = false) := fun h => vno hV (ne_rows hlt hlt2 h)
        have HY : Hid (xs[i] = ys[i] → ∀ j (_ : j < i + 1) (h1 : j < xs.length) (h2 : j < ys.length), xs[j] = ys[j]) := fun h j hj h1 h2 => by
          by_cases e : j = i
          · subst e; exact h
          · exact hall j (by omega) h1 h2
        have hszw := hbl.size
        have kx : g < wr.heap.size := by omega
        have ky : g' < wr.heap.size := by omega
        have HBL : Hid (Below w.heap.size w wr) := hbl
        clear hc hc' hS hT hall hC hC' hV ok2 ok l_ups r_ups n_l_ups n_r_ups hbl
        generalize xs[i] = x at *
        generalize ys[i] = y at *
        have B2A : ∀ A B : Obj, Below wr.heap.size wr ((wr.alloc A).alloc B) := fun A B => (rows2' wr A B).2.2.2
        by_cases he : x = y
        · have HYY : Hid (∀ j (_ : j < i + 1) (h1 : j < xs.length) (h2 : j < ys.length), xs[j] = ys[j]) := HY.out he
          have HE : Hid (x = y) := he
          clear HY HN he
          have x_al : ∀ (A : Obj) (p : Addr), p.block < wr.heap.size → (wr.alloc A).cell? p = wr.cell? p := fun A p hp => (bel_alloc wr A).cell hp
          have z0 : ∀ A : Obj, (wr.alloc A).cell? ⟨g', o' + 2 * i, none⟩ = _ := fun A => (x_al A ⟨g', o' + 2 * i, none⟩ ky).trans y0
          have z1 : ∀ A : Obj, (wr.alloc A).cell? ⟨g', o' + 2 * i + 1, none⟩ = _ := fun A => (x_al A ⟨g', o' + 2 * i + 1, none⟩ ky).trans y1
          go_wp2_with fail
          refine (clo_impl x y _ _ lo hi lo' hi' true ⟨fun _ => HE.out, fun _ => rfl⟩ _ (by simp; omega) (by simp; omega) (ClosureC_keeps.below hC3 (B2A _ _) (by omega)) (ClosureC_keeps.below hC4 (B2A _ _) (by omega))).mono ?_
          rintro e w1 ⟨rfl, hb1⟩
          have B1 : Below w.heap.size w w1 := HBL.out.trans (((B2A _ _).trans (hb1.mono (by simp; omega))).mono hszw)
          clear z0 x_al
          go_wp2_with fail
          go_roundw
          case rel => exact ⟨i + 1, by go_num, by omega, B1, HYY.out⟩
          case measure => simp [intOf]; omega
        · have hv : V = false := HN.out he
          have HE : Hid (¬ x = y) := he
          clear HY HN he
          subst hv
          have x_al : ∀ (A : Obj) (p : Addr), p.block < wr.heap.size → (wr.alloc A).cell? p = wr.cell? p := fun A p hp => (bel_alloc wr A).cell hp
          have z0 : ∀ A : Obj, (wr.alloc A).cell? ⟨g', o' + 2 * i, none⟩ = _ := fun A => (x_al A ⟨g', o' + 2 * i, none⟩ ky).trans y0
          have z1 : ∀ A : Obj, (wr.alloc A).cell? ⟨g', o' + 2 * i + 1, none⟩ = _ := fun A => (x_al A ⟨g', o' + 2 * i + 1, none⟩ ky).trans y1
          go_wp2_with fail
          refine (clo_impl x y _ _ lo hi lo' hi' false ⟨fun h => absurd h (by decide), fun h => absurd h HE.out⟩ _ (by simp; omega) (by simp; omega) (ClosureC_keeps.below hC3 (B2A _ _) (by omega)) (ClosureC_keeps.below hC4 (B2A _ _) (by omega))).mono ?_
          rintro e w1 ⟨rfl, hb1⟩
          have B1 : Below w.heap.size w w1 := HBL.out.trans (((B2A _ _).trans (hb1.mono (by simp; omega))).mono hszw)
          clear z0 x_al
          go_wp2_with fail
          go_ret
          exact ⟨rfl, B1⟩
      · obtain rfl : i = xs.length := by omega
        have hv : V = true := vyes hV (ext_rows HL.out fun j h1 h2 => hall j h1 h1 h2)
        clear hall hS hT hV
        subst hv
        go_wp2_with fail
        go_ret
        exact ⟨rfl, hbl⟩
  · have hv : V = false := vno hV fun e => hl (by rw [e])
    have hl' : ¬ ((xs.length : Int) = (ys.length : Int)) := by omega
    clear hV
    subst hv
    go_enter Try.func46, Try.ntmps46
    go_wp2_with fail
    go_ret
    exact ⟨rfl, Below.refl _ _⟩
set_option maxRecDepth 100000 in
set_option maxHeartbeats 1600000 in
theorem eff_impl (xs ys : List FrameD) (a b : Option Addr) (ca cb lo hi lo' hi' : Nat) (V : Bool) (hV : V = true ↔ xs = ys) (w : World) (hh : hi ≤ w.heap.size) (hh' : hi' ≤ w.heap.size) (hn : xs.length ≤ maxLen) (hS : RowAt 6 FrameC w lo hi xs a) (hT : RowAt 6 FrameC w lo' hi' ys b) :
    Calls Try.prog 48 #[.slice a xs.length ca, .slice b ys.length cb, .func (.func 49) #[] #[]] w fun e w' => e = .returned (.bool V) ∧ Below w.heap.size w w' := by
  unfold maxLen at hn
  by_cases hl : xs.length = ys.length
  · rw [← hl]
    have HL : Hid (xs.length = ys.length) := hl
    clear hl
    go_enter Try.func48, Try.ntmps48
    go_wp2_with fail
    go_loopw [17] (fun z wr => ∃ i : Nat, z = .int .i64 i ∧ i ≤ xs.length ∧ Below w.heap.size w wr ∧ ∀ j (_ : j < i) (h1 : j < xs.length) (h2 : j < ys.length), xs[j] = ys[j]) (fun z _ => xs.length - (intOf z).toNat)
    case atStart => exact ⟨0, rfl, Nat.zero_le _, Below.refl _ _, fun j h => absurd h (Nat.not_lt_zero _)⟩
    case round =>
      obtain ⟨i, rfl, hil, hbl, hall⟩ := hrel
      by_cases hlt : i < xs.length
      · have hlt2 : i < ys.length := by have := HL.out; omega
        obtain ⟨g, o, cx, rfl, _, hg, hC, _, hc⟩ := hS i hlt
        obtain ⟨g', o', cy, rfl, _, hg', hC', _, hc'⟩ := hT i hlt2
        have hC1 := FrameC_keeps.below hC hbl hh
        have hC2 := FrameC_keeps.below hC' hbl hh'
        have hC3 := hC1
        have hC4 := hC2
        obtain ⟨ok, a_slots, c_slots, a_ups, c_ups, a_stack, c_stack, rfl, l_slots, r_slots, l_ups, r_ups, l_stack, r_stack⟩ := hC1
        obtain ⟨ok2, n_a_slots, n_c_slots, n_a_ups, n_c_ups, n_a_stack, n_c_stack, rfl, n_l_slots, n_r_slots, n_l_ups, n_r_ups, n_l_stack, n_r_stack⟩ := hC2
        have x0 := (hbl.cell (p := ⟨g, o + 6 * i + 0, none⟩) (by show g < _; omega)).trans (hc 0 (by decide))
        have y0 := (hbl.cell (p := ⟨g', o' + 6 * i + 0, none⟩) (by show g' < _; omega)).trans (hc' 0 (by decide))
        have x1 := (hbl.cell (p := ⟨g, o + 6 * i + 1, none⟩) (by show g < _; omega)).trans (hc 1 (by decide))
        have y1 := (hbl.cell (p := ⟨g', o' + 6 * i + 1, none⟩) (by show g' < _; omega)).trans (hc' 1 (by decide))
        have x2 := (hbl.cell (p := ⟨g, o + 6 * i + 2, none⟩) (by show g < _; omega)).trans (hc 2 (by decide))
        have y2 := (hbl.cell (p := ⟨g', o' + 6 * i + 2, none⟩) (by show g' < _; omega)).trans (hc' 2 (by decide))
        have x3 := (hbl.cell (p := ⟨g, o + 6 * i + 3, none⟩) (by show g < _; omega)).trans (hc 3 (by decide))
        have y3 := (hbl.cell (p := ⟨g', o' + 6 * i + 3, none⟩) (by show g' < _; omega)).trans (hc' 3 (by decide))
        have x4 := (hbl.cell (p := ⟨g, o + 6 * i + 4, none⟩) (by show g < _; omega)).trans (hc 4 (by decide))
        have y4 := (hbl.cell (p := ⟨g', o' + 6 * i + 4, none⟩) (by show g' < _; omega)).trans (hc' 4 (by decide))
        have x5 := (hbl.cell (p := ⟨g, o + 6 * i + 5, none⟩) (by show g < _; omega)).trans (hc 5 (by decide))
        have y5 := (hbl.cell (p := ⟨g', o' + 6 * i + 5, none⟩) (by show g' < _; omega)).trans (hc' 5 (by decide))
        simp only [List.getElem?_cons_zero, List.getElem?_cons_succ, Nat.add_zero] at x0 y0 x1 y1 x2 y2 x3 y3 x4 y4 x5 y5
        have mc : i * 6 = 6 * i := Nat.mul_comm _ _
        have HN : Hid (¬ xs[i] = ys[i] → V = false) := fun h => vno hV (ne_rows hlt hlt2 h)
        have HY : Hid (xs[i] = ys[i] → ∀ j (_ : j < i + 1) (h1 : j < xs.length) (h2 : j < ys.length), xs[j] = ys[j]) := fun h j hj h1 h2 => by
          by_cases e : j = i
          · subst e; exact h
          · exact hall j (by omega) h1 h2
        have hszw := hbl.size
        have kx : g < wr.heap.size := by omega
        have ky : g' < wr.heap.size := by omega
        have HBL : Hid (Below w.heap.size w wr) := hbl
        clear hc hc' hS hT hall hC hC' hV ok2 ok l_slots r_slots l_ups r_ups l_stack r_stack n_l_slots n_r_slots n_l_ups n_r_ups n_l_stack n_r_stack hbl
        generalize xs[i] = x at *
        generalize ys[i] = y at *
        have B2A : ∀ A B : Obj, Below wr.heap.size wr ((wr.alloc A).alloc B) := fun A B => (rows2' wr A B).2.2.2
        by_cases he : x = y
        · have HYY : Hid (∀ j (_ : j < i + 1) (h1 : j < xs.length) (h2 : j < ys.length), xs[j] = ys[j]) := HY.out he
          have HE : Hid (x = y) := he
          clear HY HN he
          have x_al : ∀ (A : Obj) (p : Addr), p.block < wr.heap.size → (wr.alloc A).cell? p = wr.cell? p := fun A p hp => (bel_alloc wr A).cell hp
          have z0 : ∀ A : Obj, (wr.alloc A).cell? ⟨g', o' + 6 * i, none⟩ = _ := fun A => (x_al A ⟨g', o' + 6 * i, none⟩ ky).trans y0
          have z1 : ∀ A : Obj, (wr.alloc A).cell? ⟨g', o' + 6 * i + 1, none⟩ = _ := fun A => (x_al A ⟨g', o' + 6 * i + 1, none⟩ ky).trans y1
          have z2 : ∀ A : Obj, (wr.alloc A).cell? ⟨g', o' + 6 * i + 2, none⟩ = _ := fun A => (x_al A ⟨g', o' + 6 * i + 2, none⟩ ky).trans y2
          have z3 : ∀ A : Obj, (wr.alloc A).cell? ⟨g', o' + 6 * i + 3, none⟩ = _ := fun A => (x_al A ⟨g', o' + 6 * i + 3, none⟩ ky).trans y3
          have z4 : ∀ A : Obj, (wr.alloc A).cell? ⟨g', o' + 6 * i + 4, none⟩ = _ := fun A => (x_al A ⟨g', o' + 6 * i + 4, none⟩ ky).trans y4
          have z5 : ∀ A : Obj, (wr.alloc A).cell? ⟨g', o' + 6 * i + 5, none⟩ = _ := fun A => (x_al A ⟨g', o' + 6 * i + 5, none⟩ ky).trans y5
          go_wp2_with fail
          refine (fra_impl x y _ _ lo hi lo' hi' true ⟨fun _ => HE.out, fun _ => rfl⟩ _ (by simp; omega) (by simp; omega) (FrameC_keeps.below hC3 (B2A _ _) (by omega)) (FrameC_keeps.below hC4 (B2A _ _) (by omega))).mono ?_
          rintro e w1 ⟨rfl, hb1⟩
          have B1 : Below w.heap.size w w1 := HBL.out.trans (((B2A _ _).trans (hb1.mono (by simp; omega))).mono hszw)
          clear z0 x_al
          go_wp2_with fail
          go_roundw
          case rel => exact ⟨i + 1, by go_num, by omega, B1, HYY.out⟩
          case measure => simp [intOf]; omega
        · have hv : V = false := HN.out he
          have HE : Hid (¬ x = y) := he
          clear HY HN he
          subst hv
          have x_al : ∀ (A : Obj) (p : Addr), p.block < wr.heap.size → (wr.alloc A).cell? p = wr.cell? p := fun A p hp => (bel_alloc wr A).cell hp
          have z0 : ∀ A : Obj, (wr.alloc A).cell? ⟨g', o' + 6 * i, none⟩ = _ := fun A => (x_al A ⟨g', o' + 6 * i, none⟩ ky).trans y0
          have z1 : ∀ A : Obj, (wr.alloc A).cell? ⟨g', o' + 6 * i + 1, none⟩ = _ := fun A => (x_al A ⟨g', o' + 6 * i + 1, none⟩ ky).trans y1
          have z2 : ∀ A : Obj, (wr.alloc A).cell? ⟨g', o' + 6 * i + 2, none⟩ = _ := fun A => (x_al A ⟨g', o' + 6 * i + 2, none⟩ ky).trans y2
          have z3 : ∀ A : Obj, (wr.alloc A).cell? ⟨g', o' + 6 * i + 3, none⟩ = _ := fun A => (x_al A ⟨g', o' + 6 * i + 3, none⟩ ky).trans y3
          have z4 : ∀ A : Obj, (wr.alloc A).cell? ⟨g', o' + 6 * i + 4, none⟩ = _ := fun A => (x_al A ⟨g', o' + 6 * i + 4, none⟩ ky).trans y4
          have z5 : ∀ A : Obj, (wr.alloc A).cell? ⟨g', o' + 6 * i + 5, none⟩ = _ := fun A => (x_al A ⟨g', o' + 6 * i + 5, none⟩ ky).trans y5
          go_wp2_with fail
          refine (fra_impl x y _ _ lo hi lo' hi' false ⟨fun h => absurd h (by decide), fun h => absurd h HE.out⟩ _ (by simp; omega) (by simp; omega) (FrameC_keeps.below hC3 (B2A _ _) (by omega)) (FrameC_keeps.below hC4 (B2A _ _) (by omega))).mono ?_
          rintro e w1 ⟨rfl, hb1⟩
          have B1 : Below w.heap.size w w1 := HBL.out.trans (((B2A _ _).trans (hb1.mono (by simp; omega))).mono hszw)
          clear z0 x_al
          go_wp2_with fail
          go_ret
          exact ⟨rfl, B1⟩
      · obtain rfl : i = xs.length := by omega
        have hv : V = true := vyes hV (ext_rows HL.out fun j h1 h2 => hall j h1 h1 h2)
        clear hall hS hT hV
        subst hv
        go_wp2_with fail
        go_ret
        exact ⟨rfl, hbl⟩
  · have hv : V = false := vno hV fun e => hl (by rw [e])
    have hl' : ¬ ((xs.length : Int) = (ys.length : Int)) := by omega
    clear hV
    subst hv
    go_enter Try.func48, Try.ntmps48
    go_wp2_with fail
    go_ret
    exact ⟨rfl, Below.refl _ _⟩
end Go.Proofs.Ytgibejgemokljaa
