/- Two trees that are told alike are found alike. -/
import Derived.Test.YtjldlihohcniaaaTreeP
import Derived.Deep.RegionHeld
namespace Go.Proofs.Ytjldlihohcniaaa
open Go.RowKit

set_option maxRecDepth 100000 in
set_option maxHeartbeats 800000 in
theorem eqS_same (ns : List ByteArray) (a b : Option Addr) (ca cb lo hi lo' hi' : Nat) (w : World) (hh : hi ≤ w.heap.size) (hh' : hi' ≤ w.heap.size) (hn : ns.length ≤ 1048576) (hS : SAt w lo hi ns a) (hT : SAt w lo' hi' ns b) :
    Calls Try.prog 29 #[.slice a ns.length ca, .slice b ns.length cb] w fun e w' => e = .returned (.bool true) ∧ Below w.heap.size w w' := by
  go_enter Try.func29, Try.ntmps29
  go_wp2_with fail
  go_loopw [5] (fun x wr => ∃ i : Nat, x = .int .i64 i ∧ i ≤ ns.length ∧ Below w.heap.size w wr) (fun x _ => ns.length - (intOf x).toNat)
  case atStart => exact ⟨0, rfl, Nat.zero_le _, Below.refl _ _⟩
  case round =>
    obtain ⟨i, rfl, hi, hbl⟩ := hrel
    by_cases hlt : i < ns.length
    · obtain ⟨_, g, o, rfl, _, hg, hc⟩ := hS i hlt
      obtain ⟨_, g', o', rfl, _, hg', hc'⟩ := hT i hlt
      have x0 := (hbl.cell (p := ⟨g, o + i, none⟩) (by show g < _; omega)).trans hc
      have y0 := (hbl.cell (p := ⟨g', o' + i, none⟩) (by show g' < _; omega)).trans hc'
      clear hS hT hc hc'
      generalize ns[i] = s at *
      go_wp2_with fail
      go_region
      go_wp2_with fail
      go_roundw
      case rel => exact ⟨i + 1, by go_num, by omega, hbl.drew⟩
      case measure => simp [intOf]; omega
    · obtain rfl : i = ns.length := by omega
      clear hS hT
      go_wp2_with fail
      go_ret
      exact ⟨rfl, hbl⟩

def EqOk (t : Nd) : Prop := ∀ (lo hi lo' hi' : Nat) (v u : List Value) (w : World), NAt w lo hi t v → NAt w lo' hi' t u → hi ≤ w.heap.size → hi' ≤ w.heap.size → wt t ≤ 1048576 →
    Calls Try.prog 15 #[.agg v.toArray, .agg u.toArray] w fun e w' => e = .returned (.bool true) ∧ Below w.heap.size w w'

set_option maxRecDepth 100000 in
set_option maxHeartbeats 800000 in
theorem eqL_same (ns : List Nd) (ih : ∀ x ∈ ns, EqOk x) (a b : Option Addr) (ca cb lo hi lo' hi' : Nat) (w : World) (hh : hi ≤ w.heap.size) (hh' : hi' ≤ w.heap.size) (hn : wtL ns ≤ 1048576) (hS : KAt w lo hi ns a 0) (hT : KAt w lo' hi' ns b 0) :
    Calls Try.prog 30 #[.slice a ns.length ca, .slice b ns.length cb] w fun e w' => e = .returned (.bool true) ∧ Below w.heap.size w w' := by
  have hln := len_wtL ns
  go_enter Try.func30, Try.ntmps30
  go_wp2_with fail
  go_loopw [5] (fun x wr => ∃ i : Nat, x = .int .i64 i ∧ i ≤ ns.length ∧ Below w.heap.size w wr) (fun x _ => ns.length - (intOf x).toNat)
  case atStart => exact ⟨0, rfl, Nat.zero_le _, Below.refl _ _⟩
  case round =>
    obtain ⟨i, rfl, hil, hbl⟩ := hrel
    by_cases hlt : i < ns.length
    · obtain ⟨g, o, v, rfl, _, hg, hc, hN⟩ := hS.get i hlt
      obtain ⟨g', o', v', rfl, _, hg', hc', hN'⟩ := hT.get i hlt
      rw [Nat.zero_add] at hc hc'
      have hm := wt_mem (List.getElem_mem hlt)
      have hszw := hbl.size
      have hok := ih _ (List.getElem_mem hlt) lo hi lo' hi' v v' wr.drew (hN.below hbl.drew hh) (hN'.below hbl.drew hh') (by show hi ≤ wr.heap.size; omega) (by show hi' ≤ wr.heap.size; omega) (by omega)
      generalize ns[i] = x at *
      obtain ⟨k, t, n, ms, l, kk⟩ := x
      simp only [NAt] at hN hN'
      obtain ⟨_, a1, ca1, b1, cb1, rfl, _⟩ := hN
      obtain ⟨_, a2, ca2, b2, cb2, rfl, _⟩ := hN'
      have kg : g < w.heap.size := by omega
      have kg' : g' < w.heap.size := by omega
      have x0 := (hbl.cell (p := ⟨g, o + 6 * i + 0, none⟩) kg).trans (hc 0 (by decide))
      have x1 := (hbl.cell (p := ⟨g, o + 6 * i + 1, none⟩) kg).trans (hc 1 (by decide))
      have x2 := (hbl.cell (p := ⟨g, o + 6 * i + 2, none⟩) kg).trans (hc 2 (by decide))
      have x3 := (hbl.cell (p := ⟨g, o + 6 * i + 3, none⟩) kg).trans (hc 3 (by decide))
      have x4 := (hbl.cell (p := ⟨g, o + 6 * i + 4, none⟩) kg).trans (hc 4 (by decide))
      have x5 := (hbl.cell (p := ⟨g, o + 6 * i + 5, none⟩) kg).trans (hc 5 (by decide))
      have y0 := (hbl.cell (p := ⟨g', o' + 6 * i + 0, none⟩) kg').trans (hc' 0 (by decide))
      have y1 := (hbl.cell (p := ⟨g', o' + 6 * i + 1, none⟩) kg').trans (hc' 1 (by decide))
      have y2 := (hbl.cell (p := ⟨g', o' + 6 * i + 2, none⟩) kg').trans (hc' 2 (by decide))
      have y3 := (hbl.cell (p := ⟨g', o' + 6 * i + 3, none⟩) kg').trans (hc' 3 (by decide))
      have y4 := (hbl.cell (p := ⟨g', o' + 6 * i + 4, none⟩) kg').trans (hc' 4 (by decide))
      have y5 := (hbl.cell (p := ⟨g', o' + 6 * i + 5, none⟩) kg').trans (hc' 5 (by decide))
      simp only [List.getElem?_cons_zero, List.getElem?_cons_succ, Nat.add_zero] at x0 x1 x2 x3 x4 x5 y0 y1 y2 y3 y4 y5
      have m6 : i * 6 = 6 * i := Nat.mul_comm _ _
      clear hc hc' ih hS hT
      have kx : g < wr.heap.size := by omega
      have ky : g' < wr.heap.size := by omega
      go_wp2_with fail
      go_region_held (fun w' => w'.cell? ⟨g, o + 6 * i, none⟩ = some (.int .i64 k) ∧ w'.cell? ⟨g, o + 6 * i + 1, none⟩ = some (.string t) ∧ w'.cell? ⟨g, o + 6 * i + 2, none⟩ = some (.int .i64 n) ∧ w'.cell? ⟨g, o + 6 * i + 3, none⟩ = some (.slice a1 ms.length ca1) ∧ w'.cell? ⟨g, o + 6 * i + 4, none⟩ = some (.int .i64 l) ∧ w'.cell? ⟨g, o + 6 * i + 5, none⟩ = some (.slice b1 kk.length cb1) ∧ w'.cell? ⟨g', o' + 6 * i, none⟩ = some (.int .i64 k) ∧ w'.cell? ⟨g', o' + 6 * i + 1, none⟩ = some (.string t) ∧ w'.cell? ⟨g', o' + 6 * i + 2, none⟩ = some (.int .i64 n) ∧ w'.cell? ⟨g', o' + 6 * i + 3, none⟩ = some (.slice a2 ms.length ca2) ∧ w'.cell? ⟨g', o' + 6 * i + 4, none⟩ = some (.int .i64 l) ∧ w'.cell? ⟨g', o' + 6 * i + 5, none⟩ = some (.slice b2 kk.length cb2)) (go_keep) (first | (go_at_call 15; refine hok.mono ?_; rintro e w1 ⟨rfl, hb1⟩; have qx0 := (hb1.cell (p := ⟨g, o + 6 * i, none⟩) kx).trans x0; have qy0 := (hb1.cell (p := ⟨g', o' + 6 * i, none⟩) ky).trans y0; have qx1 := (hb1.cell (p := ⟨g, o + 6 * i + 1, none⟩) kx).trans x1; have qy1 := (hb1.cell (p := ⟨g', o' + 6 * i + 1, none⟩) ky).trans y1; have qx2 := (hb1.cell (p := ⟨g, o + 6 * i + 2, none⟩) kx).trans x2; have qy2 := (hb1.cell (p := ⟨g', o' + 6 * i + 2, none⟩) ky).trans y2; have qx3 := (hb1.cell (p := ⟨g, o + 6 * i + 3, none⟩) kx).trans x3; have qy3 := (hb1.cell (p := ⟨g', o' + 6 * i + 3, none⟩) ky).trans y3; have qx4 := (hb1.cell (p := ⟨g, o + 6 * i + 4, none⟩) kx).trans x4; have qy4 := (hb1.cell (p := ⟨g', o' + 6 * i + 4, none⟩) ky).trans y4; have qx5 := (hb1.cell (p := ⟨g, o + 6 * i + 5, none⟩) kx).trans x5; have qy5 := (hb1.cell (p := ⟨g', o' + 6 * i + 5, none⟩) ky).trans y5))
      go_wp2_with fail
      go_roundw
      case rel => exact ⟨i + 1, by go_num, by omega, hbl.drew.trans (hb1.mono hbl.size)⟩
      case measure => simp [intOf]; omega
    · obtain rfl : i = ns.length := by omega
      clear hS hT
      go_wp2_with fail
      go_ret
      exact ⟨rfl, hbl⟩

set_option maxRecDepth 100000 in
set_option maxHeartbeats 800000 in
theorem eq_same (x : Nd) : EqOk x := by
  induction x using nd_ind with
  | h k t n ns l ks ih =>
    intro lo hi lo' hi' v u w hN hN' hh hh' h1
    simp only [NAt] at hN hN'
    obtain ⟨hz, a1, ca1, b1, cb1, rfl, hn, hk, hS, hK⟩ := hN
    obtain ⟨_, a2, ca2, b2, cb2, rfl, _, _, hS', hK'⟩ := hN'
    have hwt : wt (.mk k t n ns l ks) = ns.length + wtL ks := by simp [wt]
    go_enter Try.func15, Try.ntmps15
    go_wp2_with fail
    have hal : ∀ A B : Obj, Below w.heap.size w ((w.alloc A).alloc B) := fun A B => (bel_alloc w A).trans ((bel_alloc _ B).mono (by simp))
    refine (eqS_same ns a1 a2 ca1 ca2 lo hi lo' hi' _ (by simp; omega) (by simp; omega) (by omega) (hS.below (hal _ _) hh) (hS'.below (hal _ _) hh')).mono ?_
    rintro e w1 ⟨rfl, hb1⟩
    obtain ⟨hA, hB, hbw, hsz⟩ := two_alloc hb1
    have c4 := cell_of_row _ _ 4 _ _ _ hA
    have c5 := cell_of_row _ _ 5 _ _ _ hA
    have d4 := cell_of_row _ _ 4 _ _ _ hB
    have d5 := cell_of_row _ _ 5 _ _ _ hB
    simp only [List.getElem?_toArray, List.getElem?_cons_zero, List.getElem?_cons_succ] at c4 c5 d4 d5
    go_wp2_with fail
    refine (eqL_same ks ih b1 b2 cb1 cb2 lo hi lo' hi' _ (by omega) (by omega) (by omega) (hK.below hbw hh) (hK'.below hbw hh')).mono ?_
    rintro e w2 ⟨rfl, hb2⟩
    go_wp2_with fail
    go_ret
    exact ⟨rfl, hbw.trans (hb2.mono (by omega))⟩
end Go.Proofs.Ytjldlihohcniaaa
