/- Two heaps that are told alike are found alike. -/
import Derived.Test.YtbdpfmkpjeleaaaHeapC
namespace Go.Proofs.Ytbdpfmkpjeleaaa
open Go.RowKit

set_option maxRecDepth 100000 in
set_option maxHeartbeats 800000 in
theorem eqP_same (p : Pr) (w : World) :
    Calls Try.prog 85 #[.agg #[.int .i64 p.key.k, .int .i64 p.key.n, .string p.key.s, .int .i64 p.val.k, .int .i64 p.val.n, .string p.val.s], .agg #[.int .i64 p.key.k, .int .i64 p.key.n, .string p.key.s, .int .i64 p.val.k, .int .i64 p.val.n, .string p.val.s]] w fun e w' => e = .returned (.bool true) ∧ Below w.heap.size w w' := by
  obtain ⟨⟨k, n, s⟩, ⟨k2, n2, s2⟩⟩ := p
  dsimp only
  go_enter Try.func85, Try.ntmps85
  go_wp2_with fail
  refine (eqV_same k n s _).mono ?_
  rintro e w1 ⟨rfl, hb1⟩
  obtain ⟨hc1, hf1⟩ := bcell hb1
  have hz1 : w.heap.size + 1 < w1.heap.size := by have := hb1.size; simp at this; omega
  have hz1' : w.heap.size < w1.heap.size := by omega
  have B1 : Below w.heap.size w w1 := Below.trans (by repeat (first | exact Below.refl _ _ | refine Below.alloc ?_ (by simp <;> omega) _)) (hb1.mono (by simp <;> omega))
  go_wp2_with fail
  refine (eqV_same k2 n2 s2 _).mono ?_
  rintro e w2 ⟨rfl, hb2⟩
  go_wp2_with fail
  go_ret
  exact ⟨rfl, B1.trans (hb2.mono B1.size)⟩
set_option maxRecDepth 100000 in
set_option maxHeartbeats 1600000 in
theorem eqPS_same (vs : List Pr) (a b : Option Addr) (ca cb lo hi lo' hi' : Nat) (w : World) (hh : hi ≤ w.heap.size) (hh' : hi' ≤ w.heap.size) (hn : vs.length ≤ 2097152) (hS : PAt w lo hi vs a) (hT : PAt w lo' hi' vs b) :
    Calls Try.prog 71 #[.slice a vs.length ca, .slice b vs.length cb] w fun e w' => e = .returned (.bool true) ∧ Below w.heap.size w w' := by
  go_enter Try.func71, Try.ntmps71
  go_wp2_with fail
  go_loopw [5] (fun x wr => ∃ i : Nat, x = .int .i64 i ∧ i ≤ vs.length ∧ Below w.heap.size w wr) (fun x _ => vs.length - (intOf x).toNat)
  case atStart => exact ⟨0, rfl, Nat.zero_le _, Below.refl _ _⟩
  case round =>
    obtain ⟨i, rfl, hil, hbl⟩ := hrel
    by_cases hlt : i < vs.length
    · obtain ⟨_, g, o, rfl, _, hg, hc⟩ := hS i hlt
      obtain ⟨_, g', o', rfl, _, hg', hc'⟩ := hT i hlt
      have x0 := (hbl.cell (p := ⟨g, o + 6 * i + 0, none⟩) (by show g < _; omega)).trans (hc 0 (by decide))
      have x1 := (hbl.cell (p := ⟨g, o + 6 * i + 1, none⟩) (by show g < _; omega)).trans (hc 1 (by decide))
      have x2 := (hbl.cell (p := ⟨g, o + 6 * i + 2, none⟩) (by show g < _; omega)).trans (hc 2 (by decide))
      have x3 := (hbl.cell (p := ⟨g, o + 6 * i + 3, none⟩) (by show g < _; omega)).trans (hc 3 (by decide))
      have x4 := (hbl.cell (p := ⟨g, o + 6 * i + 4, none⟩) (by show g < _; omega)).trans (hc 4 (by decide))
      have x5 := (hbl.cell (p := ⟨g, o + 6 * i + 5, none⟩) (by show g < _; omega)).trans (hc 5 (by decide))
      have y0 := (hbl.cell (p := ⟨g', o' + 6 * i + 0, none⟩) (by show g' < _; omega)).trans (hc' 0 (by decide))
      have y1 := (hbl.cell (p := ⟨g', o' + 6 * i + 1, none⟩) (by show g' < _; omega)).trans (hc' 1 (by decide))
      have y2 := (hbl.cell (p := ⟨g', o' + 6 * i + 2, none⟩) (by show g' < _; omega)).trans (hc' 2 (by decide))
      have y3 := (hbl.cell (p := ⟨g', o' + 6 * i + 3, none⟩) (by show g' < _; omega)).trans (hc' 3 (by decide))
      have y4 := (hbl.cell (p := ⟨g', o' + 6 * i + 4, none⟩) (by show g' < _; omega)).trans (hc' 4 (by decide))
      have y5 := (hbl.cell (p := ⟨g', o' + 6 * i + 5, none⟩) (by show g' < _; omega)).trans (hc' 5 (by decide))
      simp only [Pr.cs, List.getElem?_cons_zero, List.getElem?_cons_succ, Nat.add_zero] at x0 y0 x1 y1 x2 y2 x3 y3 x4 y4 x5 y5
      have mc : i * 6 = 6 * i := Nat.mul_comm _ _
      have hszw := hbl.size
      have kx : g < wr.heap.size := by omega
      have ky : g' < wr.heap.size := by omega
      clear hc hc' hS hT
      generalize vs[i] = p at *
      go_wp2_with fail
      go_region_held (fun w' => w'.cell? ⟨g, o + 6 * i, none⟩ = some (.int .i64 p.key.k) ∧ w'.cell? ⟨g, o + 6 * i + 1, none⟩ = some (.int .i64 p.key.n) ∧ w'.cell? ⟨g, o + 6 * i + 2, none⟩ = some (.string p.key.s) ∧ w'.cell? ⟨g, o + 6 * i + 3, none⟩ = some (.int .i64 p.val.k) ∧ w'.cell? ⟨g, o + 6 * i + 4, none⟩ = some (.int .i64 p.val.n) ∧ w'.cell? ⟨g, o + 6 * i + 5, none⟩ = some (.string p.val.s) ∧ w'.cell? ⟨g', o' + 6 * i, none⟩ = some (.int .i64 p.key.k) ∧ w'.cell? ⟨g', o' + 6 * i + 1, none⟩ = some (.int .i64 p.key.n) ∧ w'.cell? ⟨g', o' + 6 * i + 2, none⟩ = some (.string p.key.s) ∧ w'.cell? ⟨g', o' + 6 * i + 3, none⟩ = some (.int .i64 p.val.k) ∧ w'.cell? ⟨g', o' + 6 * i + 4, none⟩ = some (.int .i64 p.val.n) ∧ w'.cell? ⟨g', o' + 6 * i + 5, none⟩ = some (.string p.val.s)) (go_keep) (first | (go_at_call 85; refine (eqP_same p _).mono ?_; rintro e w1 ⟨rfl, hb1⟩; have qx0 := (hb1.cell (p := ⟨g, o + 6 * i, none⟩) kx).trans x0; have qy0 := (hb1.cell (p := ⟨g', o' + 6 * i, none⟩) ky).trans y0; have qx1 := (hb1.cell (p := ⟨g, o + 6 * i + 1, none⟩) kx).trans x1; have qy1 := (hb1.cell (p := ⟨g', o' + 6 * i + 1, none⟩) ky).trans y1; have qx2 := (hb1.cell (p := ⟨g, o + 6 * i + 2, none⟩) kx).trans x2; have qy2 := (hb1.cell (p := ⟨g', o' + 6 * i + 2, none⟩) ky).trans y2; have qx3 := (hb1.cell (p := ⟨g, o + 6 * i + 3, none⟩) kx).trans x3; have qy3 := (hb1.cell (p := ⟨g', o' + 6 * i + 3, none⟩) ky).trans y3; have qx4 := (hb1.cell (p := ⟨g, o + 6 * i + 4, none⟩) kx).trans x4; have qy4 := (hb1.cell (p := ⟨g', o' + 6 * i + 4, none⟩) ky).trans y4; have qx5 := (hb1.cell (p := ⟨g, o + 6 * i + 5, none⟩) kx).trans x5; have qy5 := (hb1.cell (p := ⟨g', o' + 6 * i + 5, none⟩) ky).trans y5))
      go_wp2_with fail
      go_roundw
      case rel => exact ⟨i + 1, by go_num, by omega, hbl.drew.trans (hb1.mono hbl.size)⟩
      case measure => simp [intOf]; omega
    · obtain rfl : i = vs.length := by omega
      clear hS hT
      go_wp2_with fail
      go_ret
      exact ⟨rfl, hbl⟩
set_option maxRecDepth 100000 in
set_option maxHeartbeats 1600000 in
theorem eqVS_same (vs : List Vl) (a b : Option Addr) (ca cb lo hi lo' hi' : Nat) (w : World) (hh : hi ≤ w.heap.size) (hh' : hi' ≤ w.heap.size) (hn : vs.length ≤ 2097152) (hS : VAt w lo hi vs a) (hT : VAt w lo' hi' vs b) :
    Calls Try.prog 37 #[.slice a vs.length ca, .slice b vs.length cb] w fun e w' => e = .returned (.bool true) ∧ Below w.heap.size w w' := by
  go_enter Try.func37, Try.ntmps37
  go_wp2_with fail
  go_loopw [5] (fun x wr => ∃ i : Nat, x = .int .i64 i ∧ i ≤ vs.length ∧ Below w.heap.size w wr) (fun x _ => vs.length - (intOf x).toNat)
  case atStart => exact ⟨0, rfl, Nat.zero_le _, Below.refl _ _⟩
  case round =>
    obtain ⟨i, rfl, hil, hbl⟩ := hrel
    by_cases hlt : i < vs.length
    · obtain ⟨_, g, o, rfl, _, hg, hc⟩ := hS i hlt
      obtain ⟨_, g', o', rfl, _, hg', hc'⟩ := hT i hlt
      have x0 := (hbl.cell (p := ⟨g, o + 3 * i + 0, none⟩) (by show g < _; omega)).trans (hc 0 (by decide))
      have x1 := (hbl.cell (p := ⟨g, o + 3 * i + 1, none⟩) (by show g < _; omega)).trans (hc 1 (by decide))
      have x2 := (hbl.cell (p := ⟨g, o + 3 * i + 2, none⟩) (by show g < _; omega)).trans (hc 2 (by decide))
      have y0 := (hbl.cell (p := ⟨g', o' + 3 * i + 0, none⟩) (by show g' < _; omega)).trans (hc' 0 (by decide))
      have y1 := (hbl.cell (p := ⟨g', o' + 3 * i + 1, none⟩) (by show g' < _; omega)).trans (hc' 1 (by decide))
      have y2 := (hbl.cell (p := ⟨g', o' + 3 * i + 2, none⟩) (by show g' < _; omega)).trans (hc' 2 (by decide))
      simp only [Vl.cs, List.getElem?_cons_zero, List.getElem?_cons_succ, Nat.add_zero] at x0 y0 x1 y1 x2 y2
      have mc : i * 3 = 3 * i := Nat.mul_comm _ _
      have hszw := hbl.size
      have kx : g < wr.heap.size := by omega
      have ky : g' < wr.heap.size := by omega
      clear hc hc' hS hT
      generalize vs[i] = p at *
      go_wp2_with fail
      go_region_held (fun w' => w'.cell? ⟨g, o + 3 * i, none⟩ = some (.int .i64 p.k) ∧ w'.cell? ⟨g, o + 3 * i + 1, none⟩ = some (.int .i64 p.n) ∧ w'.cell? ⟨g, o + 3 * i + 2, none⟩ = some (.string p.s) ∧ w'.cell? ⟨g', o' + 3 * i, none⟩ = some (.int .i64 p.k) ∧ w'.cell? ⟨g', o' + 3 * i + 1, none⟩ = some (.int .i64 p.n) ∧ w'.cell? ⟨g', o' + 3 * i + 2, none⟩ = some (.string p.s)) (go_keep) (first | (go_at_call 11; refine (eqV_same p.k p.n p.s _).mono ?_; rintro e w1 ⟨rfl, hb1⟩; have qx0 := (hb1.cell (p := ⟨g, o + 3 * i, none⟩) kx).trans x0; have qy0 := (hb1.cell (p := ⟨g', o' + 3 * i, none⟩) ky).trans y0; have qx1 := (hb1.cell (p := ⟨g, o + 3 * i + 1, none⟩) kx).trans x1; have qy1 := (hb1.cell (p := ⟨g', o' + 3 * i + 1, none⟩) ky).trans y1; have qx2 := (hb1.cell (p := ⟨g, o + 3 * i + 2, none⟩) kx).trans x2; have qy2 := (hb1.cell (p := ⟨g', o' + 3 * i + 2, none⟩) ky).trans y2))
      go_wp2_with fail
      go_roundw
      case rel => exact ⟨i + 1, by go_num, by omega, hbl.drew.trans (hb1.mono hbl.size)⟩
      case measure => simp [intOf]; omega
    · obtain rfl : i = vs.length := by omega
      clear hS hT
      go_wp2_with fail
      go_ret
      exact ⟨rfl, hbl⟩
set_option maxRecDepth 100000 in
set_option maxHeartbeats 1600000 in
theorem eqT_same (ts : List (List Pr)) (a b : Option Addr) (ca cb lo hi lo' hi' : Nat) (w : World) (hh : hi ≤ w.heap.size) (hh' : hi' ≤ w.heap.size) (hn : wtT ts ≤ 2097152) (hS : TAt w lo hi ts a) (hT : TAt w lo' hi' ts b) :
    Calls Try.prog 36 #[.slice a ts.length ca, .slice b ts.length cb] w fun e w' => e = .returned (.bool true) ∧ Below w.heap.size w w' := by
  have hln := len_wtT ts
  go_enter Try.func36, Try.ntmps36
  go_wp2_with fail
  go_loopw [5] (fun x wr => ∃ i : Nat, x = .int .i64 i ∧ i ≤ ts.length ∧ Below w.heap.size w wr) (fun x _ => ts.length - (intOf x).toNat)
  case atStart => exact ⟨0, rfl, Nat.zero_le _, Below.refl _ _⟩
  case round =>
    obtain ⟨i, rfl, hil, hbl⟩ := hrel
    by_cases hlt : i < ts.length
    · obtain ⟨_, g, o, c1, cc1, rfl, _, hg, hc, hP⟩ := hS i hlt
      obtain ⟨_, g', o', c2, cc2, rfl, _, hg', hc', hP'⟩ := hT i hlt
      have x0 := (hbl.cell (p := ⟨g, o + i, none⟩) (by show g < _; omega)).trans hc
      have y0 := (hbl.cell (p := ⟨g', o' + i, none⟩) (by show g' < _; omega)).trans hc'
      have hszw := hbl.size
      have kx : g < wr.heap.size := by omega
      have ky : g' < wr.heap.size := by omega
      have hwm := wtT_mem ts i hlt
      have HC : Hid (∀ W, Below wr.heap.size wr W → Calls Try.prog 71 #[.slice c1 ts[i].length cc1, .slice c2 ts[i].length cc2] W fun e w' => e = .returned (.bool true) ∧ Below W.heap.size W w') := fun W hW =>
        eqPS_same ts[i] c1 c2 cc1 cc2 lo hi lo' hi' W (by have := hW.size; omega) (by have := hW.size; omega) (by omega) ((hP.below hbl hh).below hW (by omega)) ((hP'.below hbl hh').below hW (by omega))
      clear hc hc' hS hT hP hP' hwm
      generalize ts[i] = p at *
      go_wp2_with fail
      go_region_held (fun w' => w'.cell? ⟨g, o + i, none⟩ = some (.slice c1 p.length cc1) ∧ w'.cell? ⟨g', o' + i, none⟩ = some (.slice c2 p.length cc2)) (go_keep) (first | (go_at_call 71; refine (HC.out _ (Below.refl _ _).drew).mono ?_; rintro e w1 ⟨rfl, hb1⟩; have qx0 := (hb1.cell (p := ⟨g, o + i, none⟩) kx).trans x0; have qy0 := (hb1.cell (p := ⟨g', o' + i, none⟩) ky).trans y0))
      go_wp2_with fail
      go_roundw
      case rel => exact ⟨i + 1, by go_num, by omega, hbl.drew.trans (hb1.mono hbl.size)⟩
      case measure => simp [intOf]; omega
    · obtain rfl : i = ts.length := by omega
      clear hS hT
      go_wp2_with fail
      go_ret
      exact ⟨rfl, hbl⟩

set_option maxRecDepth 100000 in
set_option maxHeartbeats 800000 in
theorem eqH_wide (h : Hp) (v u : List Value) (lo hi lo' hi' : Nat) (w : World) (hN : HAt w lo hi h v) (hM : HAt w lo' hi' h u) (hh : hi ≤ w.heap.size) (hh' : hi' ≤ w.heap.size) (h1 : h.wt ≤ 2097152) :
    Calls Try.prog 10 #[.agg v.toArray, .agg u.toArray] w fun e w' => e = .returned (.bool true) ∧ Below w.heap.size w w' := by
  obtain ⟨a, ca, b, cb, rfl, h2, h3, hT, hV⟩ := hN
  obtain ⟨a', ca', b', cb', rfl, _, _, hT', hV'⟩ := hM
  unfold Hp.wt at h1
  have hal : ∀ A B : Obj, Below w.heap.size w ((w.alloc A).alloc B) := fun A B => (bel_alloc w A).trans ((bel_alloc _ B).mono (by simp))
  go_enter Try.func10, Try.ntmps10
  go_wp2_with fail
  refine (eqT_same h.ts a a' ca ca' lo hi lo' hi' _ (by simp; omega) (by simp; omega) (by omega) (hT.below (hal _ _) hh) (hT'.below (hal _ _) hh')).mono ?_
  rintro e w1 ⟨rfl, hb1⟩
  obtain ⟨hc1, hf1⟩ := bcell hb1
  have hz1 : w.heap.size + 1 < w1.heap.size := by have := hb1.size; simp at this; omega
  have hz1' : w.heap.size < w1.heap.size := by omega
  have B1 : Below w.heap.size w w1 := (hal _ _).trans (hb1.mono (by simp; omega))
  go_wp2_with fail
  refine (eqVS_same h.vs b b' cb cb' lo hi lo' hi' w1 (by omega) (by omega) (by omega) (hV.below B1 hh) (hV'.below B1 hh')).mono ?_
  rintro e w2 ⟨rfl, hb2⟩
  go_wp2_with fail
  go_ret
  exact ⟨rfl, B1.trans (hb2.mono B1.size)⟩
theorem eqH_same (h : Hp) (v u : List Value) (lo hi lo' hi' : Nat) (w : World) (hN : HAt w lo hi h v) (hM : HAt w lo' hi' h u) (hh : hi ≤ w.heap.size) (hh' : hi' ≤ w.heap.size) (h1 : h.wt ≤ 1048576) :
    Calls Try.prog 10 #[.agg v.toArray, .agg u.toArray] w fun e w' => e = .returned (.bool true) ∧ Below w.heap.size w w' :=
  eqH_wide h v u lo hi lo' hi' w hN hM hh hh' (by omega)
end Go.Proofs.Ytbdpfmkpjeleaaa
