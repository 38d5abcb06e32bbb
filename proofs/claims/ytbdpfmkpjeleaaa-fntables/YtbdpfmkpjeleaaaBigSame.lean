/- The law's test of a great argument. -/
import Derived.Test.YtbdpfmkpjeleaaaValA
import Derived.Test.YtbdpfmkpjeleaaaHeapE
import Derived.Test.YtbdpfmkpjeleaaaHeapG
namespace Go.Proofs.Ytbdpfmkpjeleaaa
open Go.RowKit

theorem big_yes (a : Option Addr) (len cap : Nat) (w : World) (h : 1048576 < len) (h1 : len ≤ 9223372036854775807) : Calls Try.prog 18 #[.slice a len cap] w fun e w' => e = .returned (.bool true) ∧ w = w' := by
  go_enter Try.func18, Try.ntmps18
  go_wp2
  go_ret
  exact ⟨ret_bool (decide_eq_true (by omega)), rfl⟩
theorem big_no (a : Option Addr) (len cap : Nat) (w : World) (h : len ≤ 1048576) : Calls Try.prog 18 #[.slice a len cap] w fun e w' => e = .returned (.bool false) ∧ w = w' := by
  go_enter Try.func18, Try.ntmps18
  go_wp2
  go_ret
  exact ⟨ret_bool (decide_eq_false (by omega)), rfl⟩
end Go.Proofs.Ytbdpfmkpjeleaaa
namespace Go.Proofs.Ytbdpfmkpjeleaaa
open Go.RowKit

set_option maxRecDepth 100000 in
set_option maxHeartbeats 1600000 in
theorem sameV_same (vs : List Vl) (a b : Option Addr) (ca cb lo hi lo' hi' : Nat) (w : World) (hh : hi ≤ w.heap.size) (hh' : hi' ≤ w.heap.size) (hn : vs.length ≤ 2097152) (hS : VAt w lo hi vs a) (hT : VAt w lo' hi' vs b) :
    Calls Try.prog 68 #[.slice a vs.length ca, .slice b vs.length cb] w fun e w' => e = .returned (.bool true) ∧ Below w.heap.size w w' := by
  go_enter Try.func68, Try.ntmps68
  go_wp2_with fail
  go_loopw [5] (fun x wr => ∃ i : Nat, x = .int .i64 i ∧ i ≤ vs.length ∧ Below w.heap.size w wr) (fun x _ => vs.length - (intOf x).toNat)
  case atStart => exact ⟨0, rfl, Nat.zero_le _, Below.refl _ _⟩
  case round =>
    obtain ⟨i, rfl, hil, hbl⟩ := hrel
    by_cases hlt : i < vs.length
    · obtain ⟨_, g, o, rfl, _, hg, hc⟩ := hS i hlt
      obtain ⟨_, g', o', rfl, _, hg', hc'⟩ := hT i hlt
      have x0 := (hbl.cell (p := ⟨g, o + 3 * i + 0, none⟩) (by show g < _; omega)).trans (hc 0 (by decide))
      have x1 := (hbl.cell (p := ⟨g, o + 3 * i + 1, none⟩) (by show g < _; omega)).trans (hc 1 (by decide))
      have x2 := (hbl.cell (p := ⟨g, o + 3 * i + 2, none⟩) (by show g < _; omega)).trans (hc 2 (by decide))
      have y0 := (hbl.cell (p := ⟨g', o' + 3 * i + 0, none⟩) (by show g' < _; omega)).trans (hc' 0 (by decide))
      have y1 := (hbl.cell (p := ⟨g', o' + 3 * i + 1, none⟩) (by show g' < _; omega)).trans (hc' 1 (by decide))
      have y2 := (hbl.cell (p := ⟨g', o' + 3 * i + 2, none⟩) (by show g' < _; omega)).trans (hc' 2 (by decide))
      simp only [Vl.cs, List.getElem?_cons_zero, List.getElem?_cons_succ, Nat.add_zero] at x0 y0 x1 y1 x2 y2
      have mc : i * 3 = 3 * i := Nat.mul_comm _ _
      have hszw := hbl.size
      clear hc hc' hS hT
      generalize vs[i] = p at *
      go_wp2_with fail
      go_region_held (fun w' => w'.cell? ⟨g, o + 3 * i, none⟩ = some (.int .i64 p.k) ∧ w'.cell? ⟨g, o + 3 * i + 1, none⟩ = some (.int .i64 p.n) ∧ w'.cell? ⟨g, o + 3 * i + 2, none⟩ = some (.string p.s) ∧ w'.cell? ⟨g', o' + 3 * i, none⟩ = some (.int .i64 p.k) ∧ w'.cell? ⟨g', o' + 3 * i + 1, none⟩ = some (.int .i64 p.n) ∧ w'.cell? ⟨g', o' + 3 * i + 2, none⟩ = some (.string p.s)) (go_keep) (fail)
      go_wp2_with fail
      go_roundw
      case rel => exact ⟨i + 1, by go_num, by omega, hbl.drew⟩
      case measure => simp [intOf]; omega
    · obtain rfl : i = vs.length := by omega
      clear hS hT
      go_wp2_with fail
      go_ret
      exact ⟨rfl, hbl⟩
set_option maxRecDepth 100000 in
set_option maxHeartbeats 3200000 in
theorem sameH_same (h : Hp) (a b a' b' : Option Addr) (ca cb ca' cb' lo hi lo' hi' : Nat) (w : World) (hh : hi ≤ w.heap.size) (hh' : hi' ≤ w.heap.size) (hwt : h.wt ≤ 2097152) (hT : TAt w lo hi h.ts a) (hV : VAt w lo hi h.vs b) (hT' : TAt w lo' hi' h.ts a') (hV' : VAt w lo' hi' h.vs b') :
    Calls Try.prog 28 #[.agg #[.slice a h.ts.length ca, .slice b h.vs.length cb], .agg #[.slice a' h.ts.length ca', .slice b' h.vs.length cb']] w fun e w' => e = .returned (.bool true) ∧ Below w.heap.size w w' := by
  have hwt' := hwt
  unfold Hp.wt at hwt'
  have hln := len_wtT h.ts
  obtain ⟨rA, rB, hs0, B0⟩ := rows2 w (Obj.cells #[.slice a h.ts.length ca, .slice b h.vs.length cb] 30) (Obj.cells #[.slice a' h.ts.length ca', .slice b' h.vs.length cb'] 30)
  obtain ⟨W0, hW0⟩ : ∃ W0, W0 = (w.alloc (Obj.cells #[.slice a h.ts.length ca, .slice b h.vs.length cb] 30)).alloc (Obj.cells #[.slice a' h.ts.length ca', .slice b' h.vs.length cb'] 30) := ⟨_, rfl⟩
  rw [← hW0] at rA rB hs0 B0
  have x0 := cell_of_row _ _ 0 _ _ _ rA
  have x1 := cell_of_row _ _ 1 _ _ _ rA
  have y0 := cell_of_row _ _ 0 _ _ _ rB
  have y1 := cell_of_row _ _ 1 _ _ _ rB
  simp only [List.getElem?_toArray, List.getElem?_cons_zero, List.getElem?_cons_succ] at x0 x1 y0 y1
  clear rA rB
  go_enter Try.func28, Try.ntmps28
  go_wp2_with fail
  rw [← hW0]
  clear hW0
  refine (sameV_same h.vs b b' cb cb' lo hi lo' hi' W0 (by omega) (by omega) (by omega) (hV.below B0 hh) (hV'.below B0 hh')).mono ?_
  rintro e w1 ⟨rfl, hb1⟩
  have B1 := B0.trans (hb1.mono B0.size)
  have hs1 := hb1.size
  replace x0 := (hb1.cell (p := ⟨w.heap.size, 0, none⟩) (by show w.heap.size < _; omega)).trans x0
  replace y0 := (hb1.cell (p := ⟨w.heap.size + 1, 0, none⟩) (by show w.heap.size + 1 < _; omega)).trans y0
  clear x1 y1 hV hV' hb1 B0
  go_wp2_with fail
  go_loopw [5] (fun x wr => ∃ i : Nat, x = .int .i64 i ∧ i ≤ h.ts.length ∧ Below w1.heap.size w1 wr) (fun x _ => h.ts.length - (intOf x).toNat)
  case atStart => exact ⟨0, rfl, Nat.zero_le _, Below.refl _ _⟩
  case round =>
    obtain ⟨i, rfl, hil, hbl⟩ := hrel
    have p0 := (hbl.cell (p := ⟨w.heap.size, 0, none⟩) (by show w.heap.size < _; omega)).trans x0
    have q0 := (hbl.cell (p := ⟨w.heap.size + 1, 0, none⟩) (by show w.heap.size + 1 < _; omega)).trans y0
    by_cases hlt : i < h.ts.length
    · obtain ⟨_, g, o, c1, cc1, rfl, _, hg, hc, hP⟩ := hT i hlt
      obtain ⟨_, g', o', c2, cc2, rfl, _, hg', hc', hP'⟩ := hT' i hlt
      have hsz := hbl.size
      have BW : Below w.heap.size w wr := B1.trans (hbl.mono B1.size)
      have u0 := (BW.cell (p := ⟨g, o + i, none⟩) (by show g < _; omega)).trans hc
      have v0 := (BW.cell (p := ⟨g', o' + i, none⟩) (by show g' < _; omega)).trans hc'
      have hwm := wtT_mem h.ts i hlt
      have hP2 := hP.below BW hh
      have hP2' := hP'.below BW hh'
      clear hc hc' hT hT' hP hP'
      generalize hp : h.ts[i] = p at *
      clear hp
      go_wp2_with fail
      go_region_held (fun w' => w'.cell? ⟨w.heap.size, 0, none⟩ = some (.slice (some ⟨g, o, none⟩) h.ts.length ca) ∧ w'.cell? ⟨w.heap.size + 1, 0, none⟩ = some (.slice (some ⟨g', o', none⟩) h.ts.length ca') ∧ w'.cell? ⟨g, o + i, none⟩ = some (.slice c1 p.length cc1) ∧ w'.cell? ⟨g', o' + i, none⟩ = some (.slice c2 p.length cc2)) (go_keep) (fail)
      go_wp2_with fail
      go_loopw [6] (fun x wx => ∃ j : Nat, x = .int .i64 j ∧ j ≤ p.length ∧ Below wr.heap.size wr wx) (fun x _ => p.length - (intOf x).toNat)
      case atStart => exact ⟨0, rfl, Nat.zero_le _, (Below.refl _ _).drew⟩
      case round =>
        rename World => wx
        obtain ⟨j, rfl, hjl, hb2⟩ := hrel
        have hs2 := hb2.size
        have gx : g < wr.heap.size := Nat.lt_of_lt_of_le hg (Nat.le_trans hh BW.size)
        have gy : g' < wr.heap.size := Nat.lt_of_lt_of_le hg' (Nat.le_trans hh' BW.size)
        replace p0 := (hb2.cell (p := ⟨w.heap.size, 0, none⟩) (by show w.heap.size < _; omega)).trans p0
        replace q0 := (hb2.cell (p := ⟨w.heap.size + 1, 0, none⟩) (by show w.heap.size + 1 < _; omega)).trans q0
        replace u0 := (hb2.cell (p := ⟨g, o + i, none⟩) gx).trans u0
        replace v0 := (hb2.cell (p := ⟨g', o' + i, none⟩) gy).trans v0
        by_cases hjt : j < p.length
        · obtain ⟨_, f, r, rfl, _, hf, hk⟩ := hP2 j hjt
          obtain ⟨_, f', r', rfl, _, hf', hk'⟩ := hP2' j hjt
          have s0 := (hb2.cell (p := ⟨f, r + 6 * j + 0, none⟩) (by show f < _; omega)).trans (hk 0 (by decide))
          have t0 := (hb2.cell (p := ⟨f', r' + 6 * j + 0, none⟩) (by show f' < _; omega)).trans (hk' 0 (by decide))
          have s1 := (hb2.cell (p := ⟨f, r + 6 * j + 1, none⟩) (by show f < _; omega)).trans (hk 1 (by decide))
          have t1 := (hb2.cell (p := ⟨f', r' + 6 * j + 1, none⟩) (by show f' < _; omega)).trans (hk' 1 (by decide))
          have s2 := (hb2.cell (p := ⟨f, r + 6 * j + 2, none⟩) (by show f < _; omega)).trans (hk 2 (by decide))
          have t2 := (hb2.cell (p := ⟨f', r' + 6 * j + 2, none⟩) (by show f' < _; omega)).trans (hk' 2 (by decide))
          have s3 := (hb2.cell (p := ⟨f, r + 6 * j + 3, none⟩) (by show f < _; omega)).trans (hk 3 (by decide))
          have t3 := (hb2.cell (p := ⟨f', r' + 6 * j + 3, none⟩) (by show f' < _; omega)).trans (hk' 3 (by decide))
          have s4 := (hb2.cell (p := ⟨f, r + 6 * j + 4, none⟩) (by show f < _; omega)).trans (hk 4 (by decide))
          have t4 := (hb2.cell (p := ⟨f', r' + 6 * j + 4, none⟩) (by show f' < _; omega)).trans (hk' 4 (by decide))
          have s5 := (hb2.cell (p := ⟨f, r + 6 * j + 5, none⟩) (by show f < _; omega)).trans (hk 5 (by decide))
          have t5 := (hb2.cell (p := ⟨f', r' + 6 * j + 5, none⟩) (by show f' < _; omega)).trans (hk' 5 (by decide))
          simp only [Pr.cs, List.getElem?_cons_zero, List.getElem?_cons_succ, Nat.add_zero] at s0 t0 s1 t1 s2 t2 s3 t3 s4 t4 s5 t5
          have mc : j * 6 = 6 * j := Nat.mul_comm _ _
          clear hk hk' hP2 hP2'
          generalize p[j] = q at *
          go_wp2_with fail
          go_region_held (fun w' => w'.cell? ⟨w.heap.size, 0, none⟩ = some (.slice (some ⟨g, o, none⟩) h.ts.length ca) ∧ w'.cell? ⟨w.heap.size + 1, 0, none⟩ = some (.slice (some ⟨g', o', none⟩) h.ts.length ca') ∧ w'.cell? ⟨g, o + i, none⟩ = some (.slice (some ⟨f, r, none⟩) p.length cc1) ∧ w'.cell? ⟨g', o' + i, none⟩ = some (.slice (some ⟨f', r', none⟩) p.length cc2) ∧ w'.cell? ⟨f, r + 6 * j, none⟩ = some (.int .i64 q.key.k) ∧ w'.cell? ⟨f, r + 6 * j + 1, none⟩ = some (.int .i64 q.key.n) ∧ w'.cell? ⟨f, r + 6 * j + 2, none⟩ = some (.string q.key.s) ∧ w'.cell? ⟨f, r + 6 * j + 3, none⟩ = some (.int .i64 q.val.k) ∧ w'.cell? ⟨f, r + 6 * j + 4, none⟩ = some (.int .i64 q.val.n) ∧ w'.cell? ⟨f, r + 6 * j + 5, none⟩ = some (.string q.val.s) ∧ w'.cell? ⟨f', r' + 6 * j, none⟩ = some (.int .i64 q.key.k) ∧ w'.cell? ⟨f', r' + 6 * j + 1, none⟩ = some (.int .i64 q.key.n) ∧ w'.cell? ⟨f', r' + 6 * j + 2, none⟩ = some (.string q.key.s) ∧ w'.cell? ⟨f', r' + 6 * j + 3, none⟩ = some (.int .i64 q.val.k) ∧ w'.cell? ⟨f', r' + 6 * j + 4, none⟩ = some (.int .i64 q.val.n) ∧ w'.cell? ⟨f', r' + 6 * j + 5, none⟩ = some (.string q.val.s)) (go_keep) (fail)
          go_wp2_with fail
          go_roundw
          case rel => exact ⟨j + 1, by go_num, by omega, hb2.drew⟩
          case measure => simp [intOf]; omega
        · obtain rfl : j = p.length := by omega
          go_wp2_with fail
          go_roundw
          case rel => exact ⟨i + 1, by go_num, by omega, hbl.trans (hb2.mono hbl.size)⟩
          case measure => simp [intOf]; omega
    · obtain rfl : i = h.ts.length := by omega
      clear hT hT'
      go_wp2_with fail
      go_ret
      exact ⟨rfl, B1.trans (hbl.mono B1.size)⟩
end Go.Proofs.Ytbdpfmkpjeleaaa
