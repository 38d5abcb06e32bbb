/- Two trees told alike or not, by the program. -/
import Derived.Test.YtlmmomffanakiaaSmB
import Derived.Deep.RegionHeld3
namespace Go.Proofs.Ytlmmomffanakiaa
open Go.RowKit

def SdOk (b : Nat) : Prop := ∀ (s t : Nd) (lo hi lo' hi' : Nat) (v u : List Value) (z : Int) (w : World), z = b → Flat b s → Flat b t → NAt w lo hi s v → NAt w lo' hi' t u → hi ≤ w.heap.size → hi' ≤ w.heap.size → wt s ≤ 1048576 → wt t ≤ 1048576 →
    Calls Try.prog 21 #[.agg v.toArray, .agg u.toArray, .int .i64 z] w fun e w' => e = .returned (.bool (lk s t)) ∧ Below w.heap.size w w'

set_option maxRecDepth 100000 in
set_option maxHeartbeats 1600000 in
theorem sd1_any (b : Nat) (hb : b < 60) (ih : SdOk b) (s t : Nd) (lo hi lo' hi' : Nat) (v u : List Value) (z : Int) (B : Nat) (w : World) (hz : z = (b : Int) + 1) (hB : w.heap[B]? = some (.cells #[.int .i64 z] 3 (0, 0))) (hF : Flat b s) (hF' : Flat b t) (hN : NAt w lo hi s v) (hN' : NAt w lo' hi' t u) (hh : hi ≤ w.heap.size) (hh' : hi' ≤ w.heap.size) (h1 : wt s ≤ 1048576) (h1' : wt t ≤ 1048576) :
    Calls Try.prog 38 #[.agg v.toArray, .agg u.toArray, .pointer (some ⟨B, 0, none⟩)] w fun e w' => e = .returned (.bool (lk s t)) ∧ Below w.heap.size w w' := by
  have hok := fun (W : World) (hbl : Below w.heap.size w W) => ih s t lo hi lo' hi' v u (z - 1) W (by omega) hF hF' (hN.below hbl hh) (hN'.below hbl hh') (by have := hbl.size; omega) (by have := hbl.size; omega) h1 h1'
  generalize lk s t = L at *
  obtain ⟨k1, t1, n1, m1, a1, ca1, y1, b1, cb1, q1, rfl⟩ := nd_cells hN
  obtain ⟨k2, t2, n2, m2, a2, ca2, y2, b2, cb2, q2, rfl⟩ := nd_cells hN'
  have hlt : B < w.heap.size := (Array.getElem?_eq_some_iff.1 hB).1
  have hzw : IntKind.i64.wrap (z - 1) = z - 1 := by rw [IntKind.wrap_i64]; omega
  have k0 := cell_of_row _ _ 0 _ _ _ hB
  simp only [List.getElem?_toArray, List.getElem?_cons_zero] at k0
  clear hz hB hN hN' ih
  go_enter Try.func38, Try.ntmps38
  go_wp2_with fail
  have hb2 : ∀ X Y : Obj, Below w.heap.size w ((w.alloc X).alloc Y) := fun X Y => (bel_alloc w _).trans ((bel_alloc _ _).mono (by simp))
  refine (hok _ (hb2 _ _)).mono ?_
  rintro e w1 ⟨rfl, hb1⟩
  go_wp2_with fail
  go_ret
  exact ⟨rfl, (hb2 _ _).trans (hb1.mono (by simp; omega))⟩

set_option maxRecDepth 100000 in
set_option maxHeartbeats 3200000 in
theorem eqf_any (b : Nat) (hb : b < 60) (ih : SdOk b) (ks ks' : List Nd) (lo hi lo' hi' : Nat) (a a' : Option Addr) (ca ca' : Nat) (z : Int) (B : Nat) (w : World) (hz : z = (b : Int) + 1) (hB : w.heap[B]? = some (.cells #[.int .i64 z] 3 (0, 0))) (hF : ∀ x ∈ ks, Flat b x) (hF' : ∀ x ∈ ks', Flat b x) (hK : KAt w lo hi ks a 0) (hK' : KAt w lo' hi' ks' a' 0) (hh : hi ≤ w.heap.size) (hh' : hi' ≤ w.heap.size) (h1 : wtL ks ≤ 1048576) (h1' : wtL ks' ≤ 1048576) :
    Calls Try.prog 37 #[.slice a ks.length ca, .slice a' ks'.length ca', .func (.func 38) #[] #[.pointer (some ⟨B, 0, none⟩)]] w fun e w' => e = .returned (.bool (lkL ks ks')) ∧ Below w.heap.size w w' := by
  have hln := len_wtL ks
  have hln' := len_wtL ks'
  have hq1 : ks.length ≤ 1048576 := by omega
  have hq2 : ks'.length ≤ 1048576 := by omega
  have hw1 : ∀ x ∈ ks, wt x ≤ 1048576 := fun x hx => by have := wt_mem hx; omega
  have hw2 : ∀ x ∈ ks', wt x ≤ 1048576 := fun x hx => by have := wt_mem hx; omega
  have hV := lkL_iff ks ks'
  clear hln hln' h1 h1'
  generalize lkL ks ks' = V at *
  have HV : Hid (V = true ↔ ks.length = ks'.length ∧ ∀ i (a : i < ks.length) (b : i < ks'.length), lk ks[i] ks'[i] = true) := hV
  clear hV
  by_cases hl : ks.length = ks'.length
  · have HL : Hid (ks.length = ks'.length) := hl
    rw [← hl]
    clear hl hq2
    go_enter Try.func37, Try.ntmps37
    go_wp2_with fail
    go_loopw [17] (fun x wr => ∃ i : Nat, x = .int .i64 i ∧ i ≤ ks.length ∧ (∀ j (h1 : j < ks.length) (h2 : j < ks'.length), j < i → lk ks[j] ks'[j] = true) ∧ Below w.heap.size w wr) (fun x _ => ks.length - (intOf x).toNat)
    case atStart => exact ⟨0, rfl, Nat.zero_le _, fun j _ _ h => absurd h (Nat.not_lt_zero _), Below.refl _ _⟩
    case round =>
      obtain ⟨i, rfl, hil, hall, hbl⟩ := hrel
      have HP : Hid (∀ j (h1 : j < ks.length) (h2 : j < ks'.length), j < i → lk ks[j] ks'[j] = true) := hall
      clear hall
      by_cases hlt : i < ks.length
      · have hlt2 : i < ks'.length := by rw [← HL.out]; exact hlt
        obtain ⟨g, o, v, rfl, _, hg, hc, hN⟩ := hK.get i hlt
        obtain ⟨g', o', v', rfl, _, hg', hc', hN'⟩ := hK'.get i hlt2
        rw [Nat.zero_add] at hc hc'
        have hok := fun (W : World) (hb : Below w.heap.size w W) => sd1_any b (by assumption) ih ks[i] ks'[i] lo hi lo' hi' v v' z B W hz ((hb.block B (Array.getElem?_eq_some_iff.1 hB).1).trans hB) (hF _ (List.getElem_mem hlt)) (hF' _ (List.getElem_mem hlt2)) (hN.below hb hh) (hN'.below hb hh') (by have := hb.size; omega) (by have := hb.size; omega) (hw1 _ (List.getElem_mem hlt)) (hw2 _ (List.getElem_mem hlt2))
        obtain ⟨L, hL⟩ : ∃ L, lk ks[i] ks'[i] = L := ⟨_, rfl⟩
        rw [hL] at hok
        have HLK : Hid (lk ks[i] ks'[i] = L) := hL
        clear hL
        obtain ⟨k1, t1, n1, m1, a1, ca1, y1', b1, cb1, q1, rfl⟩ := nd_cells hN
        obtain ⟨k2, t2, n2, m2, a2, ca2, y2', b2, cb2, q2, rfl⟩ := nd_cells hN'
        have kg : g < w.heap.size := by omega
        have kg' : g' < w.heap.size := by omega
        have x0 := (hbl.cell (p := ⟨g, o + 6 * i + 0, none⟩) kg).trans (hc 0 (by decide))
        have x1 := (hbl.cell (p := ⟨g, o + 6 * i + 1, none⟩) kg).trans (hc 1 (by decide))
        have x2 := (hbl.cell (p := ⟨g, o + 6 * i + 2, none⟩) kg).trans (hc 2 (by decide))
        have x3 := (hbl.cell (p := ⟨g, o + 6 * i + 3, none⟩) kg).trans (hc 3 (by decide))
        have x4 := (hbl.cell (p := ⟨g, o + 6 * i + 4, none⟩) kg).trans (hc 4 (by decide))
        have x5 := (hbl.cell (p := ⟨g, o + 6 * i + 5, none⟩) kg).trans (hc 5 (by decide))
        have y0 := (hbl.cell (p := ⟨g', o' + 6 * i + 0, none⟩) kg').trans (hc' 0 (by decide))
        have y1 := (hbl.cell (p := ⟨g', o' + 6 * i + 1, none⟩) kg').trans (hc' 1 (by decide))
        have y2 := (hbl.cell (p := ⟨g', o' + 6 * i + 2, none⟩) kg').trans (hc' 2 (by decide))
        have y3 := (hbl.cell (p := ⟨g', o' + 6 * i + 3, none⟩) kg').trans (hc' 3 (by decide))
        have y4 := (hbl.cell (p := ⟨g', o' + 6 * i + 4, none⟩) kg').trans (hc' 4 (by decide))
        have y5 := (hbl.cell (p := ⟨g', o' + 6 * i + 5, none⟩) kg').trans (hc' 5 (by decide))
        simp only [List.getElem?_cons_zero, List.getElem?_cons_succ, Nat.add_zero] at x0 x1 x2 x3 x4 x5 y0 y1 y2 y3 y4 y5
        have m6 : i * 6 = 6 * i := Nat.mul_comm _ _
        have hszw := hbl.size
        have kx : g < wr.heap.size := by omega
        have ky : g' < wr.heap.size := by omega
        clear hc hc' hK hK' hN hN' hw1 hw2 hF hF' hB ih
        go_wp2_with fail
        have hb2 : ∀ X Y : Obj, Below w.heap.size w ((wr.alloc X).alloc Y) := fun X Y => hbl.trans (((bel_alloc wr X).trans ((bel_alloc _ Y).mono (by simp))).mono hszw)
        refine (hok _ (hb2 _ _)).mono ?_
        rintro e w1 ⟨rfl, hb1⟩
        have HB1 : Hid (Below w.heap.size w w1) := (hb2 _ _).trans (hb1.mono (by simp; omega))
        clear hb1 hb2 hok
        cases L
        · have hv : V = false := by
            cases V
            · rfl
            · have := (HV.out.1 rfl).2 i hlt hlt2
              rw [HLK.out] at this
              cases this
          clear HV HP
          subst hv
          go_wp2_with fail
          go_ret
          exact ⟨rfl, HB1.out⟩
        · clear HV
          go_wp2_with fail
          go_roundw
          case rel =>
            refine ⟨i + 1, by go_num, by omega, fun j a b' hj => ?_, HB1.out⟩
            by_cases hji : j < i
            · exact HP.out j a b' hji
            · obtain rfl : j = i := by omega
              exact HLK.out
          case measure => simp [intOf]; omega
      · obtain rfl : i = ks.length := by omega
        have hv : V = true := HV.out.2 ⟨HL.out, fun j a b' => HP.out j a b' a⟩
        clear HV HP hK hK' hw1 hw2 hF hF' hB ih
        subst hv
        go_wp2_with fail
        go_ret
        exact ⟨rfl, hbl⟩
  · have hv : V = false := by
      cases V
      · rfl
      · exact absurd (HV.out.1 rfl).1 hl
    have hl' : ¬ ((ks.length : Int) = (ks'.length : Int)) := by omega
    clear HV hK hK' hw1 hw2 hF hF' hB ih
    subst hv
    go_enter Try.func37, Try.ntmps37
    go_wp2_with fail
    go_ret
    exact ⟨rfl, Below.refl _ _⟩
end Go.Proofs.Ytlmmomffanakiaa
