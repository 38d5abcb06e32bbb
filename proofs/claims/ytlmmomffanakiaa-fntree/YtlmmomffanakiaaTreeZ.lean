/- How many nodes a tree has: both functions. -/
import Derived.Test.YtlmmomffanakiaaTreeP
import Derived.Deep.RegionHeld
namespace Go.Proofs.Ytlmmomffanakiaa
open Go.RowKit

theorem nd_cells {w : World} {l h : Nat} {x : Nd} {u : List Value} (hu : NAt w l h x u) : ∃ k t n ms a' ca' y b' cb' kk, u = [.int .i64 k, .string t, .int .i64 n, .slice a' ms ca', .int .i64 y, .slice b' kk cb'] := by
  obtain ⟨k, t, n, ms, y, kk⟩ := x
  simp only [NAt] at hu
  obtain ⟨_, a', ca', b', cb', rfl, _⟩ := hu
  exact ⟨_, _, _, _, _, _, _, _, _, _, rfl⟩

theorem take_sum_le (f : Nd → Nat) (ks : List Nd) (j : Nat) : ((ks.take j).map f).sum ≤ (ks.map f).sum := by
  induction ks generalizing j with
  | nil => simp
  | cons k ks ih =>
    cases j with
    | zero => simp
    | succ j => have := ih j; simp only [List.take_succ_cons, List.map_cons, List.sum_cons]; omega

def SpOk (b : Nat) : Prop := ∀ (t : Nd) (lo hi : Nat) (v : List Value) (z : Int) (w : World), z = b → NAt w lo hi t v → hi ≤ w.heap.size → wt t ≤ 1048576 →
    Calls Try.prog 24 #[.agg v.toArray, .int .i64 z] w fun e w' => e = .returned (.int .i64 (szt b t : Nat)) ∧ Below w.heap.size w w'

set_option maxRecDepth 100000 in
set_option maxHeartbeats 800000 in
theorem sp_zero : SpOk 0 := by
  rintro t lo hi v z w rfl hN hh h1
  obtain ⟨k, tx, n, ms, a', ca', y, b', cb', kk, rfl⟩ := nd_cells hN
  go_enter Try.func24, Try.ntmps24
  go_wp2_with fail
  go_loopw [5, 6] (fun s x wr => s = .int .i64 1 ∧ x = .int .i64 0 ∧ Below (w.alloc (Obj.cells #[Value.int IntKind.i64 k, Value.string tx, Value.int IntKind.i64 n, Value.slice a' ms ca', Value.int IntKind.i64 y, Value.slice b' kk cb'] 27)).heap.size (w.alloc (Obj.cells #[Value.int IntKind.i64 k, Value.string tx, Value.int IntKind.i64 n, Value.slice a' ms ca', Value.int IntKind.i64 y, Value.slice b' kk cb'] 27)) wr) (fun _ _ _ => 0)
  case atStart => exact ⟨rfl, rfl, Below.refl _ _⟩
  case round =>
    obtain ⟨rfl, rfl, hbl⟩ := hrel
    have c5 := st_cell hbl 5
    simp only [List.getElem?_toArray, List.getElem?_cons_zero, List.getElem?_cons_succ] at c5
    have hbw : Below w.heap.size w wr := (bel_alloc w _).trans (hbl.mono (by simp))
    clear hbl
    by_cases hk : 0 < kk
    · go_wp2_with fail
      go_ret
      exact ⟨by simp [szt], hbw⟩
    · go_wp2_with fail
      go_ret
      exact ⟨by simp [szt], hbw⟩

set_option maxRecDepth 100000 in
set_option maxHeartbeats 800000 in
theorem sp_succ (b : Nat) (hb : b < 60) (ih : SpOk b) : SpOk (b + 1) := by
  rintro t lo hi v z w hzb hN hh h1
  have hz0 : 0 < z := by omega
  have hz1 : z ≤ 60 := by omega
  have HZ : Hid (z - 1 = b) := by show z - 1 = (b : Int); omega
  clear hzb
  have hle := szt_le (b + 1) t
  obtain ⟨k, tx, n, ns, y, ks⟩ := t
  simp only [NAt] at hN
  obtain ⟨hz, a', ca', b', cb', rfl, hn, hk, hS, hK⟩ := hN
  have hwt : wt (.mk k tx n ns y ks) = ns.length + wtL ks := by simp [wt]
  have hln := len_wtL ks
  have hkl : ks.length ≤ 1048576 := by omega
  have hsz : szt (b + 1) (.mk k tx n ns y ks) = 1 + (ks.map (szt b)).sum := by simp [szt]
  rw [hsz] at hle ⊢
  go_enter Try.func24, Try.ntmps24
  go_wp2_with fail
  go_loopw [5, 6] (fun s x wr => ∃ i : Nat, s = .int .i64 ((1 + ((ks.take i).map (szt b)).sum : Nat) : Int) ∧ x = .int .i64 i ∧ i ≤ ks.length ∧ 1 + ((ks.take i).map (szt b)).sum ≤ 1048577 ∧ Below (w.alloc (Obj.cells #[Value.int IntKind.i64 k, Value.string tx, Value.int IntKind.i64 n, Value.slice a' ns.length ca', Value.int IntKind.i64 y, Value.slice b' ks.length cb'] 27)).heap.size (w.alloc (Obj.cells #[Value.int IntKind.i64 k, Value.string tx, Value.int IntKind.i64 n, Value.slice a' ns.length ca', Value.int IntKind.i64 y, Value.slice b' ks.length cb'] 27)) wr) (fun _ x _ => ks.length - (intOf x).toNat)
  case atStart => exact ⟨0, by simp, rfl, Nat.zero_le _, by simp, Below.refl _ _⟩
  case round =>
    obtain ⟨i, rfl, rfl, hil, hsm, hbl⟩ := hrel
    have c5 := st_cell hbl 5
    simp only [List.getElem?_toArray, List.getElem?_cons_zero, List.getElem?_cons_succ] at c5
    have hbw : Below w.heap.size w wr := (bel_alloc w _).trans (hbl.mono (by simp))
    have hswr := hbl.size
    by_cases hlt : i < ks.length
    · obtain ⟨g, o, v, rfl, _, hg, hc, hNk⟩ := hK.get i hlt
      rw [Nat.zero_add] at hc
      have hm := wt_mem (List.getElem_mem hlt)
      have hst := szt_le b ks[i]
      have htk := sum_take (szt b) ks i hlt
      have hok := ih ks[i] lo hi v (z - 1) wr HZ.out (hNk.below hbw hh) (by have := hbw.size; omega) (by omega)
      have hbound : 1 + ((ks.take (i + 1)).map (szt b)).sum ≤ 1048577 := by have := take_sum_le (szt b) ks (i + 1); omega
      generalize szt b ks[i] = q at *
      obtain ⟨k1, t1, n1, ms1, a1, ca1, y1, b1, cb1, kk1, rfl⟩ := nd_cells hNk
      have kg : g < w.heap.size := by omega
      have x0 := (hbw.cell (p := ⟨g, o + 6 * i + 0, none⟩) kg).trans (hc 0 (by decide))
      have x1 := (hbw.cell (p := ⟨g, o + 6 * i + 1, none⟩) kg).trans (hc 1 (by decide))
      have x2 := (hbw.cell (p := ⟨g, o + 6 * i + 2, none⟩) kg).trans (hc 2 (by decide))
      have x3 := (hbw.cell (p := ⟨g, o + 6 * i + 3, none⟩) kg).trans (hc 3 (by decide))
      have x4 := (hbw.cell (p := ⟨g, o + 6 * i + 4, none⟩) kg).trans (hc 4 (by decide))
      have x5 := (hbw.cell (p := ⟨g, o + 6 * i + 5, none⟩) kg).trans (hc 5 (by decide))
      simp only [List.getElem?_cons_zero, List.getElem?_cons_succ, Nat.add_zero] at x0 x1 x2 x3 x4 x5
      have m6 : i * 6 = 6 * i := Nat.mul_comm _ _
      clear hc hK hS hNk
      have hnew : 1 + ((ks.take (i + 1)).map (szt b)).sum = (1 + ((ks.take i).map (szt b)).sum) + q := by omega
      rw [hnew] at hbound
      have HN : Hid (1 + ((ks.take (i + 1)).map (szt b)).sum = (1 + ((ks.take i).map (szt b)).sum) + q) := hnew
      clear hnew
      generalize 1 + ((ks.take i).map (szt b)).sum = sm at *
      clear hle htk hst hsm hm hln hwt hsz h1 hn hk
      go_wp2_with fail
      refine hok.mono ?_
      rintro e w1 ⟨rfl, hb1⟩
      clear hok x0 x1 x2 x3 x4 x5 ih
      go_wp2_with fail
      go_roundw
      case rel => exact ⟨i + 1, by rw [HN.out]; go_num, by go_num, by omega, by rw [HN.out]; exact hbound, hbl.trans (hb1.mono hswr)⟩
      case measure => simp [intOf]; omega
    · obtain rfl : i = ks.length := by omega
      go_wp2_with fail
      go_ret
      exact ⟨by simp, hbw⟩

theorem sp_any (b : Nat) (hb : b ≤ 60) : SpOk b := by
  induction b with
  | zero => exact sp_zero
  | succ b ih => exact sp_succ b (by omega) (ih (by omega))

def SiOk (b : Nat) : Prop := ∀ (t : Nd) (lo hi : Nat) (v : List Value) (z : Int) (w : World), z = b → NAt w lo hi t v → hi ≤ w.heap.size → wt t ≤ 1048576 →
    Calls Try.prog 23 #[.agg v.toArray, .int .i64 z] w fun e w' => e = .returned (.int .i64 (szt b t : Nat)) ∧ Below w.heap.size w w'

set_option maxRecDepth 100000 in
set_option maxHeartbeats 800000 in
theorem si_zero : SiOk 0 := by
  rintro t lo hi v z w rfl hN hh h1
  obtain ⟨k, tx, n, ms, a', ca', y, b', cb', kk, rfl⟩ := nd_cells hN
  go_enter Try.func23, Try.ntmps23
  go_wp2_with fail
  go_ret
  exact ⟨by simp [szt], bel_alloc _ _⟩

set_option maxRecDepth 100000 in
set_option maxHeartbeats 800000 in
theorem si_succ (b : Nat) (hb : b < 60) (ih : SiOk b) : SiOk (b + 1) := by
  rintro t lo hi v z w hzb hN hh h1
  have hz0 : 0 < z := by omega
  have hz1 : z ≤ 60 := by omega
  have HZ : Hid (z - 1 = b) := by show z - 1 = (b : Int); omega
  clear hzb
  have hle := szt_le (b + 1) t
  obtain ⟨k, tx, n, ns, y, ks⟩ := t
  simp only [NAt] at hN
  obtain ⟨hz, a', ca', b', cb', rfl, hn, hk, hS, hK⟩ := hN
  have hwt : wt (.mk k tx n ns y ks) = ns.length + wtL ks := by simp [wt]
  have hln := len_wtL ks
  have hkl : ks.length ≤ 1048576 := by omega
  have hsz : szt (b + 1) (.mk k tx n ns y ks) = 1 + (ks.map (szt b)).sum := by simp [szt]
  rw [hsz] at hle ⊢
  go_enter Try.func23, Try.ntmps23
  go_wp2_with fail
  go_loopw [5, 13] (fun s x wr => ∃ i : Nat, s = .int .i64 ((1 + ((ks.take i).map (szt b)).sum : Nat) : Int) ∧ x = .int .i64 i ∧ i ≤ ks.length ∧ 1 + ((ks.take i).map (szt b)).sum ≤ 1048577 ∧ Below w.heap.size w wr) (fun _ x _ => ks.length - (intOf x).toNat)
  case atStart => exact ⟨0, by simp, rfl, Nat.zero_le _, by simp, bel_alloc _ _⟩
  case round =>
    obtain ⟨i, rfl, rfl, hil, hsm, hbw⟩ := hrel
    have hswr := hbw.size
    by_cases hlt : i < ks.length
    · obtain ⟨g, o, v, rfl, _, hg, hc, hNk⟩ := hK.get i hlt
      rw [Nat.zero_add] at hc
      have hm := wt_mem (List.getElem_mem hlt)
      have hst := szt_le b ks[i]
      have htk := sum_take (szt b) ks i hlt
      have hok : ∀ W', Below w.heap.size w W' → Calls Try.prog 23 #[.agg v.toArray, .int .i64 (z - 1)] W' fun e w' => e = .returned (.int .i64 (szt b ks[i] : Nat)) ∧ Below W'.heap.size W' w' :=
        fun W' hW => ih ks[i] lo hi v (z - 1) W' HZ.out (hNk.below hW hh) (Nat.le_trans hh hW.size) (by omega)
      have hbound : 1 + ((ks.take (i + 1)).map (szt b)).sum ≤ 1048577 := by have := take_sum_le (szt b) ks (i + 1); omega
      generalize szt b ks[i] = q at *
      obtain ⟨k1, t1, n1, ms1, a1, ca1, y1, b1, cb1, kk1, rfl⟩ := nd_cells hNk
      have kg : g < w.heap.size := by omega
      have x0 := (hbw.cell (p := ⟨g, o + 6 * i + 0, none⟩) kg).trans (hc 0 (by decide))
      have x1 := (hbw.cell (p := ⟨g, o + 6 * i + 1, none⟩) kg).trans (hc 1 (by decide))
      have x2 := (hbw.cell (p := ⟨g, o + 6 * i + 2, none⟩) kg).trans (hc 2 (by decide))
      have x3 := (hbw.cell (p := ⟨g, o + 6 * i + 3, none⟩) kg).trans (hc 3 (by decide))
      have x4 := (hbw.cell (p := ⟨g, o + 6 * i + 4, none⟩) kg).trans (hc 4 (by decide))
      have x5 := (hbw.cell (p := ⟨g, o + 6 * i + 5, none⟩) kg).trans (hc 5 (by decide))
      simp only [List.getElem?_cons_zero, List.getElem?_cons_succ, Nat.add_zero] at x0 x1 x2 x3 x4 x5
      have m6 : i * 6 = 6 * i := Nat.mul_comm _ _
      clear hc hK hS hNk
      have hnew : 1 + ((ks.take (i + 1)).map (szt b)).sum = (1 + ((ks.take i).map (szt b)).sum) + q := by omega
      rw [hnew] at hbound
      have HN : Hid (1 + ((ks.take (i + 1)).map (szt b)).sum = (1 + ((ks.take i).map (szt b)).sum) + q) := hnew
      clear hnew
      generalize 1 + ((ks.take i).map (szt b)).sum = sm at *
      clear hle htk hst hsm hm hln hwt hsz h1 hn hk
      go_wp2_with fail
      refine (hok _ (hbw.alloc hswr _)).mono ?_
      rintro e w1 ⟨rfl, hb1⟩
      clear hok x0 x1 x2 x3 x4 x5 ih
      have hbf := (hbw.alloc hswr _).trans (hb1.mono (by simp; omega))
      go_wp2_with fail
      go_roundw
      case rel => exact ⟨i + 1, by rw [HN.out]; go_num, by go_num, by omega, by rw [HN.out]; exact hbound, hbf⟩
      case measure => simp [intOf]; omega
    · obtain rfl : i = ks.length := by omega
      go_wp2_with fail
      go_ret
      exact ⟨by simp, hbw⟩

theorem si_any (b : Nat) (hb : b ≤ 60) : SiOk b := by
  induction b with
  | zero => exact si_zero
  | succ b ih => exact si_succ b (by omega) (ih (by omega))

set_option maxRecDepth 100000 in
set_option maxHeartbeats 800000 in
theorem size_spec (t : Nd) (lo hi : Nat) (v : List Value) (w : World) (hN : NAt w lo hi t v) (hh : hi ≤ w.heap.size) (h1 : wt t ≤ 1048576) :
    Calls Try.prog 12 #[.agg v.toArray] w fun e w' => e = .returned (.int .i64 (szt 60 t : Nat)) ∧ Below w.heap.size w w' := by
  have hok : ∀ W', Below w.heap.size w W' → Calls Try.prog 24 #[.agg v.toArray, .int .i64 60] W' fun e w' => e = .returned (.int .i64 (szt 60 t : Nat)) ∧ Below W'.heap.size W' w' :=
    fun W' hW => sp_any 60 (by decide) t lo hi v 60 W' rfl (hN.below hW hh) (Nat.le_trans hh hW.size) h1
  obtain ⟨k, tx, n, ms, a', ca', y, b', cb', kk, rfl⟩ := nd_cells hN
  go_enter Try.func12, Try.ntmps12
  go_wp2_with fail
  refine (hok _ (bel_alloc _ _)).mono ?_
  rintro e w1 ⟨rfl, hb1⟩
  go_wp2_with fail
  go_ret
  exact ⟨rfl, (bel_alloc _ _).trans (hb1.mono (by simp))⟩

set_option maxRecDepth 100000 in
set_option maxHeartbeats 800000 in
theorem size_impl (t : Nd) (lo hi : Nat) (v : List Value) (w : World) (hN : NAt w lo hi t v) (hh : hi ≤ w.heap.size) (h1 : wt t ≤ 1048576) :
    Calls Try.prog 11 #[.agg v.toArray] w fun e w' => e = .returned (.int .i64 (szt 60 t : Nat)) ∧ Below w.heap.size w w' := by
  have hok : ∀ W', Below w.heap.size w W' → Calls Try.prog 23 #[.agg v.toArray, .int .i64 60] W' fun e w' => e = .returned (.int .i64 (szt 60 t : Nat)) ∧ Below W'.heap.size W' w' :=
    fun W' hW => si_any 60 (by decide) t lo hi v 60 W' rfl (hN.below hW hh) (Nat.le_trans hh hW.size) h1
  obtain ⟨k, tx, n, ms, a', ca', y, b', cb', kk, rfl⟩ := nd_cells hN
  go_enter Try.func11, Try.ntmps11
  go_wp2_with fail
  refine (hok _ (bel_alloc _ _)).mono ?_
  rintro e w1 ⟨rfl, hb1⟩
  go_wp2_with fail
  go_ret
  exact ⟨rfl, (bel_alloc _ _).trans (hb1.mono (by simp))⟩
end Go.Proofs.Ytlmmomffanakiaa
