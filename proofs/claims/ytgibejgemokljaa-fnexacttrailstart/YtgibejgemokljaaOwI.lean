/- Marked rows of things that hold rows are found marked. -/
import Derived.Test.YtgibejgemokljaaOwH
import Derived.Test.YtgibejgemokljaaOwQ
namespace Go.Proofs.Ytgibejgemokljaa
open Go.RowKit

set_option maxRecDepth 100000 in
set_option maxHeartbeats 4000000 in
theorem hdClosureS_any (xs : List ClosureD) (a : Option Addr) (cap K : Nat) (z : Int) (S : Nat → Prop) (w : World) (hS : ∀ b, S b → b < w.heap.size) (hR : RowD 2 ClosureOwn w S (mkR Closuremd Closuremn K xs) a) (hz : z = K) (hK : 0 < K) (hn : K + mnR Closuremn xs ≤ 1099511627776) (hl : xs.length ≤ maxLen) :
    Calls Try.prog 80 #[.slice a xs.length cap, .int .i64 z] w fun e w' => e = .returned (.int .i64 ((K + mnR Closuremn xs : Nat) : Int)) ∧ Below w.heap.size w w' := by
  subst hz
  unfold maxLen at hl
  have hx : ∀ i (h : i < xs.length), ∃ g, a = some ⟨g, 0, none⟩ ∧ g < w.heap.size ∧ ∃ V l, (∀ b, V b → b < w.heap.size) ∧ ClosureOwn w V (Closuremd (K + mnR Closuremn (xs.take i)) xs[i]) l ∧ ∀ j, j < 2 → w.cell? ⟨g, 2 * i + j, none⟩ = l[j]? := fun i h => by
    have hi : i < (mkR Closuremd Closuremn K xs).length := by rw [mkR_len]; exact h
    rcases hR with h' | ⟨g, cs, T, rfl, h2, h3, h4, U, h5, h6⟩
    · have := congrArg List.length h'; rw [mkR_len, List.length_nil] at this; omega
    · obtain ⟨l, hO, _, hc⟩ := h6 i hi
      rw [mkR_get Closuremd Closuremn xs K i hi h] at hO
      exact ⟨g, rfl, hS g h2, U i, l, fun b hb => hS b (h5.within i b hb).1, hO, fun j hj => (cell_of_row _ _ _ _ _ _ h3).trans (hc j hj)⟩
  clear hR hS
  go_enter Try.func80, Try.ntmps80
  go_wp2_with fail
  go_loopw [1, 5] (fun kk aa wr => ∃ i : Nat, kk = .int .i64 ((K + mnR Closuremn (xs.take i) : Nat) : Int) ∧ aa = .int .i64 i ∧ i ≤ xs.length ∧ Below w.heap.size w wr) (fun _ aa _ => xs.length - (intOf aa).toNat)
  case atStart => exact ⟨0, by simp [mnR], rfl, Nat.zero_le _, Below.refl _ _⟩
  case round =>
    rename World => wo
    obtain ⟨i, rfl, rfl, hi, hby⟩ := hrel
    by_cases hlt : i < xs.length
    · obtain ⟨g, rfl, hg, S1, l, hS1, hO0, hcell⟩ := hx i hlt
      have hO := ClosureOwn_keeps.below hS1 hby hO0
      have HSS : Hid (∀ b, S1 b → b < w.heap.size) := hS1
      have ho := mnR_take Closuremn xs i hlt
      have hol := mnR_take_le Closuremn xs (i + 1)
      have hsz := hby.size
      have hgo : g < wo.heap.size := Nat.lt_of_lt_of_le hg hsz
      have HX : Hid (∀ i (h : i < xs.length), ∃ g', some (⟨g, 0, none⟩ : Addr) = some ⟨g', 0, none⟩ ∧ g' < w.heap.size ∧ ∃ V l, (∀ b, V b → b < w.heap.size) ∧ ClosureOwn w V (Closuremd (K + mnR Closuremn (xs.take i)) xs[i]) l ∧ ∀ j, j < 2 → w.cell? ⟨g', 2 * i + j, none⟩ = l[j]?) := hx
      clear hx hS1 hO0
      obtain ⟨x, hxx⟩ : ∃ x, x = xs[i] := ⟨_, rfl⟩
      rw [← hxx] at hO ho
      obtain ⟨N, hN⟩ : ∃ N, N = K + mnR Closuremn (xs.take i) := ⟨_, rfl⟩
      have HNO : Hid (K + mnR Closuremn (xs.take (i + 1)) = N + Closuremn x) := by show _ = _; omega
      have hN0 : 0 < N := by omega
      have hN1 : N + Closuremn x ≤ 1099511627776 := by omega
      rw [← hN] at hO ⊢
      clear hN ho hol hxx
      have hN2 := hN1
      unfold Closuremn at hN2
      obtain ⟨ok, V, pv, a_ups, c_ups, rfl, l_ups, r_ups⟩ := hO
      have h_ups : (Closuremd N x).ups.length = x.ups.length := mkF_len _ _ _ _
      rw [h_ups] at hcell l_ups
      have c0 := (hby.cell (p := ⟨g, 2 * i + 0, none⟩) hg).trans (hcell 0 (by decide))
      have c1 := (hby.cell (p := ⟨g, 2 * i + 1, none⟩) hg).trans (hcell 1 (by decide))
      simp only [List.getElem?_cons_zero, List.getElem?_cons_succ] at c0 c1
      clear hcell
      rw [Nat.add_zero] at c0
      have mW : i * 2 = 2 * i := Nat.mul_comm _ _
      replace c0 : wo.cell? ⟨g, 2 * i, none⟩ = some (.int .i64 ((N : Nat) : Int)) := c0
      have r_ups : RowD 1 IntOwn wo (V 0) (mkF Intmk 1 (N + 1) x.ups.length) a_ups := r_ups
      go_wp2_with fail
      refine (hdIntS_any x.ups.length a_ups c_ups (N + 1) _ _ _ r_ups (by push_cast; omega) (by omega) (by omega)).mono ?_
      rintro e w1 ⟨rfl, hb1⟩
      have B1 := hby.trans (hb1.mono hby.size)
      have s1 := hb1.size
      have c0 := (hb1.cell (p := ⟨g, 2 * i, none⟩) (by show g < _; omega)).trans c0
      have c1 := (hb1.cell (p := ⟨g, 2 * i + 1, none⟩) (by show g < _; omega)).trans c1
      go_wp2_with fail
      go_roundw
      case rel => exact ⟨i + 1, by rw [HNO.out]; exact congrArg (Value.int .i64) (by unfold Closuremn; push_cast; omega), by go_num, by omega, B1⟩
      case measure => simp [intOf]; omega
    · obtain rfl : i = xs.length := by omega
      clear hx
      rw [List.take_length]
      go_wp2_with fail
      go_ret
      exact ⟨rfl, hby⟩
set_option maxRecDepth 100000 in
set_option maxHeartbeats 4000000 in
theorem hdFrameS_any (xs : List FrameD) (a : Option Addr) (cap K : Nat) (z : Int) (S : Nat → Prop) (w : World) (hS : ∀ b, S b → b < w.heap.size) (hR : RowD 6 FrameOwn w S (mkR Framemd Framemn K xs) a) (hz : z = K) (hK : 0 < K) (hn : K + mnR Framemn xs ≤ 1099511627776) (hl : xs.length ≤ maxLen) :
    Calls Try.prog 81 #[.slice a xs.length cap, .int .i64 z] w fun e w' => e = .returned (.int .i64 ((K + mnR Framemn xs : Nat) : Int)) ∧ Below w.heap.size w w' := by
  subst hz
  unfold maxLen at hl
  have hx : ∀ i (h : i < xs.length), ∃ g, a = some ⟨g, 0, none⟩ ∧ g < w.heap.size ∧ ∃ V l, (∀ b, V b → b < w.heap.size) ∧ FrameOwn w V (Framemd (K + mnR Framemn (xs.take i)) xs[i]) l ∧ ∀ j, j < 6 → w.cell? ⟨g, 6 * i + j, none⟩ = l[j]? := fun i h => by
    have hi : i < (mkR Framemd Framemn K xs).length := by rw [mkR_len]; exact h
    rcases hR with h' | ⟨g, cs, T, rfl, h2, h3, h4, U, h5, h6⟩
    · have := congrArg List.length h'; rw [mkR_len, List.length_nil] at this; omega
    · obtain ⟨l, hO, _, hc⟩ := h6 i hi
      rw [mkR_get Framemd Framemn xs K i hi h] at hO
      exact ⟨g, rfl, hS g h2, U i, l, fun b hb => hS b (h5.within i b hb).1, hO, fun j hj => (cell_of_row _ _ _ _ _ _ h3).trans (hc j hj)⟩
  clear hR hS
  go_enter Try.func81, Try.ntmps81
  go_wp2_with fail
  go_loopw [1, 5] (fun kk aa wr => ∃ i : Nat, kk = .int .i64 ((K + mnR Framemn (xs.take i) : Nat) : Int) ∧ aa = .int .i64 i ∧ i ≤ xs.length ∧ Below w.heap.size w wr) (fun _ aa _ => xs.length - (intOf aa).toNat)
  case atStart => exact ⟨0, by simp [mnR], rfl, Nat.zero_le _, Below.refl _ _⟩
  case round =>
    rename World => wo
    obtain ⟨i, rfl, rfl, hi, hby⟩ := hrel
    by_cases hlt : i < xs.length
    · obtain ⟨g, rfl, hg, S1, l, hS1, hO0, hcell⟩ := hx i hlt
      have hO := FrameOwn_keeps.below hS1 hby hO0
      have HSS : Hid (∀ b, S1 b → b < w.heap.size) := hS1
      have ho := mnR_take Framemn xs i hlt
      have hol := mnR_take_le Framemn xs (i + 1)
      have hsz := hby.size
      have hgo : g < wo.heap.size := Nat.lt_of_lt_of_le hg hsz
      have HX : Hid (∀ i (h : i < xs.length), ∃ g', some (⟨g, 0, none⟩ : Addr) = some ⟨g', 0, none⟩ ∧ g' < w.heap.size ∧ ∃ V l, (∀ b, V b → b < w.heap.size) ∧ FrameOwn w V (Framemd (K + mnR Framemn (xs.take i)) xs[i]) l ∧ ∀ j, j < 6 → w.cell? ⟨g', 6 * i + j, none⟩ = l[j]?) := hx
      clear hx hS1 hO0
      obtain ⟨x, hxx⟩ : ∃ x, x = xs[i] := ⟨_, rfl⟩
      rw [← hxx] at hO ho
      obtain ⟨N, hN⟩ : ∃ N, N = K + mnR Framemn (xs.take i) := ⟨_, rfl⟩
      have HNO : Hid (K + mnR Framemn (xs.take (i + 1)) = N + Framemn x) := by show _ = _; omega
      have hN0 : 0 < N := by omega
      have hN1 : N + Framemn x ≤ 1099511627776 := by omega
      rw [← hN] at hO ⊢
      clear hN ho hol hxx
      have hN2 := hN1
      unfold Framemn at hN2
      obtain ⟨ok, V, pv, a_slots, c_slots, a_ups, c_ups, a_stack, c_stack, rfl, l_slots, r_slots, l_ups, r_ups, l_stack, r_stack⟩ := hO
      have h_slots : (Framemd N x).slots.length = x.slots.length := mkF_len _ _ _ _
      rw [h_slots] at hcell l_slots
      have h_ups : (Framemd N x).ups.length = x.ups.length := mkF_len _ _ _ _
      rw [h_ups] at hcell l_ups
      have h_stack : (Framemd N x).stack.length = x.stack.length := mkF_len _ _ _ _
      rw [h_stack] at hcell l_stack
      have c0 := (hby.cell (p := ⟨g, 6 * i + 0, none⟩) hg).trans (hcell 0 (by decide))
      have c1 := (hby.cell (p := ⟨g, 6 * i + 1, none⟩) hg).trans (hcell 1 (by decide))
      have c2 := (hby.cell (p := ⟨g, 6 * i + 2, none⟩) hg).trans (hcell 2 (by decide))
      have c3 := (hby.cell (p := ⟨g, 6 * i + 3, none⟩) hg).trans (hcell 3 (by decide))
      have c4 := (hby.cell (p := ⟨g, 6 * i + 4, none⟩) hg).trans (hcell 4 (by decide))
      have c5 := (hby.cell (p := ⟨g, 6 * i + 5, none⟩) hg).trans (hcell 5 (by decide))
      simp only [List.getElem?_cons_zero, List.getElem?_cons_succ] at c0 c1 c2 c3 c4 c5
      clear hcell
      rw [Nat.add_zero] at c0
      have mW : i * 6 = 6 * i := Nat.mul_comm _ _
      replace c0 : wo.cell? ⟨g, 6 * i, none⟩ = some (.int .i64 ((N : Nat) : Int)) := c0
      replace c1 : wo.cell? ⟨g, 6 * i + 1, none⟩ = some (.int .i64 ((N + 1 : Nat) : Int)) := c1
      replace c5 : wo.cell? ⟨g, 6 * i + 5, none⟩ = some (.bool (((N : Int) + 1 + 1 + (x.slots.length : Int) + (x.ups.length : Int)) % 3 == 0)) := by rw [c5]; exact congrArg (fun b => some (Value.bool b)) (by simp only [Framemd]; rw [Bool.eq_iff_iff]; simp only [decide_eq_true_eq, beq_iff_eq]; omega)
      have r_slots : RowD 1 IntOwn wo (V 0) (mkF Intmk 1 (N + 1 + 1) x.slots.length) a_slots := r_slots
      have r_ups : RowD 1 IntOwn wo (V 1) (mkF Intmk 1 (N + 1 + 1 + 1 * x.slots.length) x.ups.length) a_ups := r_ups
      have r_stack : RowD 3 ValOwn wo (V 2) (mkF Valuemk 3 (N + 1 + 1 + 1 * x.slots.length + 1 * x.ups.length) x.stack.length) a_stack := r_stack
      go_wp2_with fail
      refine (hdIntS_any x.slots.length a_slots c_slots (N + 1 + 1) _ _ _ r_slots (by push_cast; omega) (by omega) (by omega)).mono ?_
      rintro e w1 ⟨rfl, hb1⟩
      have B1 := hby.trans (hb1.mono hby.size)
      have s1 := hb1.size
      have r_ups := r_ups.below IntOwn_keeps (fun b hb => by have := HSS.out b (pv.within 1 b hb); omega) hb1
      have r_stack := r_stack.below ValOwn_keeps (fun b hb => by have := HSS.out b (pv.within 2 b hb); omega) hb1
      have c0 := (hb1.cell (p := ⟨g, 6 * i, none⟩) (by show g < _; omega)).trans c0
      have c1 := (hb1.cell (p := ⟨g, 6 * i + 1, none⟩) (by show g < _; omega)).trans c1
      have c2 := (hb1.cell (p := ⟨g, 6 * i + 2, none⟩) (by show g < _; omega)).trans c2
      have c3 := (hb1.cell (p := ⟨g, 6 * i + 3, none⟩) (by show g < _; omega)).trans c3
      have c4 := (hb1.cell (p := ⟨g, 6 * i + 4, none⟩) (by show g < _; omega)).trans c4
      have c5 := (hb1.cell (p := ⟨g, 6 * i + 5, none⟩) (by show g < _; omega)).trans c5
      go_wp2_with fail
      refine (hdIntS_any x.ups.length a_ups c_ups (N + 1 + 1 + 1 * x.slots.length) _ _ _ r_ups (by push_cast; omega) (by omega) (by omega)).mono ?_
      rintro e w2 ⟨rfl, hb2⟩
      have B2 := B1.trans (hb2.mono B1.size)
      have s2 := hb2.size
      have r_stack := r_stack.below ValOwn_keeps (fun b hb => by have := HSS.out b (pv.within 2 b hb); omega) hb2
      have c0 := (hb2.cell (p := ⟨g, 6 * i, none⟩) (by show g < _; omega)).trans c0
      have c1 := (hb2.cell (p := ⟨g, 6 * i + 1, none⟩) (by show g < _; omega)).trans c1
      have c2 := (hb2.cell (p := ⟨g, 6 * i + 2, none⟩) (by show g < _; omega)).trans c2
      have c3 := (hb2.cell (p := ⟨g, 6 * i + 3, none⟩) (by show g < _; omega)).trans c3
      have c4 := (hb2.cell (p := ⟨g, 6 * i + 4, none⟩) (by show g < _; omega)).trans c4
      have c5 := (hb2.cell (p := ⟨g, 6 * i + 5, none⟩) (by show g < _; omega)).trans c5
      go_wp2_with fail
      refine (hdValueS_any x.stack.length a_stack c_stack (N + 1 + 1 + 1 * x.slots.length + 1 * x.ups.length) _ _ _ r_stack (by push_cast; omega) (by omega) (by omega)).mono ?_
      rintro e w3 ⟨rfl, hb3⟩
      have B3 := B2.trans (hb3.mono B2.size)
      have s3 := hb3.size
      have c0 := (hb3.cell (p := ⟨g, 6 * i, none⟩) (by show g < _; omega)).trans c0
      have c1 := (hb3.cell (p := ⟨g, 6 * i + 1, none⟩) (by show g < _; omega)).trans c1
      have c2 := (hb3.cell (p := ⟨g, 6 * i + 2, none⟩) (by show g < _; omega)).trans c2
      have c3 := (hb3.cell (p := ⟨g, 6 * i + 3, none⟩) (by show g < _; omega)).trans c3
      have c4 := (hb3.cell (p := ⟨g, 6 * i + 4, none⟩) (by show g < _; omega)).trans c4
      have c5 := (hb3.cell (p := ⟨g, 6 * i + 5, none⟩) (by show g < _; omega)).trans c5
      go_wp2_with fail
      go_roundw
      case rel => exact ⟨i + 1, by rw [HNO.out]; exact congrArg (Value.int .i64) (by unfold Framemn; push_cast; omega), by go_num, by omega, B3⟩
      case measure => simp [intOf]; omega
    · obtain rfl : i = xs.length := by omega
      clear hx
      rw [List.take_length]
      go_wp2_with fail
      go_ret
      exact ⟨rfl, hby⟩
set_option maxRecDepth 100000 in
set_option maxHeartbeats 4000000 in
theorem hdPairSS_any (xs : List (List PairD)) (a : Option Addr) (cap K : Nat) (z : Int) (S : Nat → Prop) (w : World) (hS : ∀ b, S b → b < w.heap.size) (hR : RowD 1 PairSOwn w S (mkR PairSmd PairSmn K xs) a) (hz : z = K) (hK : 0 < K) (hn : K + mnR PairSmn xs ≤ 1099511627776) (hl : xs.length ≤ maxLen) :
    Calls Try.prog 114 #[.slice a xs.length cap, .int .i64 z] w fun e w' => e = .returned (.int .i64 ((K + mnR PairSmn xs : Nat) : Int)) ∧ Below w.heap.size w w' := by
  subst hz
  unfold maxLen at hl
  have hx : ∀ i (h : i < xs.length), ∃ g, a = some ⟨g, 0, none⟩ ∧ g < w.heap.size ∧ ∃ V l, (∀ b, V b → b < w.heap.size) ∧ PairSOwn w V (PairSmd (K + mnR PairSmn (xs.take i)) xs[i]) l ∧ ∀ j, j < 1 → w.cell? ⟨g, 1 * i + j, none⟩ = l[j]? := fun i h => by
    have hi : i < (mkR PairSmd PairSmn K xs).length := by rw [mkR_len]; exact h
    rcases hR with h' | ⟨g, cs, T, rfl, h2, h3, h4, U, h5, h6⟩
    · have := congrArg List.length h'; rw [mkR_len, List.length_nil] at this; omega
    · obtain ⟨l, hO, _, hc⟩ := h6 i hi
      rw [mkR_get PairSmd PairSmn xs K i hi h] at hO
      exact ⟨g, rfl, hS g h2, U i, l, fun b hb => hS b (h5.within i b hb).1, hO, fun j hj => (cell_of_row _ _ _ _ _ _ h3).trans (hc j hj)⟩
  clear hR hS
  go_enter Try.func114, Try.ntmps114
  go_wp2_with fail
  go_loopw [1, 5] (fun kk aa wr => ∃ i : Nat, kk = .int .i64 ((K + mnR PairSmn (xs.take i) : Nat) : Int) ∧ aa = .int .i64 i ∧ i ≤ xs.length ∧ Below w.heap.size w wr) (fun _ aa _ => xs.length - (intOf aa).toNat)
  case atStart => exact ⟨0, by simp [mnR], rfl, Nat.zero_le _, Below.refl _ _⟩
  case round =>
    rename World => wo
    obtain ⟨i, rfl, rfl, hi, hby⟩ := hrel
    by_cases hlt : i < xs.length
    · obtain ⟨g, rfl, hg, S1, l, hS1, hO0, hcell⟩ := hx i hlt
      have hO := PairSOwn_keeps.below hS1 hby hO0
      have HSS : Hid (∀ b, S1 b → b < w.heap.size) := hS1
      have ho := mnR_take PairSmn xs i hlt
      have hol := mnR_take_le PairSmn xs (i + 1)
      have hsz := hby.size
      have hgo : g < wo.heap.size := Nat.lt_of_lt_of_le hg hsz
      have HX : Hid (∀ i (h : i < xs.length), ∃ g', some (⟨g, 0, none⟩ : Addr) = some ⟨g', 0, none⟩ ∧ g' < w.heap.size ∧ ∃ V l, (∀ b, V b → b < w.heap.size) ∧ PairSOwn w V (PairSmd (K + mnR PairSmn (xs.take i)) xs[i]) l ∧ ∀ j, j < 1 → w.cell? ⟨g', 1 * i + j, none⟩ = l[j]?) := hx
      clear hx hS1 hO0
      obtain ⟨x, hxx⟩ : ∃ x, x = xs[i] := ⟨_, rfl⟩
      rw [← hxx] at hO ho
      obtain ⟨N, hN⟩ : ∃ N, N = K + mnR PairSmn (xs.take i) := ⟨_, rfl⟩
      have HNO : Hid (K + mnR PairSmn (xs.take (i + 1)) = N + PairSmn x) := by show _ = _; omega
      have hN0 : 0 < N := by omega
      have hN1 : N + PairSmn x ≤ 1099511627776 := by omega
      rw [← hN] at hO ⊢
      clear hN ho hol hxx
      have hN2 := hN1
      unfold PairSmn at hN2
      obtain ⟨ok, a_p, c_p, rfl, r_p⟩ := hO
      have h_p : (PairSmd N x).length = x.length := mkF_len _ _ _ _
      rw [h_p] at hcell
      have c0 := (hby.cell (p := ⟨g, 1 * i + 0, none⟩) hg).trans (hcell 0 (by decide))
      simp only [List.getElem?_cons_zero] at c0
      clear hcell
      rw [Nat.one_mul, Nat.add_zero] at c0
      have r_p : RowD 6 PairOwn wo S1 (mkF Pairmk 6 (N) x.length) a_p := r_p
      go_wp2_with fail
      refine (hdPairS_any x.length a_p c_p (N) _ _ _ r_p (by push_cast; omega) (by omega) (by omega)).mono ?_
      rintro e w1 ⟨rfl, hb1⟩
      have B1 := hby.trans (hb1.mono hby.size)
      have s1 := hb1.size
      have c0 := (hb1.cell (p := ⟨g, i, none⟩) (by show g < _; omega)).trans c0
      go_wp2_with fail
      go_roundw
      case rel => exact ⟨i + 1, by rw [HNO.out]; exact congrArg (Value.int .i64) (by unfold PairSmn; push_cast; omega), by go_num, by omega, B1⟩
      case measure => simp [intOf]; omega
    · obtain rfl : i = xs.length := by omega
      clear hx
      rw [List.take_length]
      go_wp2_with fail
      go_ret
      exact ⟨rfl, hby⟩
end Go.Proofs.Ytgibejgemokljaa
