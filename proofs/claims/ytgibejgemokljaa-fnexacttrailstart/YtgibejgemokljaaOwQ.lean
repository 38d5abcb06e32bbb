/- Rows of things that hold rows are marked. -/
import Derived.Test.YtgibejgemokljaaOwN
namespace Go.Proofs.Ytgibejgemokljaa
open Go.RowKit

theorem parts1 (S : Nat → Prop) : Parts (V5 S (fun _ => False) (fun _ => False) (fun _ => False) (fun _ => False)) S :=
  ⟨fun j b hb => by
    match j, hb with
    | 0, hb => exact hb
    | 1, hb => exact hb.elim
    | 2, hb => exact hb.elim
    | 3, hb => exact hb.elim
    | 4, hb => exact hb.elim
    | n + 5, hb => exact hb.elim,
   fun i j b hb hc => by
    match i, hb, j, hc with
    | 0, _, 0, _ => rfl
    | 1, hb, _, _ => exact hb.elim
    | 2, hb, _, _ => exact hb.elim
    | 3, hb, _, _ => exact hb.elim
    | 4, hb, _, _ => exact hb.elim
    | n + 5, hb, _, _ => exact hb.elim
    | 0, _, 1, hc => exact hc.elim
    | 0, _, 2, hc => exact hc.elim
    | 0, _, 3, hc => exact hc.elim
    | 0, _, 4, hc => exact hc.elim
    | 0, _, n + 5, hc => exact hc.elim⟩
theorem sib_ne {cs : Array Value} {n m : Nat} {v : Value} (h : n ≠ m) : (cs.setIfInBounds n v)[m]? = cs[m]? := by rw [Array.getElem?_setIfInBounds, if_neg h]
theorem sib_eq {cs : Array Value} {n : Nat} {v : Value} (h : n < cs.size) : (cs.setIfInBounds n v)[n]? = some v := by rw [Array.getElem?_setIfInBounds, if_pos rfl, if_pos h]
def Closuremn (x : ClosureD) : Nat := 1 + 1 * x.ups.length
def Closuremd (K : Nat) (x : ClosureD) : ClosureD := ⟨((K : Nat) : Int), mkF Intmk 1 (K + 1) x.ups.length⟩
theorem Closuremd_own (x : ClosureD) (N : Nat) (a_ups : Option Addr) (c_ups : Nat) (V : Nat → Nat → Prop) (S : Nat → Prop) (w : World) (pv : Parts V S) (l_ups : x.ups.length ≤ maxLen) (r_ups : RowD 1 IntOwn w (V 0) (mkF Intmk 1 (N + 1) x.ups.length) a_ups) (h : N + Closuremn x ≤ 1099511627776) : ClosureOwn w S (Closuremd N x) [.int .i64 ((N : Nat) : Int), .slice a_ups x.ups.length c_ups] := by
  unfold Closuremn at h
  have h_ups : (Closuremd N x).ups.length = x.ups.length := mkF_len _ _ _ _
  exact ⟨⟨⟨by simp only [Closuremd]; omega, by simp only [Closuremd]; omega⟩, (by rw [show (Closuremd N x).ups.length = x.ups.length from h_ups]; exact l_ups)⟩, V, pv, a_ups, c_ups, by rw [h_ups]; rfl, (by rw [h_ups]; exact l_ups), r_ups⟩
set_option maxRecDepth 100000 in
set_option maxHeartbeats 4000000 in
theorem mkClosureS_none (b : Option Addr) (cap K : Nat) (w : World) :
    Calls Try.prog 76 #[.slice b 0 cap, .int .i64 (K : Int)] w fun e w' => e = .returned (.int .i64 (K : Int)) ∧ w = w' := by
  go_enter Try.func76, Try.ntmps76
  go_wp2_with fail
  refine wp_loop_rounds 1 ?_
  rw [rounds_succ]
  go_wp2_with fail
  go_ret
  exact ⟨rfl, rfl⟩
set_option maxRecDepth 100000 in
set_option maxHeartbeats 4000000 in
theorem mkClosureS_any (xs : List ClosureD) (a : Option Addr) (cap K : Nat) (z : Int) (S : Nat → Prop) (w : World) (hS : ∀ b, S b → b < w.heap.size) (hR : RowD 2 ClosureOwn w S xs a) (hz : z = K) (hK : 0 < K) (hn : K + mnR Closuremn xs ≤ 1099511627776) (hl : xs.length ≤ maxLen) :
    Calls Try.prog 76 #[.slice a xs.length cap, .int .i64 z] w fun e w' => e = .returned (.int .i64 ((K + mnR Closuremn xs : Nat) : Int)) ∧ RowD 2 ClosureOwn w' S (mkR Closuremd Closuremn K xs) a ∧ Outs S w w' := by
  subst hz
  rcases hR with rfl | ⟨g, cs0, T, rfl, h2, h3, h4, U, h5, h6⟩
  · refine (mkClosureS_none a cap K w).mono ?_
    rintro e w' ⟨rfl, rfl⟩
    exact ⟨by simp [mnR], .inl rfl, Outs.refl _ _⟩
  · unfold maxLen at hl
    have hgS := hS g h2
    go_enter Try.func76, Try.ntmps76
    go_wp2_with fail
    go_loopw [1, 5] (fun kk a wr => ∃ (i : Nat) (cs : Array Value), kk = .int .i64 ((K + mnR Closuremn (xs.take i) : Nat) : Int) ∧ a = .int .i64 i ∧ i ≤ xs.length ∧ Outs S w wr ∧ wr.heap[g]? = some (.cells cs T (0, 0)) ∧ cs.size = cs0.size ∧ (∀ m (h : m < xs.length), m < i → ∃ l, ClosureOwn wr (U m) (Closuremd (K + mnR Closuremn (xs.take m)) xs[m]) l ∧ l.length = 2 ∧ ∀ j, j < 2 → cs[2 * m + j]? = l[j]?) ∧ (∀ m (h : m < xs.length), i ≤ m → ∃ l, ClosureOwn wr (U m) xs[m] l ∧ l.length = 2 ∧ ∀ j, j < 2 → cs[2 * m + j]? = l[j]?)) (fun _ a _ => xs.length - (intOf a).toNat)
    case atStart => exact ⟨0, cs0, by simp [mnR], rfl, Nat.zero_le _, Outs.refl _ _, h3, rfl, fun m _ hm => absurd hm (Nat.not_lt_zero _), fun m h _ => h6 m h⟩
    case round =>
      rename World => wo
      obtain ⟨i, cs, rfl, rfl, hi, hby, hrow, hcs, hd, ht⟩ := hrel
      by_cases hlt : i < xs.length
      · obtain ⟨l, hO, _, hcell⟩ := ht i hlt (Nat.le_refl _)
        have ho := mnR_take Closuremn xs i hlt
        have hol := mnR_take_le Closuremn xs (i + 1)
        have hsz := hby.size
        have HD : Hid (∀ m (h : m < xs.length), m < i → ∃ l, ClosureOwn wo (U m) (Closuremd (K + mnR Closuremn (xs.take m)) xs[m]) l ∧ l.length = 2 ∧ ∀ j, j < 2 → cs[2 * m + j]? = l[j]?) := hd
        have HT : Hid (∀ m (h : m < xs.length), i ≤ m → ∃ l, ClosureOwn wo (U m) xs[m] l ∧ l.length = 2 ∧ ∀ j, j < 2 → cs[2 * m + j]? = l[j]?) := ht
        have HBY : Hid (Outs S w wo) := hby
        have HH5 : Hid (Parts U (fun b => S b ∧ b ≠ g)) := h5
        have HSS : Hid (∀ b, S b → b < w.heap.size) := hS
        have HG : Hid (S g) := h2
        have HU : Hid (∀ b, U i b → S b ∧ b ≠ g) := h5.within i
        clear hd ht hby h5 h6 hS h2
        obtain ⟨x, hx⟩ : ∃ x, x = xs[i] := ⟨_, rfl⟩
        rw [← hx] at hO ho
        have HX : Hid (x = xs[i]) := hx
        obtain ⟨N, hN⟩ : ∃ N, N = K + mnR Closuremn (xs.take i) := ⟨_, rfl⟩
        have HN : Hid (N = K + mnR Closuremn (xs.take i)) := hN
        have HNO : Hid (K + mnR Closuremn (xs.take (i + 1)) = N + Closuremn x) := by show _ = _; omega
        have hN0 : 0 < N := by omega
        have hN1 : N + Closuremn x ≤ 1099511627776 := by omega
        rw [← hN]
        clear hx hN ho hol
        have hN2 := hN1
        unfold Closuremn at hN2
        obtain ⟨ok, V, pv, a_ups, c_ups, rfl, l_ups, r_ups⟩ := hO
        have c0 := hcell 0 (by decide)
        have c1 := hcell 1 (by decide)
        simp only [List.getElem?_cons_zero, List.getElem?_cons_succ] at c0 c1
        clear hcell
        rw [Nat.add_zero] at c0
        have mW : i * 2 = 2 * i := Nat.mul_comm _ _
        have R0 : Hid (wo.heap[g]? = some (.cells cs T (0, 0))) := hrow
        have z0 := hcs
        have O0 : Outs (fun b => b = g ∨ U i b) wo wo := Outs.refl _ _
        have s0 : wo.heap.size ≤ wo.heap.size := Nat.le_refl _
        have f0 := frozen_of_row wo g (2 * i) _ _ R0.out
        have e0 := (cell_of_row wo g (2 * i) _ _ (0, 0) R0.out).trans c0
        have f1 := frozen_of_row wo g (2 * i + 1) _ _ R0.out
        have e1 := (cell_of_row wo g (2 * i + 1) _ _ (0, 0) R0.out).trans c1
        clear hrow
        go_wp2_with fail
        refine (mkIntS_any x.ups a_ups c_ups (N + 1) _ _ _ (r_ups.set IntOwn_keeps _ _ (fun b hb => (HU.out b (pv.within 0 b hb)).2)) (by push_cast; omega) (by omega) (by omega)).mono ?_
        rintro e w1 ⟨rfl, rN, oN⟩
        have hgs : g < wo.heap.size := (Array.getElem?_eq_some_iff.1 R0.out).1
        have hgv : ¬ ((fun b => V 0 b) g) := fun hc => (HU.out g (pv.within 0 g hc)).2 rfl
        have r1 := (oN.block g (by simp; omega) hgv).trans (heap_setCell_same _ g _ _ T _ R0.out)
        have O1 : Outs (fun b => b = g ∨ U i b) wo w1 := (O0.set _ _ (.inl rfl)).trans (oN.wide fun b hb => .inr (pv.within 0 b hb))
        have s1 : wo.heap.size ≤ w1.heap.size := O1.size
        have r_ups := rN
        obtain ⟨cs1, R1, P1, z1, c0, c1⟩ : ∃ y : Array Value, Hid (w1.heap[g]? = some (.cells y T (0, 0))) ∧ Hid (∀ p, (p < 2 * i ∨ 2 * i + 2 ≤ p) → y[p]? = cs[p]?) ∧ y.size = cs0.size ∧ y[2 * i]? = some (.int .i64 ((N : Nat) : Int)) ∧ y[2 * i + 1]? = some (.slice a_ups x.ups.length c_ups) := ⟨_, r1, fun p hp => (sib_ne (by omega)).trans (rfl), by simp [z0], (sib_eq (by omega)), ((sib_ne (by omega)).trans c1)⟩
        clear r1 hgs hgv rN oN e0 f0 e1 f1
        have f0 := frozen_of_row w1 g (2 * i) _ _ R1.out
        have e0 := (cell_of_row w1 g (2 * i) _ _ (0, 0) R1.out).trans c0
        have f1 := frozen_of_row w1 g (2 * i + 1) _ _ R1.out
        have e1 := (cell_of_row w1 g (2 * i + 1) _ _ (0, 0) R1.out).trans c1
        go_wp2_with fail
        go_roundw
        case rel =>
          obtain ⟨wf, hwf⟩ : ∃ wf, wf = w1 := ⟨_, rfl⟩
          have Rf : Hid (wf.heap[g]? = some (.cells cs1 T (0, 0))) := by rw [hwf]; exact R1.out
          have Of : Outs (fun b => b = g ∨ U i b) wo wf := by rw [hwf]; exact O1
          have r_ups : RowD 1 IntOwn wf (V 0) (mkF Intmk 1 (N + 1) x.ups.length) a_ups := by rw [hwf]; exact r_ups
          have d0 : cs1[2 * i]? = some (.int .i64 ((N : Nat) : Int)) := c0
          have d1 : cs1[2 * i + 1]? = some (.slice a_ups x.ups.length c_ups) := c1
          have Pf : ∀ p, (p < 2 * i ∨ 2 * i + 2 ≤ p) → cs1[p]? = cs[p]? := fun p hp => P1.out p hp
          have zf : cs1.size = cs0.size := by simpa using z1
          have hfin : ∀ m, ¬ m = i → ∀ b, U m b → wf.heap[b]? = wo.heap[b]? := fun m hm b hb => Of.block b (by have := HSS.out b (HH5.out.within m b hb).1; omega) (fun hc => by rcases hc with hc | hc; exact (HH5.out.within m b hb).2 hc; exact hm (HH5.out.apart m i b hb hc))
          rw [← hwf]
          clear hwf
          skip
          refine ⟨i + 1, cs1, by rw [HNO.out]; exact congrArg (Value.int .i64) (by unfold Closuremn; push_cast; omega), by go_num, by omega, HBY.out.trans (Of.wide fun b hb => by rcases hb with rfl | hb; exact HG.out; exact (HU.out b hb).1), Rf.out, zf, fun m h hm => ?_, fun m h hm => ?_⟩
          · by_cases hmi : m = i
            · subst hmi
              rw [← HX.out, ← HN.out]
              exact ⟨_, Closuremd_own x N a_ups c_ups V (U m) wf pv l_ups r_ups hN1, rfl, fun j hj => by
                match j, hj with
                | 0, _ => exact d0
                | 1, _ => exact d1⟩
            · obtain ⟨l, h1, h2, h3⟩ := HD.out m h (by omega)
              exact ⟨l, ClosureOwn_keeps _ _ _ _ _ _ (fun _ h => h) (hfin m hmi) h1, h2, fun j hj => (Pf _ (by omega)).trans (h3 j hj)⟩
          · obtain ⟨l, h1, h2, h3⟩ := HT.out m h (by omega)
            exact ⟨l, ClosureOwn_keeps _ _ _ _ _ _ (fun _ h => h) (hfin m (by omega)) h1, h2, fun j hj => (Pf _ (by omega)).trans (h3 j hj)⟩
        case measure => simp [intOf]; omega
      · obtain rfl : i = xs.length := by omega
        have HD : Hid (∀ m (h : m < xs.length), m < xs.length → ∃ l, ClosureOwn wo (U m) (Closuremd (K + mnR Closuremn (xs.take m)) xs[m]) l ∧ l.length = 2 ∧ ∀ j, j < 2 → cs[2 * m + j]? = l[j]?) := hd
        clear hd ht
        rw [List.take_length] at *
        go_wp2_with fail
        go_ret
        exact ⟨rfl, .inr ⟨g, cs, T, rfl, h2, hrow, by rw [mkR_len, hcs]; exact h4, U, h5, fun m h => by
          have h' : m < xs.length := by rw [mkR_len] at h; exact h
          rw [mkR_get Closuremd Closuremn xs K m h h']
          exact HD.out m h' h'⟩, hby⟩
def Framemn (x : FrameD) : Nat := 1 + 1 + 1 * x.slots.length + 1 * x.ups.length + 3 * x.stack.length + 1
def Framemd (K : Nat) (x : FrameD) : FrameD := ⟨((K : Nat) : Int), ((K + 1 : Nat) : Int), mkF Intmk 1 (K + 1 + 1) x.slots.length, mkF Intmk 1 (K + 1 + 1 + 1 * x.slots.length) x.ups.length, mkF Valuemk 3 (K + 1 + 1 + 1 * x.slots.length + 1 * x.ups.length) x.stack.length, decide (((K + 1 + 1 + 1 * x.slots.length + 1 * x.ups.length + 3 * x.stack.length : Nat) : Int) % 3 = 0)⟩
theorem Framemd_own (x : FrameD) (N : Nat) (a_slots : Option Addr) (c_slots : Nat) (a_ups : Option Addr) (c_ups : Nat) (a_stack : Option Addr) (c_stack : Nat) (V : Nat → Nat → Prop) (S : Nat → Prop) (w : World) (pv : Parts V S) (l_slots : x.slots.length ≤ maxLen) (r_slots : RowD 1 IntOwn w (V 0) (mkF Intmk 1 (N + 1 + 1) x.slots.length) a_slots) (l_ups : x.ups.length ≤ maxLen) (r_ups : RowD 1 IntOwn w (V 1) (mkF Intmk 1 (N + 1 + 1 + 1 * x.slots.length) x.ups.length) a_ups) (l_stack : x.stack.length ≤ maxLen) (r_stack : RowD 3 ValOwn w (V 2) (mkF Valuemk 3 (N + 1 + 1 + 1 * x.slots.length + 1 * x.ups.length) x.stack.length) a_stack) (h : N + Framemn x ≤ 1099511627776) : FrameOwn w S (Framemd N x) [.int .i64 ((N : Nat) : Int), .int .i64 ((N + 1 : Nat) : Int), .slice a_slots x.slots.length c_slots, .slice a_ups x.ups.length c_ups, .slice a_stack x.stack.length c_stack, .bool (decide (((N + 1 + 1 + 1 * x.slots.length + 1 * x.ups.length + 3 * x.stack.length : Nat) : Int) % 3 = 0))] := by
  unfold Framemn at h
  have h_slots : (Framemd N x).slots.length = x.slots.length := mkF_len _ _ _ _
  have h_ups : (Framemd N x).ups.length = x.ups.length := mkF_len _ _ _ _
  have h_stack : (Framemd N x).stack.length = x.stack.length := mkF_len _ _ _ _
  exact ⟨⟨⟨by simp only [Framemd]; omega, by simp only [Framemd]; omega⟩, ⟨by simp only [Framemd]; omega, by simp only [Framemd]; omega⟩, (by rw [show (Framemd N x).slots.length = x.slots.length from h_slots]; exact l_slots), (by rw [show (Framemd N x).ups.length = x.ups.length from h_ups]; exact l_ups), (by rw [show (Framemd N x).stack.length = x.stack.length from h_stack]; exact l_stack), trivial⟩, V, pv, a_slots, c_slots, a_ups, c_ups, a_stack, c_stack, by rw [h_slots, h_ups, h_stack]; rfl, (by rw [h_slots]; exact l_slots), r_slots, (by rw [h_ups]; exact l_ups), r_ups, (by rw [h_stack]; exact l_stack), r_stack⟩
set_option maxRecDepth 100000 in
set_option maxHeartbeats 4000000 in
theorem mkFrameS_none (b : Option Addr) (cap K : Nat) (w : World) :
    Calls Try.prog 77 #[.slice b 0 cap, .int .i64 (K : Int)] w fun e w' => e = .returned (.int .i64 (K : Int)) ∧ w = w' := by
  go_enter Try.func77, Try.ntmps77
  go_wp2_with fail
  refine wp_loop_rounds 1 ?_
  rw [rounds_succ]
  go_wp2_with fail
  go_ret
  exact ⟨rfl, rfl⟩
set_option maxRecDepth 100000 in
set_option maxHeartbeats 4000000 in
theorem mkFrameS_any (xs : List FrameD) (a : Option Addr) (cap K : Nat) (z : Int) (S : Nat → Prop) (w : World) (hS : ∀ b, S b → b < w.heap.size) (hR : RowD 6 FrameOwn w S xs a) (hz : z = K) (hK : 0 < K) (hn : K + mnR Framemn xs ≤ 1099511627776) (hl : xs.length ≤ maxLen) :
    Calls Try.prog 77 #[.slice a xs.length cap, .int .i64 z] w fun e w' => e = .returned (.int .i64 ((K + mnR Framemn xs : Nat) : Int)) ∧ RowD 6 FrameOwn w' S (mkR Framemd Framemn K xs) a ∧ Outs S w w' := by
  subst hz
  rcases hR with rfl | ⟨g, cs0, T, rfl, h2, h3, h4, U, h5, h6⟩
  · refine (mkFrameS_none a cap K w).mono ?_
    rintro e w' ⟨rfl, rfl⟩
    exact ⟨by simp [mnR], .inl rfl, Outs.refl _ _⟩
  · unfold maxLen at hl
    have hgS := hS g h2
    go_enter Try.func77, Try.ntmps77
    go_wp2_with fail
    go_loopw [1, 5] (fun kk a wr => ∃ (i : Nat) (cs : Array Value), kk = .int .i64 ((K + mnR Framemn (xs.take i) : Nat) : Int) ∧ a = .int .i64 i ∧ i ≤ xs.length ∧ Outs S w wr ∧ wr.heap[g]? = some (.cells cs T (0, 0)) ∧ cs.size = cs0.size ∧ (∀ m (h : m < xs.length), m < i → ∃ l, FrameOwn wr (U m) (Framemd (K + mnR Framemn (xs.take m)) xs[m]) l ∧ l.length = 6 ∧ ∀ j, j < 6 → cs[6 * m + j]? = l[j]?) ∧ (∀ m (h : m < xs.length), i ≤ m → ∃ l, FrameOwn wr (U m) xs[m] l ∧ l.length = 6 ∧ ∀ j, j < 6 → cs[6 * m + j]? = l[j]?)) (fun _ a _ => xs.length - (intOf a).toNat)
    case atStart => exact ⟨0, cs0, by simp [mnR], rfl, Nat.zero_le _, Outs.refl _ _, h3, rfl, fun m _ hm => absurd hm (Nat.not_lt_zero _), fun m h _ => h6 m h⟩
    case round =>
      rename World => wo
      obtain ⟨i, cs, rfl, rfl, hi, hby, hrow, hcs, hd, ht⟩ := hrel
      by_cases hlt : i < xs.length
      · obtain ⟨l, hO, _, hcell⟩ := ht i hlt (Nat.le_refl _)
        have ho := mnR_take Framemn xs i hlt
        have hol := mnR_take_le Framemn xs (i + 1)
        have hsz := hby.size
        have HD : Hid (∀ m (h : m < xs.length), m < i → ∃ l, FrameOwn wo (U m) (Framemd (K + mnR Framemn (xs.take m)) xs[m]) l ∧ l.length = 6 ∧ ∀ j, j < 6 → cs[6 * m + j]? = l[j]?) := hd
        have HT : Hid (∀ m (h : m < xs.length), i ≤ m → ∃ l, FrameOwn wo (U m) xs[m] l ∧ l.length = 6 ∧ ∀ j, j < 6 → cs[6 * m + j]? = l[j]?) := ht
        have HBY : Hid (Outs S w wo) := hby
        have HH5 : Hid (Parts U (fun b => S b ∧ b ≠ g)) := h5
        have HSS : Hid (∀ b, S b → b < w.heap.size) := hS
        have HG : Hid (S g) := h2
        have HU : Hid (∀ b, U i b → S b ∧ b ≠ g) := h5.within i
        clear hd ht hby h5 h6 hS h2
        obtain ⟨x, hx⟩ : ∃ x, x = xs[i] := ⟨_, rfl⟩
        rw [← hx] at hO ho
        have HX : Hid (x = xs[i]) := hx
        obtain ⟨N, hN⟩ : ∃ N, N = K + mnR Framemn (xs.take i) := ⟨_, rfl⟩
        have HN : Hid (N = K + mnR Framemn (xs.take i)) := hN
        have HNO : Hid (K + mnR Framemn (xs.take (i + 1)) = N + Framemn x) := by show _ = _; omega
        have hN0 : 0 < N := by omega
        have hN1 : N + Framemn x ≤ 1099511627776 := by omega
        rw [← hN]
        clear hx hN ho hol
        have hN2 := hN1
        unfold Framemn at hN2
        obtain ⟨ok, V, pv, a_slots, c_slots, a_ups, c_ups, a_stack, c_stack, rfl, l_slots, r_slots, l_ups, r_ups, l_stack, r_stack⟩ := hO
        have c0 := hcell 0 (by decide)
        have c1 := hcell 1 (by decide)
        have c2 := hcell 2 (by decide)
        have c3 := hcell 3 (by decide)
        have c4 := hcell 4 (by decide)
        have c5 := hcell 5 (by decide)
        simp only [List.getElem?_cons_zero, List.getElem?_cons_succ] at c0 c1 c2 c3 c4 c5
        clear hcell
        rw [Nat.add_zero] at c0
        have mW : i * 6 = 6 * i := Nat.mul_comm _ _
        have R0 : Hid (wo.heap[g]? = some (.cells cs T (0, 0))) := hrow
        have z0 := hcs
        have O0 : Outs (fun b => b = g ∨ U i b) wo wo := Outs.refl _ _
        have s0 : wo.heap.size ≤ wo.heap.size := Nat.le_refl _
        have f0 := frozen_of_row wo g (6 * i) _ _ R0.out
        have e0 := (cell_of_row wo g (6 * i) _ _ (0, 0) R0.out).trans c0
        have f1 := frozen_of_row wo g (6 * i + 1) _ _ R0.out
        have e1 := (cell_of_row wo g (6 * i + 1) _ _ (0, 0) R0.out).trans c1
        have f2 := frozen_of_row wo g (6 * i + 2) _ _ R0.out
        have e2 := (cell_of_row wo g (6 * i + 2) _ _ (0, 0) R0.out).trans c2
        have f3 := frozen_of_row wo g (6 * i + 3) _ _ R0.out
        have e3 := (cell_of_row wo g (6 * i + 3) _ _ (0, 0) R0.out).trans c3
        have f4 := frozen_of_row wo g (6 * i + 4) _ _ R0.out
        have e4 := (cell_of_row wo g (6 * i + 4) _ _ (0, 0) R0.out).trans c4
        have f5 := frozen_of_row wo g (6 * i + 5) _ _ R0.out
        have e5 := (cell_of_row wo g (6 * i + 5) _ _ (0, 0) R0.out).trans c5
        clear hrow
        go_wp2_with fail
        refine (mkIntS_any x.slots a_slots c_slots (N + 1 + 1) _ _ _ ((r_slots.set IntOwn_keeps _ _ (fun b hb => (HU.out b (pv.within 0 b hb)).2)).set IntOwn_keeps _ _ (fun b hb => (HU.out b (pv.within 0 b hb)).2)) (by push_cast; omega) (by omega) (by omega)).mono ?_
        rintro e w1 ⟨rfl, rN, oN⟩
        have hgs : g < wo.heap.size := (Array.getElem?_eq_some_iff.1 R0.out).1
        have hgv : ¬ ((fun b => V 0 b) g) := fun hc => (HU.out g (pv.within 0 g hc)).2 rfl
        have r1 := (oN.block g (by simp; omega) hgv).trans (heap_setCell_same _ g _ _ T _ (heap_setCell_same _ g _ _ T _ R0.out))
        have O1 : Outs (fun b => b = g ∨ U i b) wo w1 := ((O0.set _ _ (.inl rfl)).set _ _ (.inl rfl)).trans (oN.wide fun b hb => .inr (pv.within 0 b hb))
        have s1 : wo.heap.size ≤ w1.heap.size := O1.size
        have r_ups := ((r_ups.set IntOwn_keeps _ _ (fun b hb => (HU.out b (pv.within 1 b hb)).2)).set IntOwn_keeps _ _ (fun b hb => (HU.out b (pv.within 1 b hb)).2)).later IntOwn_keeps (fun _ h => h) (fun b hb => oN.block b (by have := HSS.out b (HU.out b (pv.within 1 b hb)).1; simp; omega) (fun hc => by have := pv.apart 1 0 b hb hc; omega))
        have r_stack := ((r_stack.set ValOwn_keeps _ _ (fun b hb => (HU.out b (pv.within 2 b hb)).2)).set ValOwn_keeps _ _ (fun b hb => (HU.out b (pv.within 2 b hb)).2)).later ValOwn_keeps (fun _ h => h) (fun b hb => oN.block b (by have := HSS.out b (HU.out b (pv.within 2 b hb)).1; simp; omega) (fun hc => by have := pv.apart 2 0 b hb hc; omega))
        have r_slots := rN
        obtain ⟨cs1, R1, P1, z1, c0, c1, c2, c3, c4, c5⟩ : ∃ y : Array Value, Hid (w1.heap[g]? = some (.cells y T (0, 0))) ∧ Hid (∀ p, (p < 6 * i ∨ 6 * i + 6 ≤ p) → y[p]? = cs[p]?) ∧ y.size = cs0.size ∧ y[6 * i]? = some (.int .i64 ((N : Nat) : Int)) ∧ y[6 * i + 1]? = some (.int .i64 ((N + 1 : Nat) : Int)) ∧ y[6 * i + 2]? = some (.slice a_slots x.slots.length c_slots) ∧ y[6 * i + 3]? = some (.slice a_ups x.ups.length c_ups) ∧ y[6 * i + 4]? = some (.slice a_stack x.stack.length c_stack) ∧ y[6 * i + 5]? = some (.bool x.guard) := ⟨_, r1, fun p hp => (sib_ne (by omega)).trans ((sib_ne (by omega)).trans (rfl)), by simp [z0], ((sib_ne (by omega)).trans (sib_eq (by omega))), (sib_eq (by simp; omega)), ((sib_ne (by omega)).trans ((sib_ne (by omega)).trans c2)), ((sib_ne (by omega)).trans ((sib_ne (by omega)).trans c3)), ((sib_ne (by omega)).trans ((sib_ne (by omega)).trans c4)), ((sib_ne (by omega)).trans ((sib_ne (by omega)).trans c5))⟩
        clear r1 hgs hgv rN oN e0 f0 e1 f1 e2 f2 e3 f3 e4 f4 e5 f5
        have f0 := frozen_of_row w1 g (6 * i) _ _ R1.out
        have e0 := (cell_of_row w1 g (6 * i) _ _ (0, 0) R1.out).trans c0
        have f1 := frozen_of_row w1 g (6 * i + 1) _ _ R1.out
        have e1 := (cell_of_row w1 g (6 * i + 1) _ _ (0, 0) R1.out).trans c1
        have f2 := frozen_of_row w1 g (6 * i + 2) _ _ R1.out
        have e2 := (cell_of_row w1 g (6 * i + 2) _ _ (0, 0) R1.out).trans c2
        have f3 := frozen_of_row w1 g (6 * i + 3) _ _ R1.out
        have e3 := (cell_of_row w1 g (6 * i + 3) _ _ (0, 0) R1.out).trans c3
        have f4 := frozen_of_row w1 g (6 * i + 4) _ _ R1.out
        have e4 := (cell_of_row w1 g (6 * i + 4) _ _ (0, 0) R1.out).trans c4
        have f5 := frozen_of_row w1 g (6 * i + 5) _ _ R1.out
        have e5 := (cell_of_row w1 g (6 * i + 5) _ _ (0, 0) R1.out).trans c5
        go_wp2_with fail
        refine (mkIntS_any x.ups a_ups c_ups (N + 1 + 1 + 1 * x.slots.length) _ _ _ r_ups (by push_cast; omega) (by omega) (by omega)).mono ?_
        rintro e w2 ⟨rfl, rN, oN⟩
        have hgs : g < w1.heap.size := (Array.getElem?_eq_some_iff.1 R1.out).1
        have hgv : ¬ ((fun b => V 1 b) g) := fun hc => (HU.out g (pv.within 1 g hc)).2 rfl
        have r2 := (oN.block g (by omega) hgv).trans R1.out
        have O2 : Outs (fun b => b = g ∨ U i b) wo w2 := O1.trans (oN.wide fun b hb => .inr (pv.within 1 b hb))
        have s2 : wo.heap.size ≤ w2.heap.size := O2.size
        have r_slots := r_slots.later IntOwn_keeps (fun _ h => h) (fun b hb => oN.block b (by have := HSS.out b (HU.out b (pv.within 0 b hb)).1; omega) (fun hc => by have := pv.apart 0 1 b hb hc; omega))
        have r_stack := r_stack.later ValOwn_keeps (fun _ h => h) (fun b hb => oN.block b (by have := HSS.out b (HU.out b (pv.within 2 b hb)).1; omega) (fun hc => by have := pv.apart 2 1 b hb hc; omega))
        have r_ups := rN
        obtain ⟨cs2, R2, P2, z2, c0, c1, c2, c3, c4, c5⟩ : ∃ y : Array Value, Hid (w2.heap[g]? = some (.cells y T (0, 0))) ∧ Hid (∀ p, (p < 6 * i ∨ 6 * i + 6 ≤ p) → y[p]? = cs[p]?) ∧ y.size = cs0.size ∧ y[6 * i]? = some (.int .i64 ((N : Nat) : Int)) ∧ y[6 * i + 1]? = some (.int .i64 ((N + 1 : Nat) : Int)) ∧ y[6 * i + 2]? = some (.slice a_slots x.slots.length c_slots) ∧ y[6 * i + 3]? = some (.slice a_ups x.ups.length c_ups) ∧ y[6 * i + 4]? = some (.slice a_stack x.stack.length c_stack) ∧ y[6 * i + 5]? = some (.bool x.guard) := ⟨_, r2, fun p hp => P1.out p hp, z1, c0, c1, c2, c3, c4, c5⟩
        clear r2 hgs hgv rN oN e0 f0 e1 f1 e2 f2 e3 f3 e4 f4 e5 f5
        have f0 := frozen_of_row w2 g (6 * i) _ _ R2.out
        have e0 := (cell_of_row w2 g (6 * i) _ _ (0, 0) R2.out).trans c0
        have f1 := frozen_of_row w2 g (6 * i + 1) _ _ R2.out
        have e1 := (cell_of_row w2 g (6 * i + 1) _ _ (0, 0) R2.out).trans c1
        have f2 := frozen_of_row w2 g (6 * i + 2) _ _ R2.out
        have e2 := (cell_of_row w2 g (6 * i + 2) _ _ (0, 0) R2.out).trans c2
        have f3 := frozen_of_row w2 g (6 * i + 3) _ _ R2.out
        have e3 := (cell_of_row w2 g (6 * i + 3) _ _ (0, 0) R2.out).trans c3
        have f4 := frozen_of_row w2 g (6 * i + 4) _ _ R2.out
        have e4 := (cell_of_row w2 g (6 * i + 4) _ _ (0, 0) R2.out).trans c4
        have f5 := frozen_of_row w2 g (6 * i + 5) _ _ R2.out
        have e5 := (cell_of_row w2 g (6 * i + 5) _ _ (0, 0) R2.out).trans c5
        go_wp2_with fail
        refine (mkValueS_any x.stack a_stack c_stack (N + 1 + 1 + 1 * x.slots.length + 1 * x.ups.length) _ _ _ r_stack (by push_cast; omega) (by omega) (by omega)).mono ?_
        rintro e w3 ⟨rfl, rN, oN⟩
        have hgs : g < w2.heap.size := (Array.getElem?_eq_some_iff.1 R2.out).1
        have hgv : ¬ ((fun b => V 2 b) g) := fun hc => (HU.out g (pv.within 2 g hc)).2 rfl
        have r3 := (oN.block g (by omega) hgv).trans R2.out
        have O3 : Outs (fun b => b = g ∨ U i b) wo w3 := O2.trans (oN.wide fun b hb => .inr (pv.within 2 b hb))
        have s3 : wo.heap.size ≤ w3.heap.size := O3.size
        have r_slots := r_slots.later IntOwn_keeps (fun _ h => h) (fun b hb => oN.block b (by have := HSS.out b (HU.out b (pv.within 0 b hb)).1; omega) (fun hc => by have := pv.apart 0 2 b hb hc; omega))
        have r_ups := r_ups.later IntOwn_keeps (fun _ h => h) (fun b hb => oN.block b (by have := HSS.out b (HU.out b (pv.within 1 b hb)).1; omega) (fun hc => by have := pv.apart 1 2 b hb hc; omega))
        have r_stack := rN
        obtain ⟨cs3, R3, P3, z3, c0, c1, c2, c3, c4, c5⟩ : ∃ y : Array Value, Hid (w3.heap[g]? = some (.cells y T (0, 0))) ∧ Hid (∀ p, (p < 6 * i ∨ 6 * i + 6 ≤ p) → y[p]? = cs[p]?) ∧ y.size = cs0.size ∧ y[6 * i]? = some (.int .i64 ((N : Nat) : Int)) ∧ y[6 * i + 1]? = some (.int .i64 ((N + 1 : Nat) : Int)) ∧ y[6 * i + 2]? = some (.slice a_slots x.slots.length c_slots) ∧ y[6 * i + 3]? = some (.slice a_ups x.ups.length c_ups) ∧ y[6 * i + 4]? = some (.slice a_stack x.stack.length c_stack) ∧ y[6 * i + 5]? = some (.bool x.guard) := ⟨_, r3, fun p hp => P2.out p hp, z2, c0, c1, c2, c3, c4, c5⟩
        clear r3 hgs hgv rN oN e0 f0 e1 f1 e2 f2 e3 f3 e4 f4 e5 f5
        have f0 := frozen_of_row w3 g (6 * i) _ _ R3.out
        have e0 := (cell_of_row w3 g (6 * i) _ _ (0, 0) R3.out).trans c0
        have f1 := frozen_of_row w3 g (6 * i + 1) _ _ R3.out
        have e1 := (cell_of_row w3 g (6 * i + 1) _ _ (0, 0) R3.out).trans c1
        have f2 := frozen_of_row w3 g (6 * i + 2) _ _ R3.out
        have e2 := (cell_of_row w3 g (6 * i + 2) _ _ (0, 0) R3.out).trans c2
        have f3 := frozen_of_row w3 g (6 * i + 3) _ _ R3.out
        have e3 := (cell_of_row w3 g (6 * i + 3) _ _ (0, 0) R3.out).trans c3
        have f4 := frozen_of_row w3 g (6 * i + 4) _ _ R3.out
        have e4 := (cell_of_row w3 g (6 * i + 4) _ _ (0, 0) R3.out).trans c4
        have f5 := frozen_of_row w3 g (6 * i + 5) _ _ R3.out
        have e5 := (cell_of_row w3 g (6 * i + 5) _ _ (0, 0) R3.out).trans c5
        go_wp2_with fail
        go_roundw
        case rel =>
          obtain ⟨wf, hwf⟩ : ∃ wf, wf = (w3.setCell ⟨g, 6 * i + 5, none⟩ (.bool (((N : Int) + 1 + 1 + (x.slots.length : Int) + (x.ups.length : Int)) % 3 == 0))) := ⟨_, rfl⟩
          have Rf : Hid (wf.heap[g]? = some (.cells (cs3.setIfInBounds (6 * i + 5) (.bool (((N : Int) + 1 + 1 + (x.slots.length : Int) + (x.ups.length : Int)) % 3 == 0))) T (0, 0))) := by rw [hwf]; exact (heap_setCell_same _ g _ _ T _ R3.out)
          have Of : Outs (fun b => b = g ∨ U i b) wo wf := by rw [hwf]; exact (O3.set _ _ (.inl rfl))
          have r_slots : RowD 1 IntOwn wf (V 0) (mkF Intmk 1 (N + 1 + 1) x.slots.length) a_slots := by rw [hwf]; exact (r_slots.set IntOwn_keeps _ _ (fun b hb => (HU.out b (pv.within 0 b hb)).2))
          have r_ups : RowD 1 IntOwn wf (V 1) (mkF Intmk 1 (N + 1 + 1 + 1 * x.slots.length) x.ups.length) a_ups := by rw [hwf]; exact (r_ups.set IntOwn_keeps _ _ (fun b hb => (HU.out b (pv.within 1 b hb)).2))
          have r_stack : RowD 3 ValOwn wf (V 2) (mkF Valuemk 3 (N + 1 + 1 + 1 * x.slots.length + 1 * x.ups.length) x.stack.length) a_stack := by rw [hwf]; exact (r_stack.set ValOwn_keeps _ _ (fun b hb => (HU.out b (pv.within 2 b hb)).2))
          have d0 : (cs3.setIfInBounds (6 * i + 5) (.bool (((N : Int) + 1 + 1 + (x.slots.length : Int) + (x.ups.length : Int)) % 3 == 0)))[6 * i]? = some (.int .i64 ((N : Nat) : Int)) := ((sib_ne (by omega)).trans c0)
          have d1 : (cs3.setIfInBounds (6 * i + 5) (.bool (((N : Int) + 1 + 1 + (x.slots.length : Int) + (x.ups.length : Int)) % 3 == 0)))[6 * i + 1]? = some (.int .i64 ((N + 1 : Nat) : Int)) := ((sib_ne (by omega)).trans c1)
          have d2 : (cs3.setIfInBounds (6 * i + 5) (.bool (((N : Int) + 1 + 1 + (x.slots.length : Int) + (x.ups.length : Int)) % 3 == 0)))[6 * i + 2]? = some (.slice a_slots x.slots.length c_slots) := ((sib_ne (by omega)).trans c2)
          have d3 : (cs3.setIfInBounds (6 * i + 5) (.bool (((N : Int) + 1 + 1 + (x.slots.length : Int) + (x.ups.length : Int)) % 3 == 0)))[6 * i + 3]? = some (.slice a_ups x.ups.length c_ups) := ((sib_ne (by omega)).trans c3)
          have d4 : (cs3.setIfInBounds (6 * i + 5) (.bool (((N : Int) + 1 + 1 + (x.slots.length : Int) + (x.ups.length : Int)) % 3 == 0)))[6 * i + 4]? = some (.slice a_stack x.stack.length c_stack) := ((sib_ne (by omega)).trans c4)
          have d5 : (cs3.setIfInBounds (6 * i + 5) (.bool (((N : Int) + 1 + 1 + (x.slots.length : Int) + (x.ups.length : Int)) % 3 == 0)))[6 * i + 5]? = some (.bool (((N : Int) + 1 + 1 + (x.slots.length : Int) + (x.ups.length : Int)) % 3 == 0)) := (sib_eq (by omega))
          have Pf : ∀ p, (p < 6 * i ∨ 6 * i + 6 ≤ p) → (cs3.setIfInBounds (6 * i + 5) (.bool (((N : Int) + 1 + 1 + (x.slots.length : Int) + (x.ups.length : Int)) % 3 == 0)))[p]? = cs[p]? := fun p hp => (sib_ne (by omega)).trans (P3.out p hp)
          have zf : (cs3.setIfInBounds (6 * i + 5) (.bool (((N : Int) + 1 + 1 + (x.slots.length : Int) + (x.ups.length : Int)) % 3 == 0))).size = cs0.size := by simpa using z3
          have hfin : ∀ m, ¬ m = i → ∀ b, U m b → wf.heap[b]? = wo.heap[b]? := fun m hm b hb => Of.block b (by have := HSS.out b (HH5.out.within m b hb).1; omega) (fun hc => by rcases hc with hc | hc; exact (HH5.out.within m b hb).2 hc; exact hm (HH5.out.apart m i b hb hc))
          rw [← hwf]
          clear hwf
          generalize (cs3.setIfInBounds (6 * i + 5) (.bool (((N : Int) + 1 + 1 + (x.slots.length : Int) + (x.ups.length : Int)) % 3 == 0))) = csf at *
          rw [show (((N : Int) + 1 + 1 + (x.slots.length : Int) + (x.ups.length : Int)) % 3 == 0) = decide (((N + 1 + 1 + 1 * x.slots.length + 1 * x.ups.length + 3 * x.stack.length : Nat) : Int) % 3 = 0) by rw [Bool.eq_iff_iff]; simp only [decide_eq_true_eq, beq_iff_eq]; omega] at d5
          refine ⟨i + 1, csf, by rw [HNO.out]; exact congrArg (Value.int .i64) (by unfold Framemn; push_cast; omega), by go_num, by omega, HBY.out.trans (Of.wide fun b hb => by rcases hb with rfl | hb; exact HG.out; exact (HU.out b hb).1), Rf.out, zf, fun m h hm => ?_, fun m h hm => ?_⟩
          · by_cases hmi : m = i
            · subst hmi
              rw [← HX.out, ← HN.out]
              exact ⟨_, Framemd_own x N a_slots c_slots a_ups c_ups a_stack c_stack V (U m) wf pv l_slots r_slots l_ups r_ups l_stack r_stack hN1, rfl, fun j hj => by
                match j, hj with
                | 0, _ => exact d0
                | 1, _ => exact d1
                | 2, _ => exact d2
                | 3, _ => exact d3
                | 4, _ => exact d4
                | 5, _ => exact d5⟩
            · obtain ⟨l, h1, h2, h3⟩ := HD.out m h (by omega)
              exact ⟨l, FrameOwn_keeps _ _ _ _ _ _ (fun _ h => h) (hfin m hmi) h1, h2, fun j hj => (Pf _ (by omega)).trans (h3 j hj)⟩
          · obtain ⟨l, h1, h2, h3⟩ := HT.out m h (by omega)
            exact ⟨l, FrameOwn_keeps _ _ _ _ _ _ (fun _ h => h) (hfin m (by omega)) h1, h2, fun j hj => (Pf _ (by omega)).trans (h3 j hj)⟩
        case measure => simp [intOf]; omega
      · obtain rfl : i = xs.length := by omega
        have HD : Hid (∀ m (h : m < xs.length), m < xs.length → ∃ l, FrameOwn wo (U m) (Framemd (K + mnR Framemn (xs.take m)) xs[m]) l ∧ l.length = 6 ∧ ∀ j, j < 6 → cs[6 * m + j]? = l[j]?) := hd
        clear hd ht
        rw [List.take_length] at *
        go_wp2_with fail
        go_ret
        exact ⟨rfl, .inr ⟨g, cs, T, rfl, h2, hrow, by rw [mkR_len, hcs]; exact h4, U, h5, fun m h => by
          have h' : m < xs.length := by rw [mkR_len] at h; exact h
          rw [mkR_get Framemd Framemn xs K m h h']
          exact HD.out m h' h'⟩, hby⟩
def Protomn (x : ProtoD) : Nat := 1 + 1 + 2 * x.ups.length + 7 * x.code.length + 4 * x.names.length
def Protomd (K : Nat) (x : ProtoD) : ProtoD := ⟨((K : Nat) : Int), ((K + 1 : Nat) : Int), mkF Upmk 2 (K + 1 + 1) x.ups.length, mkF Instrmk 7 (K + 1 + 1 + 2 * x.ups.length) x.code.length, mkF Namemk 4 (K + 1 + 1 + 2 * x.ups.length + 7 * x.code.length) x.names.length⟩
theorem Protomd_own (x : ProtoD) (N : Nat) (a_ups : Option Addr) (c_ups : Nat) (a_code : Option Addr) (c_code : Nat) (a_names : Option Addr) (c_names : Nat) (V : Nat → Nat → Prop) (S : Nat → Prop) (w : World) (pv : Parts V S) (l_ups : x.ups.length ≤ maxLen) (r_ups : RowD 2 UpOwn w (V 0) (mkF Upmk 2 (N + 1 + 1) x.ups.length) a_ups) (l_code : x.code.length ≤ maxLen) (r_code : RowD 7 InstrOwn w (V 1) (mkF Instrmk 7 (N + 1 + 1 + 2 * x.ups.length) x.code.length) a_code) (l_names : x.names.length ≤ maxLen) (r_names : RowD 4 NameOwn w (V 2) (mkF Namemk 4 (N + 1 + 1 + 2 * x.ups.length + 7 * x.code.length) x.names.length) a_names) (h : N + Protomn x ≤ 1099511627776) : ProtoOwn w S (Protomd N x) [.int .i64 ((N : Nat) : Int), .int .i64 ((N + 1 : Nat) : Int), .slice a_ups x.ups.length c_ups, .slice a_code x.code.length c_code, .slice a_names x.names.length c_names] := by
  unfold Protomn at h
  have h_ups : (Protomd N x).ups.length = x.ups.length := mkF_len _ _ _ _
  have h_code : (Protomd N x).code.length = x.code.length := mkF_len _ _ _ _
  have h_names : (Protomd N x).names.length = x.names.length := mkF_len _ _ _ _
  exact ⟨⟨⟨by simp only [Protomd]; omega, by simp only [Protomd]; omega⟩, ⟨by simp only [Protomd]; omega, by simp only [Protomd]; omega⟩, (by rw [show (Protomd N x).ups.length = x.ups.length from h_ups]; exact l_ups), (by rw [show (Protomd N x).code.length = x.code.length from h_code]; exact l_code), (by rw [show (Protomd N x).names.length = x.names.length from h_names]; exact l_names)⟩, V, pv, a_ups, c_ups, a_code, c_code, a_names, c_names, by rw [h_ups, h_code, h_names]; rfl, (by rw [h_ups]; exact l_ups), r_ups, (by rw [h_code]; exact l_code), r_code, (by rw [h_names]; exact l_names), r_names⟩
set_option maxRecDepth 100000 in
set_option maxHeartbeats 4000000 in
theorem mkProtoS_none (b : Option Addr) (cap K : Nat) (w : World) :
    Calls Try.prog 18 #[.slice b 0 cap, .int .i64 (K : Int)] w fun e w' => e = .returned (.int .i64 (K : Int)) ∧ w = w' := by
  go_enter Try.func18, Try.ntmps18
  go_wp2_with fail
  refine wp_loop_rounds 1 ?_
  rw [rounds_succ]
  go_wp2_with fail
  go_ret
  exact ⟨rfl, rfl⟩
set_option maxRecDepth 100000 in
set_option maxHeartbeats 4000000 in
theorem mkProtoS_any (xs : List ProtoD) (a : Option Addr) (cap K : Nat) (z : Int) (S : Nat → Prop) (w : World) (hS : ∀ b, S b → b < w.heap.size) (hR : RowD 5 ProtoOwn w S xs a) (hz : z = K) (hK : 0 < K) (hn : K + mnR Protomn xs ≤ 1099511627776) (hl : xs.length ≤ maxLen) :
    Calls Try.prog 18 #[.slice a xs.length cap, .int .i64 z] w fun e w' => e = .returned (.int .i64 ((K + mnR Protomn xs : Nat) : Int)) ∧ RowD 5 ProtoOwn w' S (mkR Protomd Protomn K xs) a ∧ Outs S w w' := by
  subst hz
  rcases hR with rfl | ⟨g, cs0, T, rfl, h2, h3, h4, U, h5, h6⟩
  · refine (mkProtoS_none a cap K w).mono ?_
    rintro e w' ⟨rfl, rfl⟩
    exact ⟨by simp [mnR], .inl rfl, Outs.refl _ _⟩
  · unfold maxLen at hl
    have hgS := hS g h2
    go_enter Try.func18, Try.ntmps18
    go_wp2_with fail
    go_loopw [1, 5] (fun kk a wr => ∃ (i : Nat) (cs : Array Value), kk = .int .i64 ((K + mnR Protomn (xs.take i) : Nat) : Int) ∧ a = .int .i64 i ∧ i ≤ xs.length ∧ Outs S w wr ∧ wr.heap[g]? = some (.cells cs T (0, 0)) ∧ cs.size = cs0.size ∧ (∀ m (h : m < xs.length), m < i → ∃ l, ProtoOwn wr (U m) (Protomd (K + mnR Protomn (xs.take m)) xs[m]) l ∧ l.length = 5 ∧ ∀ j, j < 5 → cs[5 * m + j]? = l[j]?) ∧ (∀ m (h : m < xs.length), i ≤ m → ∃ l, ProtoOwn wr (U m) xs[m] l ∧ l.length = 5 ∧ ∀ j, j < 5 → cs[5 * m + j]? = l[j]?)) (fun _ a _ => xs.length - (intOf a).toNat)
    case atStart => exact ⟨0, cs0, by simp [mnR], rfl, Nat.zero_le _, Outs.refl _ _, h3, rfl, fun m _ hm => absurd hm (Nat.not_lt_zero _), fun m h _ => h6 m h⟩
    case round =>
      rename World => wo
      obtain ⟨i, cs, rfl, rfl, hi, hby, hrow, hcs, hd, ht⟩ := hrel
      by_cases hlt : i < xs.length
      · obtain ⟨l, hO, _, hcell⟩ := ht i hlt (Nat.le_refl _)
        have ho := mnR_take Protomn xs i hlt
        have hol := mnR_take_le Protomn xs (i + 1)
        have hsz := hby.size
        have HD : Hid (∀ m (h : m < xs.length), m < i → ∃ l, ProtoOwn wo (U m) (Protomd (K + mnR Protomn (xs.take m)) xs[m]) l ∧ l.length = 5 ∧ ∀ j, j < 5 → cs[5 * m + j]? = l[j]?) := hd
        have HT : Hid (∀ m (h : m < xs.length), i ≤ m → ∃ l, ProtoOwn wo (U m) xs[m] l ∧ l.length = 5 ∧ ∀ j, j < 5 → cs[5 * m + j]? = l[j]?) := ht
        have HBY : Hid (Outs S w wo) := hby
        have HH5 : Hid (Parts U (fun b => S b ∧ b ≠ g)) := h5
        have HSS : Hid (∀ b, S b → b < w.heap.size) := hS
        have HG : Hid (S g) := h2
        have HU : Hid (∀ b, U i b → S b ∧ b ≠ g) := h5.within i
        clear hd ht hby h5 h6 hS h2
        obtain ⟨x, hx⟩ : ∃ x, x = xs[i] := ⟨_, rfl⟩
        rw [← hx] at hO ho
        have HX : Hid (x = xs[i]) := hx
        obtain ⟨N, hN⟩ : ∃ N, N = K + mnR Protomn (xs.take i) := ⟨_, rfl⟩
        have HN : Hid (N = K + mnR Protomn (xs.take i)) := hN
        have HNO : Hid (K + mnR Protomn (xs.take (i + 1)) = N + Protomn x) := by show _ = _; omega
        have hN0 : 0 < N := by omega
        have hN1 : N + Protomn x ≤ 1099511627776 := by omega
        rw [← hN]
        clear hx hN ho hol
        have hN2 := hN1
        unfold Protomn at hN2
        obtain ⟨ok, V, pv, a_ups, c_ups, a_code, c_code, a_names, c_names, rfl, l_ups, r_ups, l_code, r_code, l_names, r_names⟩ := hO
        have c0 := hcell 0 (by decide)
        have c1 := hcell 1 (by decide)
        have c2 := hcell 2 (by decide)
        have c3 := hcell 3 (by decide)
        have c4 := hcell 4 (by decide)
        simp only [List.getElem?_cons_zero, List.getElem?_cons_succ] at c0 c1 c2 c3 c4
        clear hcell
        rw [Nat.add_zero] at c0
        have mW : i * 5 = 5 * i := Nat.mul_comm _ _
        have R0 : Hid (wo.heap[g]? = some (.cells cs T (0, 0))) := hrow
        have z0 := hcs
        have O0 : Outs (fun b => b = g ∨ U i b) wo wo := Outs.refl _ _
        have s0 : wo.heap.size ≤ wo.heap.size := Nat.le_refl _
        have f0 := frozen_of_row wo g (5 * i) _ _ R0.out
        have e0 := (cell_of_row wo g (5 * i) _ _ (0, 0) R0.out).trans c0
        have f1 := frozen_of_row wo g (5 * i + 1) _ _ R0.out
        have e1 := (cell_of_row wo g (5 * i + 1) _ _ (0, 0) R0.out).trans c1
        have f2 := frozen_of_row wo g (5 * i + 2) _ _ R0.out
        have e2 := (cell_of_row wo g (5 * i + 2) _ _ (0, 0) R0.out).trans c2
        have f3 := frozen_of_row wo g (5 * i + 3) _ _ R0.out
        have e3 := (cell_of_row wo g (5 * i + 3) _ _ (0, 0) R0.out).trans c3
        have f4 := frozen_of_row wo g (5 * i + 4) _ _ R0.out
        have e4 := (cell_of_row wo g (5 * i + 4) _ _ (0, 0) R0.out).trans c4
        clear hrow
        go_wp2_with fail
        refine (mkUpS_any x.ups a_ups c_ups (N + 1 + 1) _ _ _ ((r_ups.set UpOwn_keeps _ _ (fun b hb => (HU.out b (pv.within 0 b hb)).2)).set UpOwn_keeps _ _ (fun b hb => (HU.out b (pv.within 0 b hb)).2)) (by push_cast; omega) (by omega) (by omega)).mono ?_
        rintro e w1 ⟨rfl, rN, oN⟩
        have hgs : g < wo.heap.size := (Array.getElem?_eq_some_iff.1 R0.out).1
        have hgv : ¬ ((fun b => V 0 b) g) := fun hc => (HU.out g (pv.within 0 g hc)).2 rfl
        have r1 := (oN.block g (by simp; omega) hgv).trans (heap_setCell_same _ g _ _ T _ (heap_setCell_same _ g _ _ T _ R0.out))
        have O1 : Outs (fun b => b = g ∨ U i b) wo w1 := ((O0.set _ _ (.inl rfl)).set _ _ (.inl rfl)).trans (oN.wide fun b hb => .inr (pv.within 0 b hb))
        have s1 : wo.heap.size ≤ w1.heap.size := O1.size
        have r_code := ((r_code.set InstrOwn_keeps _ _ (fun b hb => (HU.out b (pv.within 1 b hb)).2)).set InstrOwn_keeps _ _ (fun b hb => (HU.out b (pv.within 1 b hb)).2)).later InstrOwn_keeps (fun _ h => h) (fun b hb => oN.block b (by have := HSS.out b (HU.out b (pv.within 1 b hb)).1; simp; omega) (fun hc => by have := pv.apart 1 0 b hb hc; omega))
        have r_names := ((r_names.set NameOwn_keeps _ _ (fun b hb => (HU.out b (pv.within 2 b hb)).2)).set NameOwn_keeps _ _ (fun b hb => (HU.out b (pv.within 2 b hb)).2)).later NameOwn_keeps (fun _ h => h) (fun b hb => oN.block b (by have := HSS.out b (HU.out b (pv.within 2 b hb)).1; simp; omega) (fun hc => by have := pv.apart 2 0 b hb hc; omega))
        have r_ups := rN
        obtain ⟨cs1, R1, P1, z1, c0, c1, c2, c3, c4⟩ : ∃ y : Array Value, Hid (w1.heap[g]? = some (.cells y T (0, 0))) ∧ Hid (∀ p, (p < 5 * i ∨ 5 * i + 5 ≤ p) → y[p]? = cs[p]?) ∧ y.size = cs0.size ∧ y[5 * i]? = some (.int .i64 ((N : Nat) : Int)) ∧ y[5 * i + 1]? = some (.int .i64 ((N + 1 : Nat) : Int)) ∧ y[5 * i + 2]? = some (.slice a_ups x.ups.length c_ups) ∧ y[5 * i + 3]? = some (.slice a_code x.code.length c_code) ∧ y[5 * i + 4]? = some (.slice a_names x.names.length c_names) := ⟨_, r1, fun p hp => (sib_ne (by omega)).trans ((sib_ne (by omega)).trans (rfl)), by simp [z0], ((sib_ne (by omega)).trans (sib_eq (by omega))), (sib_eq (by simp; omega)), ((sib_ne (by omega)).trans ((sib_ne (by omega)).trans c2)), ((sib_ne (by omega)).trans ((sib_ne (by omega)).trans c3)), ((sib_ne (by omega)).trans ((sib_ne (by omega)).trans c4))⟩
        clear r1 hgs hgv rN oN e0 f0 e1 f1 e2 f2 e3 f3 e4 f4
        have f0 := frozen_of_row w1 g (5 * i) _ _ R1.out
        have e0 := (cell_of_row w1 g (5 * i) _ _ (0, 0) R1.out).trans c0
        have f1 := frozen_of_row w1 g (5 * i + 1) _ _ R1.out
        have e1 := (cell_of_row w1 g (5 * i + 1) _ _ (0, 0) R1.out).trans c1
        have f2 := frozen_of_row w1 g (5 * i + 2) _ _ R1.out
        have e2 := (cell_of_row w1 g (5 * i + 2) _ _ (0, 0) R1.out).trans c2
        have f3 := frozen_of_row w1 g (5 * i + 3) _ _ R1.out
        have e3 := (cell_of_row w1 g (5 * i + 3) _ _ (0, 0) R1.out).trans c3
        have f4 := frozen_of_row w1 g (5 * i + 4) _ _ R1.out
        have e4 := (cell_of_row w1 g (5 * i + 4) _ _ (0, 0) R1.out).trans c4
        go_wp2_with fail
        refine (mkInstrS_any x.code a_code c_code (N + 1 + 1 + 2 * x.ups.length) _ _ _ r_code (by push_cast; omega) (by omega) (by omega)).mono ?_
        rintro e w2 ⟨rfl, rN, oN⟩
        have hgs : g < w1.heap.size := (Array.getElem?_eq_some_iff.1 R1.out).1
        have hgv : ¬ ((fun b => V 1 b) g) := fun hc => (HU.out g (pv.within 1 g hc)).2 rfl
        have r2 := (oN.block g (by omega) hgv).trans R1.out
        have O2 : Outs (fun b => b = g ∨ U i b) wo w2 := O1.trans (oN.wide fun b hb => .inr (pv.within 1 b hb))
        have s2 : wo.heap.size ≤ w2.heap.size := O2.size
        have r_ups := r_ups.later UpOwn_keeps (fun _ h => h) (fun b hb => oN.block b (by have := HSS.out b (HU.out b (pv.within 0 b hb)).1; omega) (fun hc => by have := pv.apart 0 1 b hb hc; omega))
        have r_names := r_names.later NameOwn_keeps (fun _ h => h) (fun b hb => oN.block b (by have := HSS.out b (HU.out b (pv.within 2 b hb)).1; omega) (fun hc => by have := pv.apart 2 1 b hb hc; omega))
        have r_code := rN
        obtain ⟨cs2, R2, P2, z2, c0, c1, c2, c3, c4⟩ : ∃ y : Array Value, Hid (w2.heap[g]? = some (.cells y T (0, 0))) ∧ Hid (∀ p, (p < 5 * i ∨ 5 * i + 5 ≤ p) → y[p]? = cs[p]?) ∧ y.size = cs0.size ∧ y[5 * i]? = some (.int .i64 ((N : Nat) : Int)) ∧ y[5 * i + 1]? = some (.int .i64 ((N + 1 : Nat) : Int)) ∧ y[5 * i + 2]? = some (.slice a_ups x.ups.length c_ups) ∧ y[5 * i + 3]? = some (.slice a_code x.code.length c_code) ∧ y[5 * i + 4]? = some (.slice a_names x.names.length c_names) := ⟨_, r2, fun p hp => P1.out p hp, z1, c0, c1, c2, c3, c4⟩
        clear r2 hgs hgv rN oN e0 f0 e1 f1 e2 f2 e3 f3 e4 f4
        have f0 := frozen_of_row w2 g (5 * i) _ _ R2.out
        have e0 := (cell_of_row w2 g (5 * i) _ _ (0, 0) R2.out).trans c0
        have f1 := frozen_of_row w2 g (5 * i + 1) _ _ R2.out
        have e1 := (cell_of_row w2 g (5 * i + 1) _ _ (0, 0) R2.out).trans c1
        have f2 := frozen_of_row w2 g (5 * i + 2) _ _ R2.out
        have e2 := (cell_of_row w2 g (5 * i + 2) _ _ (0, 0) R2.out).trans c2
        have f3 := frozen_of_row w2 g (5 * i + 3) _ _ R2.out
        have e3 := (cell_of_row w2 g (5 * i + 3) _ _ (0, 0) R2.out).trans c3
        have f4 := frozen_of_row w2 g (5 * i + 4) _ _ R2.out
        have e4 := (cell_of_row w2 g (5 * i + 4) _ _ (0, 0) R2.out).trans c4
        go_wp2_with fail
        refine (mkNameS_any x.names a_names c_names (N + 1 + 1 + 2 * x.ups.length + 7 * x.code.length) _ _ _ r_names (by push_cast; omega) (by omega) (by omega)).mono ?_
        rintro e w3 ⟨rfl, rN, oN⟩
        have hgs : g < w2.heap.size := (Array.getElem?_eq_some_iff.1 R2.out).1
        have hgv : ¬ ((fun b => V 2 b) g) := fun hc => (HU.out g (pv.within 2 g hc)).2 rfl
        have r3 := (oN.block g (by omega) hgv).trans R2.out
        have O3 : Outs (fun b => b = g ∨ U i b) wo w3 := O2.trans (oN.wide fun b hb => .inr (pv.within 2 b hb))
        have s3 : wo.heap.size ≤ w3.heap.size := O3.size
        have r_ups := r_ups.later UpOwn_keeps (fun _ h => h) (fun b hb => oN.block b (by have := HSS.out b (HU.out b (pv.within 0 b hb)).1; omega) (fun hc => by have := pv.apart 0 2 b hb hc; omega))
        have r_code := r_code.later InstrOwn_keeps (fun _ h => h) (fun b hb => oN.block b (by have := HSS.out b (HU.out b (pv.within 1 b hb)).1; omega) (fun hc => by have := pv.apart 1 2 b hb hc; omega))
        have r_names := rN
        obtain ⟨cs3, R3, P3, z3, c0, c1, c2, c3, c4⟩ : ∃ y : Array Value, Hid (w3.heap[g]? = some (.cells y T (0, 0))) ∧ Hid (∀ p, (p < 5 * i ∨ 5 * i + 5 ≤ p) → y[p]? = cs[p]?) ∧ y.size = cs0.size ∧ y[5 * i]? = some (.int .i64 ((N : Nat) : Int)) ∧ y[5 * i + 1]? = some (.int .i64 ((N + 1 : Nat) : Int)) ∧ y[5 * i + 2]? = some (.slice a_ups x.ups.length c_ups) ∧ y[5 * i + 3]? = some (.slice a_code x.code.length c_code) ∧ y[5 * i + 4]? = some (.slice a_names x.names.length c_names) := ⟨_, r3, fun p hp => P2.out p hp, z2, c0, c1, c2, c3, c4⟩
        clear r3 hgs hgv rN oN e0 f0 e1 f1 e2 f2 e3 f3 e4 f4
        have f0 := frozen_of_row w3 g (5 * i) _ _ R3.out
        have e0 := (cell_of_row w3 g (5 * i) _ _ (0, 0) R3.out).trans c0
        have f1 := frozen_of_row w3 g (5 * i + 1) _ _ R3.out
        have e1 := (cell_of_row w3 g (5 * i + 1) _ _ (0, 0) R3.out).trans c1
        have f2 := frozen_of_row w3 g (5 * i + 2) _ _ R3.out
        have e2 := (cell_of_row w3 g (5 * i + 2) _ _ (0, 0) R3.out).trans c2
        have f3 := frozen_of_row w3 g (5 * i + 3) _ _ R3.out
        have e3 := (cell_of_row w3 g (5 * i + 3) _ _ (0, 0) R3.out).trans c3
        have f4 := frozen_of_row w3 g (5 * i + 4) _ _ R3.out
        have e4 := (cell_of_row w3 g (5 * i + 4) _ _ (0, 0) R3.out).trans c4
        go_wp2_with fail
        go_roundw
        case rel =>
          obtain ⟨wf, hwf⟩ : ∃ wf, wf = w3 := ⟨_, rfl⟩
          have Rf : Hid (wf.heap[g]? = some (.cells cs3 T (0, 0))) := by rw [hwf]; exact R3.out
          have Of : Outs (fun b => b = g ∨ U i b) wo wf := by rw [hwf]; exact O3
          have r_ups : RowD 2 UpOwn wf (V 0) (mkF Upmk 2 (N + 1 + 1) x.ups.length) a_ups := by rw [hwf]; exact r_ups
          have r_code : RowD 7 InstrOwn wf (V 1) (mkF Instrmk 7 (N + 1 + 1 + 2 * x.ups.length) x.code.length) a_code := by rw [hwf]; exact r_code
          have r_names : RowD 4 NameOwn wf (V 2) (mkF Namemk 4 (N + 1 + 1 + 2 * x.ups.length + 7 * x.code.length) x.names.length) a_names := by rw [hwf]; exact r_names
          have d0 : cs3[5 * i]? = some (.int .i64 ((N : Nat) : Int)) := c0
          have d1 : cs3[5 * i + 1]? = some (.int .i64 ((N + 1 : Nat) : Int)) := c1
          have d2 : cs3[5 * i + 2]? = some (.slice a_ups x.ups.length c_ups) := c2
          have d3 : cs3[5 * i + 3]? = some (.slice a_code x.code.length c_code) := c3
          have d4 : cs3[5 * i + 4]? = some (.slice a_names x.names.length c_names) := c4
          have Pf : ∀ p, (p < 5 * i ∨ 5 * i + 5 ≤ p) → cs3[p]? = cs[p]? := fun p hp => P3.out p hp
          have zf : cs3.size = cs0.size := by simpa using z3
          have hfin : ∀ m, ¬ m = i → ∀ b, U m b → wf.heap[b]? = wo.heap[b]? := fun m hm b hb => Of.block b (by have := HSS.out b (HH5.out.within m b hb).1; omega) (fun hc => by rcases hc with hc | hc; exact (HH5.out.within m b hb).2 hc; exact hm (HH5.out.apart m i b hb hc))
          rw [← hwf]
          clear hwf
          skip
          refine ⟨i + 1, cs3, by rw [HNO.out]; exact congrArg (Value.int .i64) (by unfold Protomn; push_cast; omega), by go_num, by omega, HBY.out.trans (Of.wide fun b hb => by rcases hb with rfl | hb; exact HG.out; exact (HU.out b hb).1), Rf.out, zf, fun m h hm => ?_, fun m h hm => ?_⟩
          · by_cases hmi : m = i
            · subst hmi
              rw [← HX.out, ← HN.out]
              exact ⟨_, Protomd_own x N a_ups c_ups a_code c_code a_names c_names V (U m) wf pv l_ups r_ups l_code r_code l_names r_names hN1, rfl, fun j hj => by
                match j, hj with
                | 0, _ => exact d0
                | 1, _ => exact d1
                | 2, _ => exact d2
                | 3, _ => exact d3
                | 4, _ => exact d4⟩
            · obtain ⟨l, h1, h2, h3⟩ := HD.out m h (by omega)
              exact ⟨l, ProtoOwn_keeps _ _ _ _ _ _ (fun _ h => h) (hfin m hmi) h1, h2, fun j hj => (Pf _ (by omega)).trans (h3 j hj)⟩
          · obtain ⟨l, h1, h2, h3⟩ := HT.out m h (by omega)
            exact ⟨l, ProtoOwn_keeps _ _ _ _ _ _ (fun _ h => h) (hfin m (by omega)) h1, h2, fun j hj => (Pf _ (by omega)).trans (h3 j hj)⟩
        case measure => simp [intOf]; omega
      · obtain rfl : i = xs.length := by omega
        have HD : Hid (∀ m (h : m < xs.length), m < xs.length → ∃ l, ProtoOwn wo (U m) (Protomd (K + mnR Protomn (xs.take m)) xs[m]) l ∧ l.length = 5 ∧ ∀ j, j < 5 → cs[5 * m + j]? = l[j]?) := hd
        clear hd ht
        rw [List.take_length] at *
        go_wp2_with fail
        go_ret
        exact ⟨rfl, .inr ⟨g, cs, T, rfl, h2, hrow, by rw [mkR_len, hcs]; exact h4, U, h5, fun m h => by
          have h' : m < xs.length := by rw [mkR_len] at h; exact h
          rw [mkR_get Protomd Protomn xs K m h h']
          exact HD.out m h' h'⟩, hby⟩
def PairSmn (x : List PairD) : Nat := 6 * x.length
def PairSmd (K : Nat) (x : List PairD) : List PairD := mkF Pairmk 6 (K) x.length
theorem PairSmd_own (x : List PairD) (N : Nat) (a_p : Option Addr) (c_p : Nat) (S : Nat → Prop) (w : World) (ok : x.length ≤ maxLen) (r_p : RowD 6 PairOwn w S (mkF Pairmk 6 (N) x.length) a_p) : PairSOwn w S (PairSmd N x) [.slice a_p x.length c_p] := by
  have hl : (PairSmd N x).length = x.length := mkF_len _ _ _ _
  exact ⟨by rw [hl]; exact ok, a_p, c_p, by rw [hl], r_p⟩
set_option maxRecDepth 100000 in
set_option maxHeartbeats 4000000 in
theorem mkPairSS_none (b : Option Addr) (cap K : Nat) (w : World) :
    Calls Try.prog 109 #[.slice b 0 cap, .int .i64 (K : Int)] w fun e w' => e = .returned (.int .i64 (K : Int)) ∧ w = w' := by
  go_enter Try.func109, Try.ntmps109
  go_wp2_with fail
  refine wp_loop_rounds 1 ?_
  rw [rounds_succ]
  go_wp2_with fail
  go_ret
  exact ⟨rfl, rfl⟩
set_option maxRecDepth 100000 in
set_option maxHeartbeats 4000000 in
theorem mkPairSS_any (xs : List (List PairD)) (a : Option Addr) (cap K : Nat) (z : Int) (S : Nat → Prop) (w : World) (hS : ∀ b, S b → b < w.heap.size) (hR : RowD 1 PairSOwn w S xs a) (hz : z = K) (hK : 0 < K) (hn : K + mnR PairSmn xs ≤ 1099511627776) (hl : xs.length ≤ maxLen) :
    Calls Try.prog 109 #[.slice a xs.length cap, .int .i64 z] w fun e w' => e = .returned (.int .i64 ((K + mnR PairSmn xs : Nat) : Int)) ∧ RowD 1 PairSOwn w' S (mkR PairSmd PairSmn K xs) a ∧ Outs S w w' := by
  subst hz
  rcases hR with rfl | ⟨g, cs0, T, rfl, h2, h3, h4, U, h5, h6⟩
  · refine (mkPairSS_none a cap K w).mono ?_
    rintro e w' ⟨rfl, rfl⟩
    exact ⟨by simp [mnR], .inl rfl, Outs.refl _ _⟩
  · unfold maxLen at hl
    have hgS := hS g h2
    go_enter Try.func109, Try.ntmps109
    go_wp2_with fail
    go_loopw [1, 5] (fun kk a wr => ∃ (i : Nat) (cs : Array Value), kk = .int .i64 ((K + mnR PairSmn (xs.take i) : Nat) : Int) ∧ a = .int .i64 i ∧ i ≤ xs.length ∧ Outs S w wr ∧ wr.heap[g]? = some (.cells cs T (0, 0)) ∧ cs.size = cs0.size ∧ (∀ m (h : m < xs.length), m < i → ∃ l, PairSOwn wr (U m) (PairSmd (K + mnR PairSmn (xs.take m)) xs[m]) l ∧ l.length = 1 ∧ ∀ j, j < 1 → cs[1 * m + j]? = l[j]?) ∧ (∀ m (h : m < xs.length), i ≤ m → ∃ l, PairSOwn wr (U m) xs[m] l ∧ l.length = 1 ∧ ∀ j, j < 1 → cs[1 * m + j]? = l[j]?)) (fun _ a _ => xs.length - (intOf a).toNat)
    case atStart => exact ⟨0, cs0, by simp [mnR], rfl, Nat.zero_le _, Outs.refl _ _, h3, rfl, fun m _ hm => absurd hm (Nat.not_lt_zero _), fun m h _ => h6 m h⟩
    case round =>
      rename World => wo
      obtain ⟨i, cs, rfl, rfl, hi, hby, hrow, hcs, hd, ht⟩ := hrel
      by_cases hlt : i < xs.length
      · obtain ⟨l, hO, _, hcell⟩ := ht i hlt (Nat.le_refl _)
        have ho := mnR_take PairSmn xs i hlt
        have hol := mnR_take_le PairSmn xs (i + 1)
        have hsz := hby.size
        have HD : Hid (∀ m (h : m < xs.length), m < i → ∃ l, PairSOwn wo (U m) (PairSmd (K + mnR PairSmn (xs.take m)) xs[m]) l ∧ l.length = 1 ∧ ∀ j, j < 1 → cs[1 * m + j]? = l[j]?) := hd
        have HT : Hid (∀ m (h : m < xs.length), i ≤ m → ∃ l, PairSOwn wo (U m) xs[m] l ∧ l.length = 1 ∧ ∀ j, j < 1 → cs[1 * m + j]? = l[j]?) := ht
        have HBY : Hid (Outs S w wo) := hby
        have HH5 : Hid (Parts U (fun b => S b ∧ b ≠ g)) := h5
        have HSS : Hid (∀ b, S b → b < w.heap.size) := hS
        have HG : Hid (S g) := h2
        have HU : Hid (∀ b, U i b → S b ∧ b ≠ g) := h5.within i
        clear hd ht hby h5 h6 hS h2
        obtain ⟨x, hx⟩ : ∃ x, x = xs[i] := ⟨_, rfl⟩
        rw [← hx] at hO ho
        have HX : Hid (x = xs[i]) := hx
        obtain ⟨N, hN⟩ : ∃ N, N = K + mnR PairSmn (xs.take i) := ⟨_, rfl⟩
        have HN : Hid (N = K + mnR PairSmn (xs.take i)) := hN
        have HNO : Hid (K + mnR PairSmn (xs.take (i + 1)) = N + PairSmn x) := by show _ = _; omega
        have hN0 : 0 < N := by omega
        have hN1 : N + PairSmn x ≤ 1099511627776 := by omega
        rw [← hN]
        clear hx hN ho hol
        have hN2 := hN1
        unfold PairSmn at hN2
        obtain ⟨ok, a_p, c_p, rfl, r_p⟩ := hO
        obtain ⟨V, pv, hV0⟩ : ∃ V : Nat → Nat → Prop, Parts V (U i) ∧ V 0 = U i := ⟨_, parts1 _, rfl⟩
        rw [← hV0] at r_p
        have HV0 : Hid (V 0 = U i) := hV0
        clear hV0
        have c0 := hcell 0 (by decide)
        simp only [List.getElem?_cons_zero] at c0
        clear hcell
        rw [Nat.one_mul, Nat.add_zero] at c0
        have R0 : Hid (wo.heap[g]? = some (.cells cs T (0, 0))) := hrow
        have z0 := hcs
        have O0 : Outs (fun b => b = g ∨ U i b) wo wo := Outs.refl _ _
        have s0 : wo.heap.size ≤ wo.heap.size := Nat.le_refl _
        have f0 := frozen_of_row wo g (i) _ _ R0.out
        have e0 := (cell_of_row wo g (i) _ _ (0, 0) R0.out).trans c0
        clear hrow
        go_wp2_with fail
        refine (mkPairS_any x a_p c_p (N) _ _ _ r_p (by push_cast; omega) (by omega) (by omega)).mono ?_
        rintro e w1 ⟨rfl, rN, oN⟩
        have hgs : g < wo.heap.size := (Array.getElem?_eq_some_iff.1 R0.out).1
        have hgv : ¬ ((fun b => V 0 b) g) := fun hc => (HU.out g (pv.within 0 g hc)).2 rfl
        have r1 := (oN.block g (by omega) hgv).trans R0.out
        have O1 : Outs (fun b => b = g ∨ U i b) wo w1 := O0.trans (oN.wide fun b hb => .inr (pv.within 0 b hb))
        have s1 : wo.heap.size ≤ w1.heap.size := O1.size
        have r_p := rN
        obtain ⟨cs1, R1, P1, z1, c0⟩ : ∃ y : Array Value, Hid (w1.heap[g]? = some (.cells y T (0, 0))) ∧ Hid (∀ p, (p < 1 * i ∨ 1 * i + 1 ≤ p) → y[p]? = cs[p]?) ∧ y.size = cs0.size ∧ y[i]? = some (.slice a_p x.length c_p) := ⟨_, r1, fun p hp => rfl, z0, c0⟩
        clear r1 hgs hgv rN oN e0 f0
        have f0 := frozen_of_row w1 g (i) _ _ R1.out
        have e0 := (cell_of_row w1 g (i) _ _ (0, 0) R1.out).trans c0
        go_wp2_with fail
        go_roundw
        case rel =>
          obtain ⟨wf, hwf⟩ : ∃ wf, wf = w1 := ⟨_, rfl⟩
          have Rf : Hid (wf.heap[g]? = some (.cells cs1 T (0, 0))) := by rw [hwf]; exact R1.out
          have Of : Outs (fun b => b = g ∨ U i b) wo wf := by rw [hwf]; exact O1
          have r_p : RowD 6 PairOwn wf (V 0) (mkF Pairmk 6 (N) x.length) a_p := by rw [hwf]; exact r_p
          have d0 : cs1[i]? = some (.slice a_p x.length c_p) := c0
          have Pf : ∀ p, (p < 1 * i ∨ 1 * i + 1 ≤ p) → cs1[p]? = cs[p]? := fun p hp => P1.out p hp
          have zf : cs1.size = cs0.size := by simpa using z1
          have hfin : ∀ m, ¬ m = i → ∀ b, U m b → wf.heap[b]? = wo.heap[b]? := fun m hm b hb => Of.block b (by have := HSS.out b (HH5.out.within m b hb).1; omega) (fun hc => by rcases hc with hc | hc; exact (HH5.out.within m b hb).2 hc; exact hm (HH5.out.apart m i b hb hc))
          rw [← hwf]
          clear hwf
          skip
          refine ⟨i + 1, cs1, by rw [HNO.out]; exact congrArg (Value.int .i64) (by unfold PairSmn; push_cast; omega), by go_num, by omega, HBY.out.trans (Of.wide fun b hb => by rcases hb with rfl | hb; exact HG.out; exact (HU.out b hb).1), Rf.out, zf, fun m h hm => ?_, fun m h hm => ?_⟩
          · by_cases hmi : m = i
            · subst hmi
              rw [← HX.out, ← HN.out]
              exact ⟨_, PairSmd_own x N a_p c_p (U m) wf ok (by rw [← HV0.out]; exact r_p), rfl, fun j hj => by
                match j, hj with
                | 0, _ => rw [Nat.one_mul, Nat.add_zero]; exact d0⟩
            · obtain ⟨l, h1, h2, h3⟩ := HD.out m h (by omega)
              exact ⟨l, PairSOwn_keeps _ _ _ _ _ _ (fun _ h => h) (hfin m hmi) h1, h2, fun j hj => (Pf _ (by omega)).trans (h3 j hj)⟩
          · obtain ⟨l, h1, h2, h3⟩ := HT.out m h (by omega)
            exact ⟨l, PairSOwn_keeps _ _ _ _ _ _ (fun _ h => h) (hfin m (by omega)) h1, h2, fun j hj => (Pf _ (by omega)).trans (h3 j hj)⟩
        case measure => simp [intOf]; omega
      · obtain rfl : i = xs.length := by omega
        have HD : Hid (∀ m (h : m < xs.length), m < xs.length → ∃ l, PairSOwn wo (U m) (PairSmd (K + mnR PairSmn (xs.take m)) xs[m]) l ∧ l.length = 1 ∧ ∀ j, j < 1 → cs[1 * m + j]? = l[j]?) := hd
        clear hd ht
        rw [List.take_length] at *
        go_wp2_with fail
        go_ret
        exact ⟨rfl, .inr ⟨g, cs, T, rfl, h2, hrow, by rw [mkR_len, hcs]; exact h4, U, h5, fun m h => by
          have h' : m < xs.length := by rw [mkR_len] at h; exact h
          rw [mkR_get PairSmd PairSmn xs K m h h']
          exact HD.out m h' h'⟩, hby⟩
end Go.Proofs.Ytgibejgemokljaa
