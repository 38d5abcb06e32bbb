/- Code is copied: the program. -/
import Derived.Test.YtgibejgemokljaaTstA
import Derived.Test.YtgibejgemokljaaVstA
import Derived.Test.YtgibejgemokljaaCloA
import Derived.Deep.RegionLaw
import Derived.Deep.RegionHeldLaw
import Derived.Deep.CutRange
import Derived.Deep.RegionWith
namespace Go.Proofs.Ytgibejgemokljaa
open Go.RowKit

theorem Outs.grown {S : Nat → Prop} {a b c : World} {row : Option Nat} (h : Outs S a b) (hg : b.grownBy c row) (hr : ∀ g, row = some g → a.heap.size ≤ g ∨ S g) : Outs S a c :=
  ⟨hg.os.trans h.os, hg.tape.trans h.tape, hg.output.trans h.output, Nat.le_trans h.size hg.size, fun x hx hc => (hg.block x (Nat.lt_of_lt_of_le hx h.size) (fun e => by rcases hr x e.symm with k | k; omega; exact hc k)).trans (h.block x hx hc)⟩
theorem row_of {A R : Prop} {W : World} {b : Nat} {o : Obj} (h : A ∧ W.heap[b]? = some o ∧ R) : W.heap[b]? = some o := h.2.1
theorem bel_stepr {W0 W W' : World} (h : Below W0.heap.size W0 W) (hb : Below W.heap.size W W') : Below W0.heap.size W0 W' := h.trans (hb.mono h.size)
theorem row_put {W : World} {b j : Nat} {cs : Array Value} {T : TypeId} {v : Value} (e : cs.setIfInBounds j v = cs) (h : W.heap[b]? = some (.cells cs T (0, 0))) : (W.setCell ⟨b, j, none⟩ v).heap[b]? = some (.cells cs T (0, 0)) := by
  have := heap_setCell_same _ b j cs T v h
  rwa [e] at this
theorem row_step {W W' : World} (hb : Below W.heap.size W W') {b : Nat} {o : Obj} (h : W.heap[b]? = some o) : W'.heap[b]? = some o := (hb.block b (Array.getElem?_eq_some_iff.1 h).1).trans h
theorem row_lt {W : World} {b : Nat} {o : Obj} (h : W.heap[b]? = some o) : b < W.heap.size := (Array.getElem?_eq_some_iff.1 h).1
theorem rowD_blk {α : Type} {k : Nat} {T : TypeId} {D : World → (Nat → Prop) → α → List Value → Prop} (f : α → List Value) (hf : ∀ x, (f x).length = k) {w : World} {B n c : Nat} {a : Option Addr} {ys : List α}
    (hD : ∀ i (h : i < ys.length), D w (fun _ => False) ys[i] (f ys[i])) (hn : ys.length = n) (h : w.ownsRow B T k (.slice a n c) n (ys.flatMap f)) : RowD k D w (fun b => (Value.slice a n c).ownBlock = some b) ys a := by
  obtain ⟨h1, h2⟩ := h
  rcases h2 with ⟨e, h0⟩ | ⟨g, cap, cur, e, hB, hg, hc, hm, hs, ht⟩
  · exact .inl (List.eq_nil_of_length_eq_zero (by omega))
  · simp only [Value.slice.injEq] at e
    obtain ⟨rfl, _, rfl⟩ := e
    have hle : n * k ≤ c * k := Nat.mul_le_mul_right k hc
    refine .inr ⟨g, cur, T, rfl, rfl, hg, by rw [hn, hs, Nat.mul_comm]; exact hle, fun _ _ => False, Parts.none _, fun i hi => ⟨f ys[i], hD i hi, hf _, fun j hj => ?_⟩⟩
    have hlt : k * i + j < n * k := by
      have : k * (i + 1) ≤ k * n := Nat.mul_le_mul_left k (by omega)
      rw [Nat.mul_succ] at this; rw [Nat.mul_comm n k]; omega
    rw [← flat_get f k hf ys i hi j hj, ← ht, List.getElem?_take, if_pos hlt, Array.getElem?_toList]
set_option maxRecDepth 100000 in
set_option maxHeartbeats 3200000 in
theorem pcopied_impl (x : ProtoD) (a_ups a_code a_names : Option Addr) (c_ups c_code c_names lo hi : Nat) (w : World) (hh : hi ≤ w.heap.size) (hwx : x.wt ≤ 1048576) (ok : x.Ok) (l_ups : x.ups.length ≤ maxLen) (r_ups : RowAt 2 UpC w lo hi x.ups a_ups) (l_code : x.code.length ≤ maxLen) (r_code : RowAt 7 InstrC w lo hi x.code a_code) (l_names : x.names.length ≤ maxLen) (r_names : RowAt 4 NameC w lo hi x.names a_names) :
    Calls Try.prog 104 #[.agg #[.int .i64 x.params, .int .i64 x.slots, .slice a_ups x.ups.length c_ups, .slice a_code x.code.length c_code, .slice a_names x.names.length c_names]] w fun e w' => (∃ cs', e = .returned (.agg cs'.toArray) ∧ ProtoOwn w' (In w.heap.size w'.heap.size) x cs') ∧ Below w.heap.size w w' := by
  unfold ProtoD.wt at hwx
  have hu0 : x.ups.length ≤ 1048576 := by omega
  have hu1 : x.code.length ≤ 1048576 := by have := len_wtR InstrD.wt x.code; omega
  have hu2 : x.names.length ≤ 1048576 := by have := len_wtR NameD.wt x.names; omega
  obtain ⟨i0, hi0, hza0, hzb0, hzc0⟩ := info_parts infO_Up
  obtain ⟨i1, hi1, hza1, hzb1, hzc1⟩ := info_parts infO_Instr
  obtain ⟨i2, hi2, hza2, hzb2, hzc2⟩ := info_parts infO_Name
  have HO0 : Hid (∀ j (h : j < x.ups.length), (x.ups[j]).Ok) := row_ok (P := UpD.Ok) (fun _ _ _ _ _ h => h.1) r_ups
  have HO1 : Hid (∀ j (h : j < x.code.length), (x.code[j]).Ok) := row_ok (P := InstrD.Ok) (fun _ _ _ _ _ h => h.1) r_code
  have HR1 : Hid (∀ W, Below w.heap.size w W → RowAt 7 InstrC W lo hi x.code a_code) := fun W hW => r_code.below InstrC_keeps hW hh
  have HO2 : Hid (∀ j (h : j < x.names.length), (x.names[j]).Ok) := row_ok (P := NameD.Ok) (fun _ _ _ _ _ h => h.1) r_names
  have HR2 : Hid (∀ W, Below w.heap.size w W → RowAt 4 NameC W lo hi x.names a_names) := fun W hW => r_names.below NameC_keeps hW hh
  have HN0 : Hid (∀ W, Below w.heap.size w W → ∀ (j : Nat) (u : Value), (x.ups.flatMap UpL)[j]? = some u → ∃ ad, a_ups = some ad ∧ W.cell? (ad.add j) = some u) := fun W hW => news_flat (by decide) UpL (fun _ => rfl) (fun _ _ _ _ _ h => h.2) (r_ups.below UpC_keeps hW hh)
  clear r_ups r_code r_names
  go_enter Try.func104, Try.ntmps104
  go_wp2_with fail
  obtain ⟨rB, rZ, zs, B0⟩ := rows2 w (Obj.cells #[.int .i64 x.params, .int .i64 x.slots, .slice a_ups x.ups.length c_ups, .slice a_code x.code.length c_code, .slice a_names x.names.length c_names] 116) (Obj.cells #[.int .i64 0, .int .i64 0, .slice none 0 0, .slice none 0 0, .slice none 0 0] 116)
  obtain ⟨W0, hW0⟩ : ∃ W, W = (w.alloc (Obj.cells #[.int .i64 x.params, .int .i64 x.slots, .slice a_ups x.ups.length c_ups, .slice a_code x.code.length c_code, .slice a_names x.names.length c_names] 116)).alloc (Obj.cells #[.int .i64 0, .int .i64 0, .slice none 0 0, .slice none 0 0, .slice none 0 0] 116) := ⟨_, rfl⟩
  rw [← hW0] at rB rZ zs B0 ⊢
  clear hW0
  have hz0 : w.heap.size + 1 < W0.heap.size := by omega
  have hzz : W0.heap.size ≤ w.heap.size + 2 := by omega
  clear zs
  have k0 := cell_of_row _ _ 0 _ _ _ rB
  have k1 := cell_of_row _ _ 1 _ _ _ rB
  have k2 := cell_of_row _ _ 2 _ _ _ rB
  have k3 := cell_of_row _ _ 3 _ _ _ rB
  have k4 := cell_of_row _ _ 4 _ _ _ rB
  simp only [List.getElem?_toArray, List.getElem?_cons_zero, List.getElem?_cons_succ] at k0 k1 k2 k3 k4
  have KP : Hid (∀ W', Below W0.heap.size W0 W' → W'.cell? ⟨w.heap.size, 0, none⟩ = some (.int .i64 x.params) ∧ W'.cell? ⟨w.heap.size, 1, none⟩ = some (.int .i64 x.slots) ∧ W'.cell? ⟨w.heap.size, 2, none⟩ = some (.slice a_ups x.ups.length c_ups) ∧ W'.cell? ⟨w.heap.size, 3, none⟩ = some (.slice a_code x.code.length c_code) ∧ W'.cell? ⟨w.heap.size, 4, none⟩ = some (.slice a_names x.names.length c_names)) := fun W' hB => ⟨(hB.cell (p := ⟨w.heap.size, 0, none⟩) (by show w.heap.size < _; omega)).trans k0, (hB.cell (p := ⟨w.heap.size, 1, none⟩) (by show w.heap.size < _; omega)).trans k1, (hB.cell (p := ⟨w.heap.size, 2, none⟩) (by show w.heap.size < _; omega)).trans k2, (hB.cell (p := ⟨w.heap.size, 3, none⟩) (by show w.heap.size < _; omega)).trans k3, (hB.cell (p := ⟨w.heap.size, 4, none⟩) (by show w.heap.size < _; omega)).trans k4⟩
  have al0 : (W0.alloc (Obj.cells #[.int .i64 0, .int .i64 0, .slice none 0 0, .slice none 0 0, .slice none 0 0] 116)).cell? ⟨w.heap.size, 0, none⟩ = some (.int .i64 x.params) := ((bel_alloc W0 (Obj.cells #[.int .i64 0, .int .i64 0, .slice none 0 0, .slice none 0 0, .slice none 0 0] 116)).cell (p := ⟨w.heap.size, 0, none⟩) (by show w.heap.size < _; omega)).trans k0
  have al1 : (W0.alloc (Obj.cells #[.int .i64 0, .int .i64 0, .slice none 0 0, .slice none 0 0, .slice none 0 0] 116)).cell? ⟨w.heap.size, 1, none⟩ = some (.int .i64 x.slots) := ((bel_alloc W0 (Obj.cells #[.int .i64 0, .int .i64 0, .slice none 0 0, .slice none 0 0, .slice none 0 0] 116)).cell (p := ⟨w.heap.size, 1, none⟩) (by show w.heap.size < _; omega)).trans k1
  have al2 : (W0.alloc (Obj.cells #[.int .i64 0, .int .i64 0, .slice none 0 0, .slice none 0 0, .slice none 0 0] 116)).cell? ⟨w.heap.size, 2, none⟩ = some (.slice a_ups x.ups.length c_ups) := ((bel_alloc W0 (Obj.cells #[.int .i64 0, .int .i64 0, .slice none 0 0, .slice none 0 0, .slice none 0 0] 116)).cell (p := ⟨w.heap.size, 2, none⟩) (by show w.heap.size < _; omega)).trans k2
  go_cut [3] from 8 (fun u wx => ∃ gw b c, u = .pointer (some ⟨gw, 0, none⟩) ∧ W0.heap.size ≤ gw ∧ wx.heap[gw]? = some (.cells #[.int .i64 x.params, .int .i64 x.slots, .slice b x.ups.length c, .slice none 0 0, .slice none 0 0] 116 (0, 0)) ∧ wx.ownsRow W0.heap.size 158 2 (.slice b x.ups.length c) x.ups.length (x.ups.flatMap UpL) ∧ (Value.slice b x.ups.length c).ownBlock ≠ some gw ∧ Below W0.heap.size W0 wx)
  case first =>
    have KEEP : Hid (∀ W' : World, Below W0.heap.size W0 W' → (fun w' => Below W0.heap.size W0 w' ∧ w'.cell? ⟨w.heap.size, 0, none⟩ = some (.int .i64 x.params) ∧ w'.cell? ⟨w.heap.size, 1, none⟩ = some (.int .i64 x.slots) ∧ w'.cell? ⟨w.heap.size, 2, none⟩ = some (.slice a_ups x.ups.length c_ups)) W') := fun W' hB => ⟨hB, (KP.out W' hB).1, (KP.out W' hB).2.1, (KP.out W' hB).2.2.1⟩
    go_region_held_law (fun w' => Below W0.heap.size W0 w' ∧ w'.cell? ⟨w.heap.size, 0, none⟩ = some (.int .i64 x.params) ∧ w'.cell? ⟨w.heap.size, 1, none⟩ = some (.int .i64 x.slots) ∧ w'.cell? ⟨w.heap.size, 2, none⟩ = some (.slice a_ups x.ups.length c_ups)) (first | (with_reducible assumption) | exact KEEP.out _ (by repeat (first | (with_reducible assumption) | (with_reducible exact Below.refl _ _) | (with_reducible refine Below.drew ?_) | (with_reducible refine Below.alloc ?_ (by first | (simp; done) | (simp; omega) | omega) _) | (with_reducible refine Below.setCell ?_ (by first | (simp; done) | (simp; omega) | omega) _)))) ((refine step_append_any _ rfl _ _ 112 rfl W0.heap.size 158 i0 _ 2 16 Try.underlying112 hi0 hza0 hzb0 hzc0 rfl (by decide) (.slice none 0 0) 0 [] rfl ⟨rfl, .inl ⟨rfl, rfl⟩⟩ a_ups x.ups.length c_ups (x.ups.flatMap UpL) rfl (by rw [flat_len UpL 2 (fun _ => rfl), Nat.mul_comm]) (HN0.out _ (B0.trans (Below.mono (by repeat (first | (with_reducible exact Below.refl _ _) | (with_reducible refine Below.drew ?_) | (with_reducible refine Below.alloc ?_ (by first | (simp; done) | (simp; omega) | omega) _))) B0.size))) (one_flat UpL (fun x u hu => by simp only [UpL, List.mem_cons, List.not_mem_nil, or_false] at hu; rcases hu with rfl | rfl <;> rfl) _) (by unfold maxLen; omega) (by omega) (by first | (simp; done) | (simp; omega) | omega) _ rfl ?_; intro b0 c0 wA own0 gr0 at0; simp only [Nat.zero_add, List.nil_append] at own0 at0 ⊢; have bA : Below W0.heap.size W0 wA := Below.grown (by repeat (first | (with_reducible exact Below.refl _ _) | (with_reducible refine Below.drew ?_) | (with_reducible refine Below.alloc ?_ (by first | (simp; done) | (simp; omega) | omega) _))) gr0 (by first | (simp; done) | (simp; omega) | omega) (fun k hk => by cases hk); have sA := bA.size; obtain ⟨k0, k1, k2, k3, k4⟩ := KP.out _ bA; obtain ⟨m0, m1, m2, m3, m4⟩ := KP.out (wA.alloc (Obj.cells #[.int .i64 0, .int .i64 0, .slice none 0 0, .slice none 0 0, .slice none 0 0] 116)) (bA.alloc bA.size _); first | (have rw_ : wA.heap[W0.heap.size]? = some (Obj.cells #[.int .i64 0, .int .i64 0, .slice none 0 0, .slice none 0 0, .slice none 0 0] 116) := (gr0.block W0.heap.size (by simp) (by simp [Value.ownBlock])).trans (by first | exact alloc_at (by simp) | (show (World.alloc _ _).heap[_]? = _; exact alloc_at (by simp))); have z0 := cell_of_row _ _ 0 _ _ _ rw_; have z1 := cell_of_row _ _ 1 _ _ _ rw_; have z2 := cell_of_row _ _ 2 _ _ _ rw_; have z3 := cell_of_row _ _ 3 _ _ _ rw_; have z4 := cell_of_row _ _ 4 _ _ _ rw_; have g0 := frozen_of_row _ _ 0 _ _ rw_; have g1 := frozen_of_row _ _ 1 _ _ rw_; have g2 := frozen_of_row _ _ 2 _ _ rw_; have g3 := frozen_of_row _ _ 3 _ _ rw_; have g4 := frozen_of_row _ _ 4 _ _ rw_; simp only [List.getElem?_toArray, List.getElem?_cons_zero, List.getElem?_cons_succ] at z0 z1 z2 z3 z4) | skip))
    all_goals
      go_wp2_with fail
      go_meet
      case rel =>
        first
        | (refine ⟨wA.heap.size, b0, c0, ?_, ?_⟩; (with_reducible rfl); exact ⟨sA, heap_alloc_new _ _, own0.alloc _, fun e => absurd (own_lt own0 e).2 (Nat.lt_irrefl _), bA.alloc sA _⟩)
        | (have hne : (Value.slice b0 x.ups.length c0).ownBlock ≠ some W0.heap.size := by rcases at0 with e | e <;> rw [e] <;> simp [Value.ownBlock]
           refine ⟨W0.heap.size, b0, c0, ?_, ?_⟩; (with_reducible rfl); exact ⟨Nat.le_refl _, (heap_setCell_same _ _ _ _ _ _ (heap_setCell_same _ _ _ _ _ _ (heap_setCell_same _ _ _ _ _ _ (heap_setCell_same _ _ _ _ _ _ (heap_setCell_same _ _ _ _ _ _ rw_))))), (own_set (own_set (own_set (own_set (own_set own0 _ _ hne) _ _ hne) _ _ hne) _ _ hne) _ _ hne), hne, (((((bA.setCell (Nat.le_refl _) _).setCell (Nat.le_refl _) _).setCell (Nat.le_refl _) _).setCell (Nat.le_refl _) _).setCell (Nat.le_refl _) _)⟩)
  case rest =>
    rename World => wx
    obtain ⟨gw, b, c, rfl, hgw, rW, own0, hne0, bx⟩ := hcut
    have sx := bx.size
    have lw := row_lt rW
    have BX : Below w.heap.size w wx := B0.trans (bx.mono (by omega))
    have rB1 := (bx.block w.heap.size (by omega)).trans rB
    have rZ1 := (bx.block (w.heap.size + 1) (by omega)).trans rZ
    have HI0 : Hid (∀ b', (Value.slice b x.ups.length c).ownBlock = some b' → In W0.heap.size wx.heap.size b') := fun b' h => ⟨(own_lt own0 h).1, (own_lt own0 h).2⟩
    clear rB rZ k0 k1 k2 k3 k4 al0 al1 al2 KP HN0
    have k3 := cell_of_row _ _ 3 _ _ _ rB1
    simp only [List.getElem?_toArray, List.getElem?_cons_zero, List.getElem?_cons_succ] at k3
    go_wp2_with fail
    go_loopw [19] (fun y wr => ∃ (i : Nat) (b1 : Option Addr) (c1 : Nat), y = .int .i64 i ∧ i ≤ x.code.length ∧ wr.heap[gw]? = some (.cells #[.int .i64 x.params, .int .i64 x.slots, .slice b x.ups.length c, .slice b1 i c1, .slice none 0 0] 116 (0, 0)) ∧ wr.ownsRow wx.heap.size 148 7 (.slice b1 i c1) i ((x.code.take i).flatMap InstrL) ∧ Outs (fun b' => b' = gw) wx wr) (fun y _ => x.code.length - (intOf y).toNat)
    case atStart => exact ⟨0, none, 0, rfl, Nat.zero_le _, rW, ⟨rfl, .inl ⟨rfl, rfl⟩⟩, Outs.refl _ _⟩
    case round =>
      rename World => wr
      obtain ⟨i, b1, c1, rfl, hil, rG, own1, hO⟩ := hrel
      have so := hO.size
      have BR : Below w.heap.size w wr := BX.trans (hO.below (by omega) (fun b hb e => by omega))
      by_cases hlt : i < x.code.length
      · obtain ⟨g, oo, cx, hax, _, hg, ⟨okI, rfl⟩, _, hc⟩ := HR1.out wr BR i hlt
        have x0 := hc 0 (by decide)
        have x1 := hc 1 (by decide)
        have x2 := hc 2 (by decide)
        have x3 := hc 3 (by decide)
        have x4 := hc 4 (by decide)
        have x5 := hc 5 (by decide)
        have x6 := hc 6 (by decide)
        simp only [List.getElem?_cons_zero, List.getElem?_cons_succ, Nat.add_zero] at x0 x1 x2 x3 x4 x5 x6
        have mc : i * 7 = 7 * i := Nat.mul_comm _ _
        clear hc
        have HWM : Hid ((x.code[i]).wt + 1 ≤ wtR InstrD.wt x.code) := by have := wtR_mem InstrD.wt x.code i hlt; show _ ≤ _; omega
        have HT : Hid ((x.code.take (i + 1)).flatMap InstrL = (x.code.take i).flatMap InstrL ++ InstrL x.code[i]) := by show _ = _; rw [List.take_succ_eq_append_getElem hlt, List.flatMap_append]; simp
        obtain ⟨y, hy⟩ : ∃ y, y = x.code[i] := ⟨_, rfl⟩
        rw [← hy] at x0 x1 x2 x3 x4 x5 x6 HT HWM okI
        clear hy
        have hwy : y.wt ≤ 1048576 := by have := HWM.out; omega
        unfold InstrD.wt at hwy
        have hys : y.v.s.size ≤ 1048576 := by omega
        have hyt : y.s.size ≤ 1048576 := by omega
        subst hax
        go_wp2_with fail
        obtain ⟨W1, hW1⟩ : ∃ W, W = wr.alloc (Obj.cells #[.int .i64 y.op, .int .i64 y.a, .int .i64 y.v.k, .int .i64 y.v.n, .string y.v.s, .string y.s, .int .i64 y.line] 148) := ⟨_, rfl⟩
        rw [← hW1]
        have rI : W1.heap[wr.heap.size]? = some (.cells #[.int .i64 y.op, .int .i64 y.a, .int .i64 y.v.k, .int .i64 y.v.n, .string y.v.s, .string y.s, .int .i64 y.line] 148 (0, 0)) := by rw [hW1]; exact heap_alloc_new _ _
        have bI : Below wr.heap.size wr W1 := by rw [hW1]; exact bel_alloc _ _
        clear hW1 x0 x1 x2 x3 x4 x5 x6
        have KEEP : Hid (∀ W' : World, Below wr.heap.size wr W' → W'.heap[wr.heap.size]? = some (.cells #[.int .i64 y.op, .int .i64 y.a, .int .i64 y.v.k, .int .i64 y.v.n, .string y.v.s, .string y.s, .int .i64 y.line] 148 (0, 0)) → (fun w' => Below wr.heap.size wr w' ∧ w'.heap[wr.heap.size]? = some (.cells #[.int .i64 y.op, .int .i64 y.a, .int .i64 y.v.k, .int .i64 y.v.n, .string y.v.s, .string y.s, .int .i64 y.line] 148 (0, 0)) ∧ w'.cell? ⟨wr.heap.size, 2, none⟩ = some (.int .i64 y.v.k) ∧ w'.frozen? ⟨wr.heap.size, 2, none⟩ = false ∧ w'.cell? ⟨wr.heap.size, 3, none⟩ = some (.int .i64 y.v.n) ∧ w'.frozen? ⟨wr.heap.size, 3, none⟩ = false ∧ w'.cell? ⟨wr.heap.size, 4, none⟩ = some (.string y.v.s) ∧ w'.frozen? ⟨wr.heap.size, 4, none⟩ = false ∧ w'.cell? ⟨wr.heap.size, 5, none⟩ = some (.string y.s) ∧ w'.frozen? ⟨wr.heap.size, 5, none⟩ = false) W') := fun W' hB hr => ⟨hB, hr, cell_of_row _ _ 2 _ _ _ hr, frozen_of_row _ _ 2 _ _ hr, cell_of_row _ _ 3 _ _ _ hr, frozen_of_row _ _ 3 _ _ hr, cell_of_row _ _ 4 _ _ _ hr, frozen_of_row _ _ 4 _ _ hr, cell_of_row _ _ 5 _ _ _ hr, frozen_of_row _ _ 5 _ _ hr⟩
        have hs1 := KEEP.out W1 bI rI
        have hs1 := KEEP.out W1.drew bI.drew rI
        clear hs1
        go_cut [19] from 19 to 37 (fun z wy => z = .int .i64 i ∧ Below wr.heap.size wr wy ∧ wy.heap[wr.heap.size]? = some (.cells #[.int .i64 y.op, .int .i64 y.a, .int .i64 y.v.k, .int .i64 y.v.n, .string y.v.s, .string y.s, .int .i64 y.line] 148 (0, 0)))
        case first =>
          go_region_held3 (fun w' => Below wr.heap.size wr w' ∧ w'.heap[wr.heap.size]? = some (.cells #[.int .i64 y.op, .int .i64 y.a, .int .i64 y.v.k, .int .i64 y.v.n, .string y.v.s, .string y.s, .int .i64 y.line] 148 (0, 0)) ∧ w'.cell? ⟨wr.heap.size, 2, none⟩ = some (.int .i64 y.v.k) ∧ w'.frozen? ⟨wr.heap.size, 2, none⟩ = false ∧ w'.cell? ⟨wr.heap.size, 3, none⟩ = some (.int .i64 y.v.n) ∧ w'.frozen? ⟨wr.heap.size, 3, none⟩ = false ∧ w'.cell? ⟨wr.heap.size, 4, none⟩ = some (.string y.v.s) ∧ w'.frozen? ⟨wr.heap.size, 4, none⟩ = false ∧ w'.cell? ⟨wr.heap.size, 5, none⟩ = some (.string y.s) ∧ w'.frozen? ⟨wr.heap.size, 5, none⟩ = false) (first | (with_reducible assumption) | exact KEEP.out _ (by repeat (first | (with_reducible exact bI) | (with_reducible assumption) | (refine bel_of (Q := ?_) ?_; with_reducible assumption) | (with_reducible refine Below.drew ?_) | (with_reducible refine Below.setCell ?_ (by show wr.heap.size ≤ wr.heap.size; omega) _))) (by repeat (first | (with_reducible exact rI) | (with_reducible assumption) | (refine row_of (A := ?_) (R := ?_) ?_; with_reducible assumption) | ((with_reducible refine row_put ?_ ?_); rfl) | exact rI))) (first | (go_at_call 130; refine (copied_any y.v.k y.v.n y.v.s _ hys).mono ?_; rintro e w' ⟨rfl, hb'⟩; have hq' : Below wr.heap.size wr w' := bel_stepr (by repeat (first | (with_reducible exact bI) | (with_reducible assumption) | (refine bel_of (Q := ?_) ?_; with_reducible assumption) | (with_reducible refine Below.drew ?_) | (with_reducible refine Below.setCell ?_ (by show wr.heap.size ≤ wr.heap.size; omega) _))) hb'; have hr' := row_step hb' (b := wr.heap.size) (o := Obj.cells #[.int .i64 y.op, .int .i64 y.a, .int .i64 y.v.k, .int .i64 y.v.n, .string y.v.s, .string y.s, .int .i64 y.line] 148) (by repeat (first | (with_reducible exact rI) | (with_reducible assumption) | (refine row_of (A := ?_) (R := ?_) ?_; with_reducible assumption) | ((with_reducible refine row_put ?_ ?_); rfl) | exact rI))) | (go_at_call 131; refine (clone_any y.s _ hyt).mono ?_; rintro e w' ⟨rfl, hb'⟩; have hq' : Below wr.heap.size wr w' := bel_stepr (by repeat (first | (with_reducible exact bI) | (with_reducible assumption) | (refine bel_of (Q := ?_) ?_; with_reducible assumption) | (with_reducible refine Below.drew ?_) | (with_reducible refine Below.setCell ?_ (by show wr.heap.size ≤ wr.heap.size; omega) _))) hb'; have hr' := row_step hb' (b := wr.heap.size) (o := Obj.cells #[.int .i64 y.op, .int .i64 y.a, .int .i64 y.v.k, .int .i64 y.v.n, .string y.v.s, .string y.s, .int .i64 y.line] 148) (by repeat (first | (with_reducible exact rI) | (with_reducible assumption) | (refine row_of (A := ?_) (R := ?_) ?_; with_reducible assumption) | ((with_reducible refine row_put ?_ ?_); rfl) | exact rI))))
          all_goals
            go_wp2_with fail
            go_meet
            case rel => exact ⟨rfl, by repeat (first | (with_reducible exact bI) | (with_reducible assumption) | (refine bel_of (Q := ?_) ?_; with_reducible assumption) | (with_reducible refine Below.drew ?_) | (with_reducible refine Below.setCell ?_ (by show wr.heap.size ≤ wr.heap.size; omega) _)), by repeat (first | (with_reducible exact rI) | (with_reducible assumption) | (refine row_of (A := ?_) (R := ?_) ?_; with_reducible assumption) | ((with_reducible refine row_put ?_ ?_); rfl) | exact rI)⟩
        case rest =>
          rename World => wI
          obtain ⟨rfl, BI, rI⟩ := hcut
          have sI := BI.size
          clear KEEP bI
          have rG1 := (BI.block gw (row_lt rG)).trans rG
          have lI := row_lt rI
          have c0' := cell_of_row _ _ 0 _ _ _ rI
          have c1' := cell_of_row _ _ 1 _ _ _ rI
          have c2' := cell_of_row _ _ 2 _ _ _ rI
          have c3' := cell_of_row _ _ 3 _ _ _ rI
          have c4' := cell_of_row _ _ 4 _ _ _ rI
          have c5' := cell_of_row _ _ 5 _ _ _ rI
          have c6' := cell_of_row _ _ 6 _ _ _ rI
          have k3' := cell_of_row _ _ 3 _ _ _ rG1
          simp only [List.getElem?_toArray, List.getElem?_cons_zero, List.getElem?_cons_succ] at c0' c1' c2' c3' c4' c5' c6' k3'
          have OW := (own_below own1 BI).alloc (Obj.cells #[.int .i64 y.op, .int .i64 y.a, .int .i64 y.v.k, .int .i64 y.v.n, .string y.v.s, .string y.s, .int .i64 y.line] 148)
          have HOW : Hid ((wI.alloc (Obj.cells #[.int .i64 y.op, .int .i64 y.a, .int .i64 y.v.k, .int .i64 y.v.n, .string y.v.s, .string y.s, .int .i64 y.line] 148)).ownsRow wx.heap.size 148 7 (.slice b1 i c1) i ((x.code.take i).flatMap InstrL)) := OW
          have hng : (Value.slice b1 i c1).ownBlock ≠ some gw := own_ne own1 lw
          have HO2 : Hid (Outs (fun b' => b' = gw) wx (wI.alloc (Obj.cells #[.int .i64 y.op, .int .i64 y.a, .int .i64 y.v.k, .int .i64 y.v.n, .string y.v.s, .string y.s, .int .i64 y.line] 148))) := (hO.bel BI).alloc _
          have hge : ∀ g', (Value.slice b1 i c1).ownBlock = some g' → wx.heap.size ≤ g' := fun g' h => (own_lt own1 h).1
          clear OW
          go_wp2_with (at_builtin; go_must (refine wpList_append_any _ rfl _ _ 113 rfl wx.heap.size 148 i1 _ 7 72 Try.underlying113 hi1 hza1 hzb1 hzc1 rfl (by decide) _ _ _ rfl HOW.out (some ⟨wI.heap.size, 0, none⟩) 1 1 [.int .i64 y.op, .int .i64 y.a, .int .i64 y.v.k, .int .i64 y.v.n, .string y.v.s, .string y.s, .int .i64 y.line] rfl rfl (fun j u hu => ⟨_, rfl, World.news_of_block (heap_alloc_new _ _) j u hu⟩) (by simp [Value.oneCell']) (by unfold maxLen; omega) (by omega) (by rw [size_alloc]; omega) _ rfl ?_; intro b4 c4 w4 own4 gr4 at4; have rg4 := (gr4.block gw (by simp; omega) (fun e => hng e.symm)).trans ((Below.heap_alloc wI (Obj.cells #[.int .i64 y.op, .int .i64 y.a, .int .i64 y.v.k, .int .i64 y.v.n, .string y.v.s, .string y.s, .int .i64 y.line] 148) gw (by omega)).trans rG1); have q3 := cell_of_row _ _ 3 _ _ _ rg4; have p3 := frozen_of_row _ _ 3 _ _ rg4; simp only [List.getElem?_toArray, List.getElem?_cons_zero, List.getElem?_cons_succ] at q3))
          have hn4 : (Value.slice b4 (i + 1) c4).ownBlock ≠ some gw := own_ne own4 lw
          go_roundw
          case rel => exact ⟨i + 1, b4, c4, by go_num, by omega, heap_setCell_same _ _ _ _ _ _ rg4, by rw [HT.out]; exact own_set own4 _ _ hn4, (HO2.out.grown gr4 (fun g' h => .inl (hge g' h))).set _ _ rfl⟩
          case measure => simp [intOf]; omega
      · obtain rfl : i = x.code.length := by omega
        rw [List.take_length] at own1
        have own0w := own_keep own0 (fun g' _ hg' _ => hO.block g' (own_lt own0 hg').2 (fun e => hne0 (by rw [hg', e])))
        have rB2 := (hO.block w.heap.size (by omega) (fun e => by omega)).trans rB1
        have rZ2 := (hO.block (w.heap.size + 1) (by omega) (fun e => by omega)).trans rZ1
        have lg := row_lt rG
        have hne1 : (Value.slice b1 x.code.length c1).ownBlock ≠ some gw := own_ne own1 lw
        have HX0 : Hid (wr.ownsRow W0.heap.size 158 2 (.slice b x.ups.length c) x.ups.length (x.ups.flatMap UpL)) := own0w
        have HX1 : Hid (wr.ownsRow wx.heap.size 148 7 (.slice b1 x.code.length c1) x.code.length (x.code.flatMap InstrL)) := own1
        clear own0w own0 own1 rB1 rZ1 k3
        have k4 := cell_of_row _ _ 4 _ _ _ rB2
        simp only [List.getElem?_toArray, List.getElem?_cons_zero, List.getElem?_cons_succ] at k4
        go_wp2_with fail
        go_loopw [41] (fun z wq => ∃ (i : Nat) (b2 : Option Addr) (c2 : Nat), z = .int .i64 i ∧ i ≤ x.names.length ∧ wq.heap[gw]? = some (.cells #[.int .i64 x.params, .int .i64 x.slots, .slice b x.ups.length c, .slice b1 x.code.length c1, .slice b2 i c2] 116 (0, 0)) ∧ wq.ownsRow wr.heap.size 161 4 (.slice b2 i c2) i ((x.names.take i).flatMap NameL) ∧ Outs (fun b' => b' = gw) wr wq) (fun z _ => x.names.length - (intOf z).toNat)
        case atStart => exact ⟨0, none, 0, rfl, Nat.zero_le _, rG, ⟨rfl, .inl ⟨rfl, rfl⟩⟩, Outs.refl _ _⟩
        case round =>
          rename World => wq
          obtain ⟨i, b2, c2, rfl, hil2, rH, own2, hO2⟩ := hrel
          have so2 := hO2.size
          have BQ : Below w.heap.size w wq := BR.trans (hO2.below (by omega) (fun b hb e => by omega))
          by_cases hlt : i < x.names.length
          · obtain ⟨g, oo, cx, hax, _, hg, ⟨okI, rfl⟩, _, hc⟩ := HR2.out wq BQ i hlt
            have x0 := hc 0 (by decide)
            have x1 := hc 1 (by decide)
            have x2 := hc 2 (by decide)
            have x3 := hc 3 (by decide)
            simp only [List.getElem?_cons_zero, List.getElem?_cons_succ, Nat.add_zero] at x0 x1 x2 x3
            have mc : i * 4 = 4 * i := Nat.mul_comm _ _
            clear hc
            have HWM : Hid ((x.names[i]).wt + 1 ≤ wtR NameD.wt x.names) := by have := wtR_mem NameD.wt x.names i hlt; show _ ≤ _; omega
            have HT : Hid ((x.names.take (i + 1)).flatMap NameL = (x.names.take i).flatMap NameL ++ NameL x.names[i]) := by show _ = _; rw [List.take_succ_eq_append_getElem hlt, List.flatMap_append]; simp
            obtain ⟨y, hy⟩ : ∃ y, y = x.names[i] := ⟨_, rfl⟩
            rw [← hy] at x0 x1 x2 x3 HT HWM okI
            clear hy
            have hwy : y.wt ≤ 1048576 := by have := HWM.out; omega
            unfold NameD.wt at hwy
            have hyt : y.text.size ≤ 1048576 := hwy
            subst hax
            go_wp2_with fail
            refine (clone_any y.text _ hyt).mono ?_
            rintro e wn ⟨rfl, hbn⟩
            have rN := (hbn.block wq.heap.size (by simp)).trans (heap_alloc_new wq (Obj.cells #[.string y.text, .int .i64 y.slot, .int .i64 y.frm, .int .i64 y.upto] 161))
            have BN : Below wq.heap.size wq wn := boxed hbn
            have sN := BN.size
            have lN := row_lt rN
            have rH1 := (BN.block gw (row_lt rH)).trans rH
            clear hbn x0 x1 x2 x3
            have c0' := cell_of_row _ _ 0 _ _ _ rN
            have c1' := cell_of_row _ _ 1 _ _ _ rN
            have c2' := cell_of_row _ _ 2 _ _ _ rN
            have c3' := cell_of_row _ _ 3 _ _ _ rN
            have f0' := frozen_of_row _ _ 0 _ _ rN
            have k4' := cell_of_row _ _ 4 _ _ _ rH1
            simp only [List.getElem?_toArray, List.getElem?_cons_zero, List.getElem?_cons_succ] at c0' c1' c2' c3' k4'
            have hnq : (Value.slice b2 i c2).ownBlock ≠ some wq.heap.size := fun e => absurd (own_lt own2 e).2 (Nat.lt_irrefl _)
            have OW := (own_set (own_below own2 BN) ⟨wq.heap.size, 0, none⟩ (.string y.text) hnq).alloc (Obj.cells #[.string y.text, .int .i64 y.slot, .int .i64 y.frm, .int .i64 y.upto] 161)
            have HOW : Hid (((wn.setCell ⟨wq.heap.size, 0, none⟩ (.string y.text)).alloc (Obj.cells #[.string y.text, .int .i64 y.slot, .int .i64 y.frm, .int .i64 y.upto] 161)).ownsRow wr.heap.size 161 4 (.slice b2 i c2) i ((x.names.take i).flatMap NameL)) := OW
            have hng : (Value.slice b2 i c2).ownBlock ≠ some gw := own_ne own2 lg
            have HO3 : Hid (Outs (fun b' => b' = gw) wr ((wn.setCell ⟨wq.heap.size, 0, none⟩ (.string y.text)).alloc (Obj.cells #[.string y.text, .int .i64 y.slot, .int .i64 y.frm, .int .i64 y.upto] 161))) := ((hO2.bel (BN.setCell (Nat.le_refl _) _))).alloc _
            have hge : ∀ g', (Value.slice b2 i c2).ownBlock = some g' → wr.heap.size ≤ g' := fun g' h => (own_lt own2 h).1
            have rGS : ((wn.setCell ⟨wq.heap.size, 0, none⟩ (.string y.text)).alloc (Obj.cells #[.string y.text, .int .i64 y.slot, .int .i64 y.frm, .int .i64 y.upto] 161)).heap[gw]? = some (.cells #[.int .i64 x.params, .int .i64 x.slots, .slice b x.ups.length c, .slice b1 x.code.length c1, .slice b2 i c2] 116 (0, 0)) := (Below.heap_alloc (wn.setCell ⟨wq.heap.size, 0, none⟩ (.string y.text)) (Obj.cells #[.string y.text, .int .i64 y.slot, .int .i64 y.frm, .int .i64 y.upto] 161) gw (by simp; omega)).trans ((heap_setCell_other _ _ _ _ (by show gw ≠ wq.heap.size; omega)).trans rH1)
            have HGS : Hid (((wn.setCell ⟨wq.heap.size, 0, none⟩ (.string y.text)).alloc (Obj.cells #[.string y.text, .int .i64 y.slot, .int .i64 y.frm, .int .i64 y.upto] 161)).heap[gw]? = some (.cells #[.int .i64 x.params, .int .i64 x.slots, .slice b x.ups.length c, .slice b1 x.code.length c1, .slice b2 i c2] 116 (0, 0))) := rGS
            clear OW rGS
            go_wp2_with (at_builtin; go_must (refine wpList_append_any _ rfl _ _ 114 rfl wr.heap.size 161 i2 _ 4 40 Try.underlying114 hi2 hza2 hzb2 hzc2 rfl (by decide) _ _ _ rfl HOW.out (some ⟨wn.heap.size, 0, none⟩) 1 1 [.string y.text, .int .i64 y.slot, .int .i64 y.frm, .int .i64 y.upto] rfl rfl (fun j u hu => ⟨_, rfl, World.news_of_block (alloc_at (by simp)) j u hu⟩) (by simp [Value.oneCell']) (by unfold maxLen; omega) (by omega) (by simp; omega) _ rfl ?_; intro b4 c4 w4 own4 gr4 at4; have rg4 := (gr4.block gw (by simp; omega) (fun e => hng e.symm)).trans HGS.out; have q4 := cell_of_row _ _ 4 _ _ _ rg4; have p4 := frozen_of_row _ _ 4 _ _ rg4; simp only [List.getElem?_toArray, List.getElem?_cons_zero, List.getElem?_cons_succ] at q4))
            have hn4 : (Value.slice b4 (i + 1) c4).ownBlock ≠ some gw := own_ne own4 lg
            go_roundw
            case rel => exact ⟨i + 1, b4, c4, by go_num, by omega, heap_setCell_same _ _ _ _ _ _ rg4, by rw [HT.out]; exact own_set own4 _ _ hn4, (HO3.out.grown gr4 (fun g' h => .inl (hge g' h))).set _ _ rfl⟩
            case measure => simp [intOf]; omega
          · obtain rfl : i = x.names.length := by omega
            rw [List.take_length] at own2
            have own0w := own_keep HX0.out (fun g' _ hg' _ => hO2.block g' (own_lt HX0.out hg').2 (fun e => hne0 (by rw [hg', e])))
            have own1w := own_keep HX1.out (fun g' _ hg' _ => hO2.block g' (own_lt HX1.out hg').2 (fun e => hne1 (by rw [hg', e])))
            have rZ3 := (hO2.block (w.heap.size + 1) (by omega) (fun e => by omega)).trans rZ2
            have U0 : RowD 2 UpOwn wq (fun b' => (Value.slice b x.ups.length c).ownBlock = some b') x.ups b := rowD_blk UpL (fun _ => rfl) (fun j h => ⟨HO0.out j h, rfl⟩) rfl own0w
            have U1 : RowD 7 InstrOwn wq (fun b' => (Value.slice b1 x.code.length c1).ownBlock = some b') x.code b1 := rowD_blk InstrL (fun _ => rfl) (fun j h => ⟨HO1.out j h, rfl⟩) rfl own1w
            have U2 : RowD 4 NameOwn wq (fun b' => (Value.slice b2 x.names.length c2).ownBlock = some b') x.names b2 := rowD_blk NameL (fun _ => rfl) (fun j h => ⟨HO2.out j h, rfl⟩) rfl own2
            have s0 : ∀ b', (Value.slice b x.ups.length c).ownBlock = some b' → In W0.heap.size wx.heap.size b' := HI0.out
            have s1 : ∀ b', (Value.slice b1 x.code.length c1).ownBlock = some b' → In wx.heap.size wr.heap.size b' := fun b' h => ⟨(own_lt HX1.out h).1, (own_lt HX1.out h).2⟩
            have s2 : ∀ b', (Value.slice b2 x.names.length c2).ownBlock = some b' → In wr.heap.size wq.heap.size b' := fun b' h => ⟨(own_lt own2 h).1, (own_lt own2 h).2⟩
            have q0 := cell_of_row _ _ 0 _ _ _ rH
            have z0 := cell_of_row _ _ 0 _ _ _ rZ3
            have y0 := frozen_of_row _ _ 0 _ _ rZ3
            have q1 := cell_of_row _ _ 1 _ _ _ rH
            have z1 := cell_of_row _ _ 1 _ _ _ rZ3
            have y1 := frozen_of_row _ _ 1 _ _ rZ3
            have q2 := cell_of_row _ _ 2 _ _ _ rH
            have z2 := cell_of_row _ _ 2 _ _ _ rZ3
            have y2 := frozen_of_row _ _ 2 _ _ rZ3
            have q3 := cell_of_row _ _ 3 _ _ _ rH
            have z3 := cell_of_row _ _ 3 _ _ _ rZ3
            have y3 := frozen_of_row _ _ 3 _ _ rZ3
            have q4 := cell_of_row _ _ 4 _ _ _ rH
            have z4 := cell_of_row _ _ 4 _ _ _ rZ3
            have y4 := frozen_of_row _ _ 4 _ _ rZ3
            simp only [List.getElem?_toArray, List.getElem?_cons_zero, List.getElem?_cons_succ] at q0 z0 q1 z1 q2 z2 q3 z3 q4 z4
            clear own0w own1w own2 rZ3 rZ2 rB2 k4 hO hO2 rG
            go_wp2_with fail
            obtain ⟨wf, hwf⟩ : ∃ wf, wf = (((((wq.setCell ⟨w.heap.size + 1, 0, none⟩ (.int .i64 x.params)).setCell ⟨w.heap.size + 1, 1, none⟩ (.int .i64 x.slots)).setCell ⟨w.heap.size + 1, 2, none⟩ (.slice b x.ups.length c)).setCell ⟨w.heap.size + 1, 3, none⟩ (.slice b1 x.code.length c1)).setCell ⟨w.heap.size + 1, 4, none⟩ (.slice b2 x.names.length c2)) := ⟨_, rfl⟩
            have Uf0 : RowD 2 UpOwn wf (In W0.heap.size wx.heap.size) x.ups b := by rw [hwf]; exact ((((((U0.set UpOwn_keeps _ _ (fun b' hb => by have := (s0 b' hb).1; show b' ≠ w.heap.size + 1; omega)).set UpOwn_keeps _ _ (fun b' hb => by have := (s0 b' hb).1; show b' ≠ w.heap.size + 1; omega)).set UpOwn_keeps _ _ (fun b' hb => by have := (s0 b' hb).1; show b' ≠ w.heap.size + 1; omega)).set UpOwn_keeps _ _ (fun b' hb => by have := (s0 b' hb).1; show b' ≠ w.heap.size + 1; omega)).set UpOwn_keeps _ _ (fun b' hb => by have := (s0 b' hb).1; show b' ≠ w.heap.size + 1; omega))).later UpOwn_keeps s0 (fun _ _ => rfl)
            have Uf1 : RowD 7 InstrOwn wf (In wx.heap.size wr.heap.size) x.code b1 := by rw [hwf]; exact ((((((U1.set InstrOwn_keeps _ _ (fun b' hb => by have := (s1 b' hb).1; show b' ≠ w.heap.size + 1; omega)).set InstrOwn_keeps _ _ (fun b' hb => by have := (s1 b' hb).1; show b' ≠ w.heap.size + 1; omega)).set InstrOwn_keeps _ _ (fun b' hb => by have := (s1 b' hb).1; show b' ≠ w.heap.size + 1; omega)).set InstrOwn_keeps _ _ (fun b' hb => by have := (s1 b' hb).1; show b' ≠ w.heap.size + 1; omega)).set InstrOwn_keeps _ _ (fun b' hb => by have := (s1 b' hb).1; show b' ≠ w.heap.size + 1; omega))).later InstrOwn_keeps s1 (fun _ _ => rfl)
            have Uf2 : RowD 4 NameOwn wf (In wr.heap.size wq.heap.size) x.names b2 := by rw [hwf]; exact ((((((U2.set NameOwn_keeps _ _ (fun b' hb => by have := (s2 b' hb).1; show b' ≠ w.heap.size + 1; omega)).set NameOwn_keeps _ _ (fun b' hb => by have := (s2 b' hb).1; show b' ≠ w.heap.size + 1; omega)).set NameOwn_keeps _ _ (fun b' hb => by have := (s2 b' hb).1; show b' ≠ w.heap.size + 1; omega)).set NameOwn_keeps _ _ (fun b' hb => by have := (s2 b' hb).1; show b' ≠ w.heap.size + 1; omega)).set NameOwn_keeps _ _ (fun b' hb => by have := (s2 b' hb).1; show b' ≠ w.heap.size + 1; omega))).later NameOwn_keeps s2 (fun _ _ => rfl)
            have zf : wq.heap.size ≤ wf.heap.size := by rw [hwf]; simp
            have Bf : Below w.heap.size w wf := by rw [hwf]; repeat (first | (with_reducible exact BQ) | (with_reducible refine Below.setCell ?_ (by show w.heap.size ≤ w.heap.size + 1; omega) _))
            exact bodyPost_ret (v := .agg #[.int .i64 x.params, .int .i64 x.slots, .slice b x.ups.length c, .slice b1 x.code.length c1, .slice b2 x.names.length c2]) (by simp [results, Try.results104, go_sem, *]) rfl (by rw [← hwf]; exact ⟨⟨[.int .i64 x.params, .int .i64 x.slots, .slice b x.ups.length c, .slice b1 x.code.length c1, .slice b2 x.names.length c2], rfl, ok, _, parts5 (lo := w.heap.size) (hi := wf.heap.size) (c0 := W0.heap.size) (d0 := wx.heap.size) (c1 := wx.heap.size) (d1 := wr.heap.size) (c2 := wr.heap.size) (d2 := wq.heap.size) (c3 := wq.heap.size) (d3 := wq.heap.size) (c4 := wq.heap.size) (d4 := wq.heap.size) (by omega) (by omega) (by omega) (by omega) (by omega) (by omega) (by omega) (by omega) (by omega) (by omega) (by omega), b, c, b1, c1, b2, c2, rfl, l_ups, Uf0, l_code, Uf1, l_names, Uf2⟩, Bf⟩)
set_option maxRecDepth 100000 in
set_option maxHeartbeats 1600000 in
theorem copycode_impl (ps : List ProtoD) (a : Option Addr) (ca lo hi : Nat) (w : World) (hh : hi ≤ w.heap.size) (hw : wtR ProtoD.wt ps ≤ 1048576) (hS : RowAt 5 ProtoC w lo hi ps a) :
    Calls Try.prog 62 #[.slice a ps.length ca] w fun e w' => (∃ b cb, e = .returned (.slice b ps.length cb) ∧ RowD 5 ProtoOwn w' (In w.heap.size w'.heap.size) ps b) ∧ Below w.heap.size w w' := by
  have hn := len_wtR ProtoD.wt ps
  obtain ⟨i4, hi4, hza4, hzb4, hzc4⟩ := info_parts infO_Proto
  go_enter Try.func62, Try.ntmps62
  go_wp2_with fail
  go_loopw [3, 8] (fun x y wr => ∃ (i : Nat) (b : Option Addr) (c : Nat), x = .slice b i c ∧ y = .int .i64 i ∧ i ≤ ps.length ∧ GrowD 5 ProtoOwn wr w.heap.size 116 (ps.take i) i b c ∧ Below w.heap.size w wr) (fun _ y _ => ps.length - (intOf y).toNat)
  case atStart => exact ⟨0, none, 0, rfl, rfl, Nat.zero_le _, GrowD.nil ⟨rfl, .inl ⟨rfl, rfl⟩⟩, Below.refl _ _⟩
  case round =>
    obtain ⟨i, b, c, rfl, rfl, hil, hG, hbl⟩ := hrel
    by_cases hlt : i < ps.length
    · obtain ⟨g, o, cp, rfl, _, hg, hP, _, hc⟩ := hS i hlt
      have hwm := wtR_mem ProtoD.wt ps i hlt
      have hP1 := ProtoC_keeps.below hP hbl hh
      have hzr := hbl.size
      have hhr : hi ≤ wr.heap.size := Nat.le_trans hh hbl.size
      obtain ⟨ok, a_ups, c_ups, a_code, c_code, a_names, c_names, rfl, l_ups, r_ups, l_code, r_code, l_names, r_names⟩ := hP1
      have x0 := (hbl.cell (p := ⟨g, o + 5 * i + 0, none⟩) (by show g < _; omega)).trans (hc 0 (by decide))
      have x1 := (hbl.cell (p := ⟨g, o + 5 * i + 1, none⟩) (by show g < _; omega)).trans (hc 1 (by decide))
      have x2 := (hbl.cell (p := ⟨g, o + 5 * i + 2, none⟩) (by show g < _; omega)).trans (hc 2 (by decide))
      have x3 := (hbl.cell (p := ⟨g, o + 5 * i + 3, none⟩) (by show g < _; omega)).trans (hc 3 (by decide))
      have x4 := (hbl.cell (p := ⟨g, o + 5 * i + 4, none⟩) (by show g < _; omega)).trans (hc 4 (by decide))
      simp only [List.getElem?_cons_zero, List.getElem?_cons_succ, Nat.add_zero] at x0 x1 x2 x3 x4
      have mc : i * 5 = 5 * i := Nat.mul_comm _ _
      have HT : Hid (ps.take (i + 1) = ps.take i ++ [ps[i]]) := List.take_succ_eq_append_getElem hlt
      obtain ⟨x, hx⟩ : ∃ x, x = ps[i] := ⟨_, rfl⟩
      rw [← hx] at x0 x1 x2 x3 x4 hwm HT ok l_ups r_ups l_code r_code l_names r_names
      clear hx hP hc
      have hwx : x.wt ≤ 1048576 := by omega
      obtain ⟨LS, hLS, hpush⟩ := hG.split ProtoOwn_keeps hbl.size
      have HL : Hid (wr.ownsRow w.heap.size 116 5 (.slice b i c) i LS) := hLS
      have HP : Hid (∀ (w1 w' : World) (a' : Option Addr) (c' : Nat) (x : ProtoD) (l : List Value), Below wr.heap.size wr w1 → ProtoOwn w1 (In wr.heap.size w1.heap.size) x l → l.length = 5 → w'.ownsRow w.heap.size 116 5 (.slice a' (i + 1) c') (i + 1) (LS ++ l) → w1.grownBy w' (Value.slice b i c).ownBlock → ((Value.slice a' (i + 1) c').ownBlock = (Value.slice b i c).ownBlock ∨ (Value.slice a' (i + 1) c').ownBlock = some w1.heap.size) → GrowD 5 ProtoOwn w' w.heap.size 116 (ps.take i ++ [x]) (i + 1) a' c') := hpush
      have HBL : Hid (Below w.heap.size w wr) := hbl
      clear hLS hpush hG hbl
      have bP : Below wr.heap.size wr (wr.alloc (Obj.cells #[.int .i64 x.params, .int .i64 x.slots, .slice a_ups x.ups.length c_ups, .slice a_code x.code.length c_code, .slice a_names x.names.length c_names] 116)) := bel_alloc _ _
      have HR0 := r_ups.below UpC_keeps bP hhr
      have HR1 := r_code.below InstrC_keeps bP hhr
      have HR2 := r_names.below NameC_keeps bP hhr
      clear r_ups r_code r_names
      go_wp2_with fail
      refine (pcopied_impl x a_ups a_code a_names c_ups c_code c_names lo hi _ (by simp; omega) hwx ok l_ups HR0 l_code HR1 l_names HR2).mono ?_
      rintro e w1 ⟨⟨cs', rfl, PO⟩, hb1⟩
      have b1 : Below wr.heap.size wr w1 := bP.trans (hb1.mono (by simp))
      have PO1 : ProtoOwn w1 (In wr.heap.size w1.heap.size) x cs' := ProtoOwn_keeps _ _ _ _ _ _ (fun b hb => ⟨by have := hb.1; simp at this; omega, hb.2⟩) (fun _ _ => rfl) PO
      clear PO hb1 bP HR0 HR1 HR2 x0 x1 x2 x3 x4
      have PO2 := PO1
      obtain ⟨_, _, _, n_a_ups, n_c_ups, n_a_code, n_c_code, n_a_names, n_c_names, rfl, n_l_ups, n_r_ups, n_l_code, n_r_code, n_l_names, n_r_names⟩ := PO2
      clear n_l_ups n_r_ups n_l_code n_r_code n_l_names n_r_names
      have POA : ProtoOwn (w1.alloc (Obj.cells #[.int .i64 x.params, .int .i64 x.slots, .slice n_a_ups x.ups.length n_c_ups, .slice n_a_code x.code.length n_c_code, .slice n_a_names x.names.length n_c_names] 116)) (In wr.heap.size (w1.alloc (Obj.cells #[.int .i64 x.params, .int .i64 x.slots, .slice n_a_ups x.ups.length n_c_ups, .slice n_a_code x.code.length n_c_code, .slice n_a_names x.names.length n_c_names] 116)).heap.size) x [.int .i64 x.params, .int .i64 x.slots, .slice n_a_ups x.ups.length n_c_ups, .slice n_a_code x.code.length n_c_code, .slice n_a_names x.names.length n_c_names] := ProtoOwn_keeps _ _ _ _ _ _ (fun b hb => ⟨hb.1, by have := hb.2; simp; omega⟩) (fun b hb => (bel_alloc w1 (Obj.cells #[.int .i64 x.params, .int .i64 x.slots, .slice n_a_ups x.ups.length n_c_ups, .slice n_a_code x.code.length n_c_code, .slice n_a_names x.names.length n_c_names] 116)).block b hb.2) PO1
      have HPO : Hid (ProtoOwn (w1.alloc (Obj.cells #[.int .i64 x.params, .int .i64 x.slots, .slice n_a_ups x.ups.length n_c_ups, .slice n_a_code x.code.length n_c_code, .slice n_a_names x.names.length n_c_names] 116)) (In wr.heap.size (w1.alloc (Obj.cells #[.int .i64 x.params, .int .i64 x.slots, .slice n_a_ups x.ups.length n_c_ups, .slice n_a_code x.code.length n_c_code, .slice n_a_names x.names.length n_c_names] 116)).heap.size) x [.int .i64 x.params, .int .i64 x.slots, .slice n_a_ups x.ups.length n_c_ups, .slice n_a_code x.code.length n_c_code, .slice n_a_names x.names.length n_c_names]) := POA
      have OW := (own_below HL.out b1).alloc (Obj.cells #[.int .i64 x.params, .int .i64 x.slots, .slice n_a_ups x.ups.length n_c_ups, .slice n_a_code x.code.length n_c_code, .slice n_a_names x.names.length n_c_names] 116)
      have HOW : Hid ((w1.alloc (Obj.cells #[.int .i64 x.params, .int .i64 x.slots, .slice n_a_ups x.ups.length n_c_ups, .slice n_a_code x.code.length n_c_code, .slice n_a_names x.names.length n_c_names] 116)).ownsRow w.heap.size 116 5 (.slice b i c) i LS) := OW
      have HBA : Hid (Below wr.heap.size wr (w1.alloc (Obj.cells #[.int .i64 x.params, .int .i64 x.slots, .slice n_a_ups x.ups.length n_c_ups, .slice n_a_code x.code.length n_c_code, .slice n_a_names x.names.length n_c_names] 116))) := b1.trans ((bel_alloc w1 (Obj.cells #[.int .i64 x.params, .int .i64 x.slots, .slice n_a_ups x.ups.length n_c_ups, .slice n_a_code x.code.length n_c_code, .slice n_a_names x.names.length n_c_names] 116)).mono b1.size)
      have s1 := b1.size
      clear PO1 POA OW b1
      go_wp2_with (at_builtin; go_must (refine wpList_append_any _ rfl _ _ 48 rfl w.heap.size 116 i4 _ 5 88 Try.underlying48 hi4 hza4 hzb4 hzc4 rfl (by decide) _ _ _ rfl HOW.out (some ⟨w1.heap.size, 0, none⟩) 1 1 [.int .i64 x.params, .int .i64 x.slots, .slice n_a_ups x.ups.length n_c_ups, .slice n_a_code x.code.length n_c_code, .slice n_a_names x.names.length n_c_names] rfl rfl (fun j u hu => ⟨_, rfl, World.news_of_block (heap_alloc_new _ _) j u hu⟩) (by simp [Value.oneCell']) (by unfold maxLen; omega) (by omega) (by rw [size_alloc]; omega) _ rfl ?_; intro b5 d5 w5 own5 gr5 at5))
      go_roundw
      case rel => exact ⟨i + 1, b5, d5, rfl, by go_num, by omega, by rw [HT.out]; exact HP.out _ _ _ _ _ _ HBA.out HPO.out rfl own5 gr5 at5, (HBL.out.trans (HBA.out.mono HBL.out.size)).grown gr5 (by have := HBL.out.size; have := HBA.out.size; omega) (fun k hk => (own_lt HL.out hk).1)⟩
      case measure => simp [intOf]; omega
    · obtain rfl : i = ps.length := by omega
      rw [List.take_length] at hG
      have HR : Hid (RowD 5 ProtoOwn wr (In w.heap.size wr.heap.size) ps b) := hG.row
      clear hS hG
      go_wp2_with fail
      go_ret
      exact ⟨⟨b, c, rfl, HR.out⟩, hbl⟩
end Go.Proofs.Ytgibejgemokljaa
