/- A tree in memory of which one number, or one row of kids, is written over: it is a tree still. -/
import Derived.Test.YtlmmomffanakiaaJmE
import Derived.Test.YtlmmomffanakiaaJmJ
import Derived.Test.YtlmmomffanakiaaJmM
import Derived.Deep.RegionHeld3
import Derived.Test.YtlmmomffanakiaaJmF
namespace Go.Proofs.Ytlmmomffanakiaa
open Go.RowKit

/-- A number in the place of a number, an empty row in the place of a row. -/
def Turned (u v : Value) : Prop := (∃ a b : Int, u = .int .i64 a ∧ v = .int .i64 b ∧ -9223372036854775808 ≤ b ∧ b ≤ 9223372036854775807) ∨ (∃ a n c x y, u = .slice a n c ∧ v = .slice x 0 y)
/-- A tree no deeper, no bigger, with no longer texts. -/
def Less (t' t : Nd) : Prop := (∀ m, Flat m t → Flat m t') ∧ wt t' ≤ wt t ∧ (Sm t → Sm t')
theorem Less.refl (t : Nd) : Less t t := ⟨fun _ h => h, Nat.le_refl _, fun h => h⟩
theorem Less.trans {a b c : Nd} (h : Less a b) (k : Less b c) : Less a c := ⟨fun m h' => h.1 m (k.1 m h'), Nat.le_trans h.2.1 k.2.1, fun h' => h.2.2 (k.2.2 h')⟩
theorem less_num (k n y k' n' y' : Int) (tx : ByteArray) (ns : List ByteArray) (ks : List Nd) (hn : n' = n ∨ (-9223372036854775808 ≤ n' ∧ n' ≤ 9223372036854775807)) : Less (.mk k' tx n' ns y' ks) (.mk k tx n ns y ks) :=
  ⟨fun m h => by cases m <;> simpa only [Flat] using h, by simp [wt], fun h => by
    simp only [Sm] at h ⊢
    refine ⟨⟨h.1.1, ?_⟩, h.2⟩
    rcases hn with rfl | hn
    · exact h.1.2
    · exact hn⟩
theorem less_names (k n y : Int) (tx : ByteArray) (ns : List ByteArray) (ks : List Nd) : Less (.mk k tx n [] y ks) (.mk k tx n ns y ks) :=
  ⟨fun m h => by cases m <;> simpa only [Flat] using h, by simp [wt], fun h => by
    simp only [Sm] at h ⊢
    exact ⟨h.1, fun s hs => absurd hs (by simp), h.2.2⟩⟩
theorem less_kids (k n y : Int) (tx : ByteArray) (ns : List ByteArray) (ks : List Nd) : Less (.mk k tx n ns y []) (.mk k tx n ns y ks) :=
  ⟨fun m h => by cases m <;> simp [Flat], by simp [wt, wtL], fun h => by
    simp only [Sm, SmL] at h ⊢
    exact ⟨h.1, h.2.1, trivial⟩⟩
theorem less_of_kids (k n y : Int) (tx : ByteArray) (ns : List ByteArray) {ks ks' : List Nd} (hl : ks'.length = ks.length) (h : ∀ i (a : i < ks'.length) (b : i < ks.length), Less ks'[i] ks[i]) : Less (.mk k tx n ns y ks') (.mk k tx n ns y ks) := by
  have hw : ∀ (ks ks' : List Nd), ks'.length = ks.length → (∀ i (a : i < ks'.length) (b : i < ks.length), Less ks'[i] ks[i]) → wtL ks' ≤ wtL ks ∧ (SmL ks → SmL ks') := by
    intro ks
    induction ks with
    | nil =>
      intro ks' hl _
      obtain rfl : ks' = [] := List.length_eq_zero_iff.1 hl
      exact ⟨Nat.le_refl _, fun h => h⟩
    | cons x ks ih =>
      intro ks' hl h
      cases ks' with
      | nil => simp at hl
      | cons x' ks' =>
        have h0 := h 0 (by simp) (by simp)
        simp only [List.getElem_cons_zero] at h0
        obtain ⟨i1, i2⟩ := ih ks' (by simpa using hl) (fun i a b => by have := h (i + 1) (by simpa using a) (by simpa using b); simpa using this)
        have := h0.2.1
        exact ⟨by simp only [wtL]; omega, fun hs => by simp only [SmL] at hs ⊢; exact ⟨h0.2.2 hs.1, i2 hs.2⟩⟩
  obtain ⟨h1, h2⟩ := hw ks ks' hl h
  refine ⟨fun m hf => ?_, by simp only [wt]; omega, fun hs => by simp only [Sm] at hs ⊢; exact ⟨hs.1, hs.2.1, h2 hs.2.2⟩⟩
  cases m with
  | zero =>
    simp only [Flat] at hf ⊢
    subst hf
    exact List.length_eq_zero_iff.1 hl
  | succ m =>
    simp only [Flat] at hf ⊢
    intro x hx
    obtain ⟨i, hi, rfl⟩ := List.getElem_of_mem hx
    exact (h i hi (by omega)).1 m (hf _ (List.getElem_mem _))
/-- A node's own values, one of them turned. -/
theorem nat_set {w : World} {lo hi : Nat} {t : Nd} {v : List Value} (h : NAt w lo hi t v) (j : Nat) (u x : Value) (hu : v[j]? = some u) (hT : Turned u x) : ∃ t', NAt w lo hi t' (v.set j x) ∧ Less t' t := by
  obtain ⟨k, tx, n, ns, y, ks⟩ := t
  simp only [NAt] at h
  obtain ⟨h0, a, ca, b, cb, rfl, h2, h3, h4, h5⟩ := h
  rcases hT with ⟨p, q, rfl, rfl, hq⟩ | ⟨p1, p2, p3, x1, x2, rfl, rfl⟩
  · match j, hu with
    | 0, _ => exact ⟨.mk q tx n ns y ks, by simp only [NAt]; exact ⟨h0, a, ca, b, cb, rfl, h2, h3, h4, h5⟩, less_num _ _ _ _ _ _ _ _ _ (.inl rfl)⟩
    | 2, _ => exact ⟨.mk k tx q ns y ks, by simp only [NAt]; exact ⟨h0, a, ca, b, cb, rfl, h2, h3, h4, h5⟩, less_num _ _ _ _ _ _ _ _ _ (.inr hq)⟩
    | 4, _ => exact ⟨.mk k tx n ns q ks, by simp only [NAt]; exact ⟨h0, a, ca, b, cb, rfl, h2, h3, h4, h5⟩, less_num _ _ _ _ _ _ _ _ _ (.inl rfl)⟩
    | 1, hu => simp at hu
    | 3, hu => simp at hu
    | 5, hu => simp at hu
    | j + 6, hu => simp at hu
  · match j, hu with
    | 3, _ => exact ⟨.mk k tx n [] y ks, by simp only [NAt]; exact ⟨h0, x1, x2, b, cb, rfl, Nat.zero_le _, h3, fun i hi => absurd hi (Nat.not_lt_zero _), h5⟩, less_names ..⟩
    | 5, _ => exact ⟨.mk k tx n ns y [], by simp only [NAt]; exact ⟨h0, a, ca, x1, x2, rfl, h2, Nat.zero_le _, h4, by simp only [KAt]⟩, less_kids ..⟩
    | 0, hu => simp at hu
    | 1, hu => simp at hu
    | 2, hu => simp at hu
    | 4, hu => simp at hu
    | j + 6, hu => simp at hu
theorem nat_turn {w w' : World} {p : Addr} {u x : Value} {lo hi : Nat} (hp : w.cell? p = some u) (hp' : w'.cell? p = some x) (hT : Turned u x) (ho : ∀ q : Addr, q ≠ p → w'.cell? q = w.cell? q) {t : Nd} {v : List Value} (h : NAt w lo hi t v) : ∃ t', NAt w' lo hi t' v ∧ Less t' t := by
  induction t using nd_ind generalizing v with
  | h k tx n ns y ks ih =>
    simp only [NAt] at h
    obtain ⟨h0, a, ca, b, cb, rfl, h2, h3, h4, h5⟩ := h
    have hS : SAt w' lo hi ns a := by
      intro i hi
      obtain ⟨q0, g, o, q1, q2, q3, q4⟩ := h4 i hi
      refine ⟨q0, g, o, q1, q2, q3, (ho _ fun e => ?_).trans q4⟩
      rw [e, hp] at q4
      rcases hT with ⟨_, _, rfl, _, _⟩ | ⟨_, _, _, _, _, rfl, _⟩ <;> simp at q4
    -- each kid anew
    have hK : ∀ m (hm : m < ks.length), ∃ (t' : Nd) (g o : Nat) (v : List Value), b = some ⟨g, o, none⟩ ∧ lo ≤ g ∧ g < hi ∧ (∀ j, j < 6 → w'.cell? ⟨g, o + 6 * (0 + m) + j, none⟩ = v[j]?) ∧ NAt w' lo hi t' v ∧ Less t' ks[m] := by
      intro m hm
      obtain ⟨g, o, v, q1, q2, q3, q4, q5⟩ := h5.get m hm
      obtain ⟨t', r1, r2⟩ := ih _ (List.getElem_mem hm) q5
      by_cases hj : ∃ j, j < 6 ∧ (⟨g, o + 6 * (0 + m) + j, none⟩ : Addr) = p
      · obtain ⟨j, hj, e⟩ := hj
        have hv : v[j]? = some u := by rw [← q4 j hj, e, hp]
        obtain ⟨t2, s1, s2⟩ := nat_set r1 j u x hv hT
        refine ⟨t2, g, o, v.set j x, q1, q2, q3, fun i hi => ?_, s1, s2.trans r2⟩
        have hlen : j < v.length := (List.getElem?_eq_some_iff.1 hv).1
        by_cases hij : i = j
        · subst hij
          rw [e, hp', List.getElem?_set_self hlen]
        · rw [List.getElem?_set_ne (fun e => hij e.symm), ← q4 i hi]
          refine ho _ fun e2 => hij ?_
          rw [← e] at e2
          have := congrArg Addr.off e2
          simp only at this
          omega
      · exact ⟨t', g, o, v, q1, q2, q3, fun i hi => (ho _ fun e => hj ⟨i, hi, e⟩).trans (q4 i hi), r1, r2⟩
    have hL : ∀ n, n ≤ ks.length → ∃ ks' : List Nd, ks'.length = n ∧ ∀ m (a : m < ks'.length) (b' : m < ks.length), (∃ (g o : Nat) (v : List Value), b = some ⟨g, o, none⟩ ∧ lo ≤ g ∧ g < hi ∧ (∀ j, j < 6 → w'.cell? ⟨g, o + 6 * (0 + m) + j, none⟩ = v[j]?) ∧ NAt w' lo hi ks'[m] v) ∧ Less ks'[m] ks[m] := by
      intro n
      induction n with
      | zero => intro _; exact ⟨[], rfl, fun m a => absurd a (Nat.not_lt_zero _)⟩
      | succ n ihn =>
        intro hn
        obtain ⟨l, hl, hall⟩ := ihn (by omega)
        obtain ⟨t', g, o, v, q1, q2, q3, q4, q5, q6⟩ := hK n (by omega)
        refine ⟨l ++ [t'], by simp [hl], fun m a b' => ?_⟩
        simp only [List.length_append, List.length_cons, List.length_nil] at a
        by_cases hm : m < l.length
        · rw [List.getElem_append_left hm]
          exact hall m hm b'
        · obtain rfl : m = n := by omega
          rw [List.getElem_append_right (by omega)]
          simp only [hl, Nat.sub_self, List.getElem_cons_zero]
          exact ⟨⟨g, o, v, q1, q2, q3, q4, q5⟩, q6⟩
    obtain ⟨ks', hl, hall⟩ := hL ks.length (Nat.le_refl _)
    refine ⟨.mk k tx n ns y ks', ?_, less_of_kids _ _ _ _ _ hl fun i a b => (hall i a b).2⟩
    simp only [NAt]
    exact ⟨h0, a, ca, b, cb, by rw [hl], h2, by omega, hS, KAt.mk fun m hm => (hall m hm (by omega)).1⟩
end Go.Proofs.Ytlmmomffanakiaa
namespace Go.Proofs.Ytlmmomffanakiaa
open Go.RowKit

/-- What a draw of a tree answers: a tree in blocks of its own. -/
def TreeDrawn (B c : Nat) (w : World) (e : Ending) (w' : World) : Prop :=
  ∃ t v, e = .returned (.agg v.toArray) ∧ NAt w' w.heap.size w'.heap.size t v ∧ Sm t ∧ Flat 30 t ∧ wt t ≤ 8000 ∧ Drawn B c w w'
theorem drawn_bel {B c : Nat} {w w1 w2 : World} (h : Drawn B c w w1) (hb : Below w1.heap.size w1 w2) : Drawn B c w w2 :=
  ⟨⟨h.cur.up, by
    obtain ⟨a, len, cap, i, x, hh, hc, hi⟩ := h.cur.holds
    have hl := cur_lt h.cur
    exact ⟨a, len, cap, i, x, (hb.block c hl).trans hh, hc.later (pg_below hb) h.cur.up, hi⟩⟩, by_trans h.by' (pg_below hb)⟩
theorem drawn_set {B c : Nat} {w w1 : World} (h : Drawn B c w w1) (b j : Nat) (v : Value) (hw : w.heap.size ≤ b) (hc : c < w.heap.size) : Drawn B c w (w1.setCell ⟨b, j, none⟩ v) :=
  ⟨⟨h.cur.up, by
    obtain ⟨a, len, cap, i, x, hh, hcd, hi⟩ := h.cur.holds
    refine ⟨a, len, cap, i, x, (heap_setCell_other _ _ _ _ (by show c ≠ b; omega)).trans hh, ⟨hcd.small, fun j' hj => ?_⟩, hi⟩
    obtain ⟨b', off, y, e, hbb, hx, h0, h1⟩ := hcd.cells j' hj
    have := h.cur.up
    exact ⟨b', off, y, e, hbb, (World.cell?_of_block (w := w1) (heap_setCell_other _ _ _ _ (by show b' ≠ b; omega))).trans hx, h0, h1⟩⟩, one_grown h.by' b j hw v⟩
theorem drawn_six {B c : Nat} {w w1 : World} (h : Drawn B c w w1) (b : Nat) (hw : w.heap.size ≤ b) (hc : c < w.heap.size) (a0 a1 a2 a3 a4 a5 : Value) : Drawn B c w ((((((w1.setCell ⟨b, 0, none⟩ a0).setCell ⟨b, 1, none⟩ a1).setCell ⟨b, 2, none⟩ a2).setCell ⟨b, 3, none⟩ a3).setCell ⟨b, 4, none⟩ a4).setCell ⟨b, 5, none⟩ a5) :=
  drawn_set (drawn_set (drawn_set (drawn_set (drawn_set (drawn_set h b 0 a0 hw hc) b 1 a1 hw hc) b 2 a2 hw hc) b 3 a3 hw hc) b 4 a4 hw hc) b 5 a5 hw hc

theorem cell_ne {w : World} {g o : Nat} {v : Value} {cs : Array Value} {T : TypeId} (hg : w.heap[g]? = some (.cells cs T (0, 0))) (q : Addr) (hq : q ≠ ⟨g, o, none⟩) : (w.setCell ⟨g, o, none⟩ v).cell? q = w.cell? q := by
  by_cases hb : q.block = g
  · obtain ⟨b, j, sp⟩ := q
    simp only at hb
    subst hb
    have h1 := heap_setCell_same _ _ o _ _ v hg
    simp only [World.cell?, h1, hg]
    cases sp with
    | some s => rfl
    | none =>
      have : j ≠ o := fun e => hq (by rw [e])
      simp only [Option.isSome_none, Bool.false_eq_true, if_false]
      rw [Array.getElem?_setIfInBounds_ne (by omega)]
  · exact World.cell?_of_block (heap_setCell_other _ _ _ _ (by show q.block ≠ g; exact hb))

set_option maxRecDepth 100000 in
set_option maxHeartbeats 6400000 in
theorem tree_any (B c : Nat) (w : World) (hC : Cur w B c) : Calls Try.prog 17 #[.pointer (some ⟨c, 0, none⟩)] w fun e w' => TreeDrawn B c w e w' := by
  obtain ⟨i0, hi0, hz0, hz1, hz2⟩ := info_parts info_nd
  have hcw := cur_lt hC
  go_enter Try.func17, Try.ntmps17
  go_wp2_with fail
  have dA := (Drawn.refl hC).alloc (.cells #[.int .i64 0, .string ⟨#[]⟩, .int .i64 0, .slice none 0 0, .int .i64 0, .slice none 0 0] 27)
  have rA := heap_alloc_new w (.cells #[.int .i64 0, .string ⟨#[]⟩, .int .i64 0, .slice none 0 0, .int .i64 0, .slice none 0 0] 27)
  have sA := size_alloc w (.cells #[.int .i64 0, .string ⟨#[]⟩, .int .i64 0, .slice none 0 0, .int .i64 0, .slice none 0 0] 27)
  generalize w.alloc (.cells #[.int .i64 0, .string ⟨#[]⟩, .int .i64 0, .slice none 0 0, .int .i64 0, .slice none 0 0] 27) = wA at *
  refine (below_any B c 4 _ dA.cur (by decide)).mono ?_
  rintro e w1 ⟨n, rfl, hn0, _, hn1, hd1⟩
  have hn := hn1 (by decide)
  clear hn1
  go_wp2_with fail
  refine (source_any n (by omega) (by omega) B c _ hd1.cur).mono ?_
  rintro e w2 ⟨s, rfl, hs, hd2⟩
  go_wp2_with fail
  refine (read_any s w2 (by omega)).mono ?_
  rintro e w3 ⟨t, v, z, rfl, hN, hS, hF, hw8, hb3, hRF⟩
  have hdA2 := hd1.trans hd2
  have r2 := (hdA2.by'.block w.heap.size (by omega) (fun e => by have := Option.some.inj e; omega)).trans rA
  have s2 := hdA2.by'.size
  have r3 := (hb3.block w.heap.size (by omega)).trans r2
  have hd3 := drawn_bel (dA.trans hdA2) hb3
  have s3 := hb3.size
  have hN3 := hN.later (lo' := w.heap.size + 1) (hi' := w3.heap.size) (by omega) (Nat.le_refl _) (fun _ _ _ => rfl)
  have hlt3 : w.heap.size + 1 ≤ w3.heap.size := by omega
  clear hN hb3 r2 hdA2 hd1 hd2 rA dA sA hs hn hn0
  obtain ⟨k1, t1, n1, ns1, y1, ks1⟩ := t
  have q := hN3
  simp only [NAt] at q
  obtain ⟨_, a1, ca1, b1', cb1, rfl, _, _, _, qK⟩ := q
  have b4 := bel_alloc w3 (.cells #[.int .i64 k1, .string t1, .int .i64 n1, .slice a1 ns1.length ca1, .int .i64 y1, .slice b1' ks1.length cb1] 27)
  have r4 := heap_alloc_new w3 (.cells #[.int .i64 k1, .string t1, .int .i64 n1, .slice a1 ns1.length ca1, .int .i64 y1, .slice b1' ks1.length cb1] 27)
  have s4 := size_alloc w3 (.cells #[.int .i64 k1, .string t1, .int .i64 n1, .slice a1 ns1.length ca1, .int .i64 y1, .slice b1' ks1.length cb1] 27)
  have hR4 := (b4.block w.heap.size (by omega)).trans r3
  have hN4 := hN3.below b4 (Nat.le_refl _)
  have hd4 := drawn_bel hd3 b4
  have hRF4 := hRF.below b4
  clear r3 hN3 b4 hd3 hRF
  have hkm : ks1.length ≤ 8000 := by
    have := len_wtL ks1
    simp only [wt] at hw8
    omega
  have c0 := cell_of_row _ _ 0 _ _ _ r4
  have fc0 := frozen_of_row _ _ 0 _ _ r4
  have c1 := cell_of_row _ _ 1 _ _ _ r4
  have fc1 := frozen_of_row _ _ 1 _ _ r4
  have c2 := cell_of_row _ _ 2 _ _ _ r4
  have fc2 := frozen_of_row _ _ 2 _ _ r4
  have c3 := cell_of_row _ _ 3 _ _ _ r4
  have fc3 := frozen_of_row _ _ 3 _ _ r4
  have c4 := cell_of_row _ _ 4 _ _ _ r4
  have fc4 := frozen_of_row _ _ 4 _ _ r4
  have c5 := cell_of_row _ _ 5 _ _ _ r4
  have fc5 := frozen_of_row _ _ 5 _ _ r4
  simp only [List.getElem?_toArray, List.getElem?_cons_zero, List.getElem?_cons_succ] at c0 c1 c2 c3 c4 c5
  have d0 := cell_of_row _ _ 0 _ _ _ hR4
  have fd0 := frozen_of_row _ _ 0 _ _ hR4
  have d1 := cell_of_row _ _ 1 _ _ _ hR4
  have fd1 := frozen_of_row _ _ 1 _ _ hR4
  have d2 := cell_of_row _ _ 2 _ _ _ hR4
  have fd2 := frozen_of_row _ _ 2 _ _ hR4
  have d3 := cell_of_row _ _ 3 _ _ _ hR4
  have fd3 := frozen_of_row _ _ 3 _ _ hR4
  have d4 := cell_of_row _ _ 4 _ _ _ hR4
  have fd4 := frozen_of_row _ _ 4 _ _ hR4
  have d5 := cell_of_row _ _ 5 _ _ _ hR4
  have fd5 := frozen_of_row _ _ 5 _ _ hR4
  simp only [List.getElem?_toArray, List.getElem?_cons_zero, List.getElem?_cons_succ] at d0 d1 d2 d3 d4 d5
  by_cases hk : 0 < ks1.length
  · have hk' : ((0 : Int) < (ks1.length : Int)) := by omega
    go_wp2_with fail
    refine (once_any B c 6 _ hd4.cur (by decide)).mono ?_
    rintro e w5 ⟨x, rfl, hd5⟩
    have hne : ∀ b, w.heap.size ≤ b → some b ≠ some c := fun b hb e => by have := Option.some.inj e; omega
    have r5 := (hd5.by'.block w3.heap.size (by omega) (hne _ (by omega))).trans r4
    have hR5 := (hd5.by'.block w.heap.size (by omega) (hne _ (by omega))).trans hR4
    have N5 := hN4.later (Nat.le_refl _) (Nat.le_refl _) (fun p h1 h2 => World.cell?_of_block (hd5.by'.block p.block (by omega) (hne _ (by omega))))
    have d5' := hd4.trans hd5
    have s5 := hd5.by'.size
    obtain ⟨g, o, _, rfl, kg1, kg2, _⟩ := qK.get 0 hk
    obtain ⟨rcs, rT, rg4⟩ := hRF4 _ _ _ rfl g o rfl
    have rg5 := (hd5.by'.block g (by omega) (hne _ (by omega))).trans rg4
    clear c0 fc0 c1 fc1 c2 fc2 c3 fc3 c4 fc4 c5 fc5 d0 fd0 d1 fd1 d2 fd2 d3 fd3 d4 fd4 d5 fd5 r4 hR4 hRF4 qK hN4 hd4 hd5 rg4
    have c0 := cell_of_row _ _ 0 _ _ _ r5
    have fc0 := frozen_of_row _ _ 0 _ _ r5
    have c1 := cell_of_row _ _ 1 _ _ _ r5
    have fc1 := frozen_of_row _ _ 1 _ _ r5
    have c2 := cell_of_row _ _ 2 _ _ _ r5
    have fc2 := frozen_of_row _ _ 2 _ _ r5
    have c3 := cell_of_row _ _ 3 _ _ _ r5
    have fc3 := frozen_of_row _ _ 3 _ _ r5
    have c4 := cell_of_row _ _ 4 _ _ _ r5
    have fc4 := frozen_of_row _ _ 4 _ _ r5
    have c5 := cell_of_row _ _ 5 _ _ _ r5
    have fc5 := frozen_of_row _ _ 5 _ _ r5
    simp only [List.getElem?_toArray, List.getElem?_cons_zero, List.getElem?_cons_succ] at c0 c1 c2 c3 c4 c5
    have d0 := cell_of_row _ _ 0 _ _ _ hR5
    have fd0 := frozen_of_row _ _ 0 _ _ hR5
    have d1 := cell_of_row _ _ 1 _ _ _ hR5
    have fd1 := frozen_of_row _ _ 1 _ _ hR5
    have d2 := cell_of_row _ _ 2 _ _ _ hR5
    have fd2 := frozen_of_row _ _ 2 _ _ hR5
    have d3 := cell_of_row _ _ 3 _ _ _ hR5
    have fd3 := frozen_of_row _ _ 3 _ _ hR5
    have d4 := cell_of_row _ _ 4 _ _ _ hR5
    have fd4 := frozen_of_row _ _ 4 _ _ hR5
    have d5 := cell_of_row _ _ 5 _ _ _ hR5
    have fd5 := frozen_of_row _ _ 5 _ _ hR5
    simp only [List.getElem?_toArray, List.getElem?_cons_zero, List.getElem?_cons_succ] at d0 d1 d2 d3 d4 d5
    cases x
    · go_wp2_with fail
      refine bodyPost_ret (v := .agg #[.int .i64 k1, .string t1, .int .i64 n1, .slice a1 ns1.length ca1, .int .i64 y1, .slice (some ⟨g, o, none⟩) ks1.length cb1]) (by simp [results, Try.results17, go_sem, *]) rfl ?_
      refine ⟨_, [.int .i64 k1, .string t1, .int .i64 n1, .slice a1 ns1.length ca1, .int .i64 y1, .slice (some ⟨g, o, none⟩) ks1.length cb1], rfl, ?_, hS, hF, hw8, drawn_six d5' _ (Nat.le_refl _) hcw _ _ _ _ _ _⟩
      exact N5.later (by omega) (by rw [six_size]; omega) (fun p h1 h2 => six_other _ _ _ _ _ _ _ _ p (by omega))
    · go_wp2_with fail
      refine (below_any B c ks1.length _ d5'.cur (by omega)).mono ?_
      rintro e w6 ⟨q, rfl, q0, _, q1, hd6⟩
      have q2 := q1 (by omega)
      clear q1
      obtain ⟨k, rfl⟩ : ∃ k : Nat, q = k := ⟨q.toNat, by omega⟩
      have hkl : k < ks1.length := by omega
      have r6 := (hd6.by'.block w3.heap.size (by omega) (hne _ (by omega))).trans r5
      have hR6 := (hd6.by'.block w.heap.size (by omega) (hne _ (by omega))).trans hR5
      have N6 := N5.later (Nat.le_refl _) (Nat.le_refl _) (fun p h1 h2 => World.cell?_of_block (hd6.by'.block p.block (by omega) (hne _ (by omega))))
      have rg6 := (hd6.by'.block g (by omega) (hne _ (by omega))).trans rg5
      have d6 := d5'.trans hd6
      have s6 := hd6.by'.size
      clear c0 fc0 c1 fc1 c2 fc2 c3 fc3 c4 fc4 c5 fc5 d0 fd0 d1 fd1 d2 fd2 d3 fd3 d4 fd4 d5 fd5 r5 hR5 N5 rg5 hd6
      have hd6c := cur_drew d6.cur
      have c5 := cell_of_row _ _ 5 _ _ _ r6
      simp only [List.getElem?_toArray, List.getElem?_cons_zero, List.getElem?_cons_succ] at c5
      have q := N6
      simp only [NAt] at q
      obtain ⟨_, a1', ca1', b1'', cb1', qe, _, _, _, qK⟩ := q
      simp only [List.cons.injEq, Value.slice.injEq] at qe
      obtain ⟨_, _, _, ⟨rfl, _, rfl⟩, _, ⟨rfl, _, rfl⟩, _⟩ := qe
      obtain ⟨g', o', vk, e', _, _, xk, Nk⟩ := qK.get k hkl
      simp only [Option.some.injEq, Addr.mk.injEq] at e'
      obtain ⟨rfl, rfl, _⟩ := e'
      obtain ⟨k2, t2, n2, m2, a2, ca2, y2, b2, cb2, kk2, rfl⟩ := nd_cells Nk
      have x0 := xk 0 (by decide)
      have x5 := xk 5 (by decide)
      simp only [List.getElem?_cons_zero, List.getElem?_cons_succ, Nat.add_zero, Nat.zero_add] at x0 x5
      have fx := frozen_of_row _ _ (o + 6 * k) _ _ rg6
      have m6 : k * 6 = 6 * k := Nat.mul_comm _ _
      have hki : (k : Int) < (ks1.length : Int) := by omega
      clear qK xk Nk
      have ng : ¬ g = w3.heap.size := by omega
      have ng' : ¬ w3.heap.size = g := by omega
      have K7 : ∀ W, Drawn B c w6.drew W → W.cell? ⟨w3.heap.size, 5, none⟩ = some (.slice (some ⟨g, o, none⟩) ks1.length cb1) ∧ W.cell? ⟨g, o + 6 * k, none⟩ = some (.int .i64 k2) ∧ W.frozen? ⟨g, o + 6 * k, none⟩ = false := fun W hd => by
        have e1 := hd.by'.block w3.heap.size (by show w3.heap.size < w6.heap.size; omega) (hne _ (by omega))
        have e2 := hd.by'.block g (by show g < w6.heap.size; omega) (hne _ (by omega))
        exact ⟨(World.cell?_of_block e1).trans c5, (World.cell?_of_block e2).trans x0, frozen_of_row _ _ (o + 6 * k) _ _ (e2.trans rg6)⟩
      have K7' : Hid (∀ W, Drawn B c w6.drew W → W.cell? ⟨w3.heap.size, 5, none⟩ = some (.slice (some ⟨g, o, none⟩) ks1.length cb1) ∧ W.cell? ⟨g, o + 6 * k, none⟩ = some (.int .i64 k2) ∧ W.frozen? ⟨g, o + 6 * k, none⟩ = false) := K7
      clear K7
      go_wp2_with fail
      go_region_held3 (fun w' => w'.cell? ⟨w3.heap.size, 5, none⟩ = some (.slice (some ⟨g, o, none⟩) ks1.length cb1)) (go_keep) (first | (go_at_call 32; refine (below_any B c 23 _ hd6c (by decide)).mono ?_; rintro e w7 ⟨q', rfl, q0', _, q1', hd7⟩; have q2' := q1' (by decide); obtain ⟨c5', x0', fx'⟩ := K7'.out _ hd7))
      all_goals
        have e7 := fun b (h1 : w.heap.size ≤ b) (h2 : b < w6.heap.size) => hd7.by'.block b h2 (hne b h1)
        have r7 := (e7 _ (by omega) (by omega)).trans r6
        have hR7 := (e7 _ (by omega) (by omega)).trans hR6
        have rg7 := (e7 _ (by omega) (by omega)).trans rg6
        have N7 := NAt.later (w := w6) (w' := w7) (Nat.le_refl _) (Nat.le_refl _) (fun p h1 h2 => World.cell?_of_block (w := w6) (e7 p.block (by omega) (by omega))) N6
        have d7 := (d6.drew).trans hd7
        have s7 : w6.heap.size ≤ w7.heap.size := hd7.by'.size
        have r8 := (heap_setCell_other w7 ⟨g, o + 6 * k, none⟩ w3.heap.size (.int .i64 (IntKind.i64.wrap (q' - 1))) ng').trans r7
        have hR8 := (heap_setCell_other w7 ⟨g, o + 6 * k, none⟩ w.heap.size (.int .i64 (IntKind.i64.wrap (q' - 1))) (by show w.heap.size ≠ g; omega)).trans hR7
        obtain ⟨cs8, T8, rg8⟩ := free_set ⟨_, _, rg7⟩ g (o + 6 * k) (.int .i64 (IntKind.i64.wrap (q' - 1)))
        have d8 := drawn_set d7 g (o + 6 * k) (.int .i64 (IntKind.i64.wrap (q' - 1))) (by omega) hcw
        have s8 : (w7.setCell ⟨g, o + 6 * k, none⟩ (.int .i64 (IntKind.i64.wrap (q' - 1)))).heap.size = w7.heap.size := by simp
        obtain ⟨t8, N8, L8⟩ := nat_turn x0' (World.cell?_setCell_same' _ _ _ (by rw [x0']; rfl)) (.inl ⟨_, _, rfl, rfl, by rw [IntKind.wrap_i64]; omega⟩) (fun q hq => cell_ne (v := .int .i64 (IntKind.i64.wrap (q' - 1))) rg7 q hq) N7
        generalize w7.setCell ⟨g, o + 6 * k, none⟩ (.int .i64 (IntKind.i64.wrap (q' - 1))) = w8 at *
        clear e7 r7 hR7 rg7 N7 d7 hd7 c5' x0' fx' K7' hd6c x0 x5 fx c5 r6 hR6 rg6 N6 d6 q2 q0 q0' q1' q2'
        go_wp2_with fail
        refine (once_any B c 2 _ d8.cur (by decide)).mono ?_
        rintro e w9 ⟨x, rfl, hd9⟩
        have e9 := fun b (h1 : w.heap.size ≤ b) (h2 : b < w8.heap.size) => hd9.by'.block b h2 (hne b h1)
        have r9 := (e9 _ (by omega) (by omega)).trans r8
        have hR9 := (e9 _ (by omega) (by omega)).trans hR8
        have rg9 := (e9 _ (by omega) (by omega)).trans rg8
        have N9 := N8.later (Nat.le_refl _) (Nat.le_refl _) (fun p h1 h2 => World.cell?_of_block (e9 p.block (by omega) (by omega)))
        have d9 := d8.trans hd9
        have s9 := hd9.by'.size
        clear e9 r8 hR8 rg8 N8 d8 hd9
        cases x
        · skip
          have c0 := cell_of_row _ _ 0 _ _ _ r9
          have fc0 := frozen_of_row _ _ 0 _ _ r9
          have c1 := cell_of_row _ _ 1 _ _ _ r9
          have fc1 := frozen_of_row _ _ 1 _ _ r9
          have c2 := cell_of_row _ _ 2 _ _ _ r9
          have fc2 := frozen_of_row _ _ 2 _ _ r9
          have c3 := cell_of_row _ _ 3 _ _ _ r9
          have fc3 := frozen_of_row _ _ 3 _ _ r9
          have c4 := cell_of_row _ _ 4 _ _ _ r9
          have fc4 := frozen_of_row _ _ 4 _ _ r9
          have c5 := cell_of_row _ _ 5 _ _ _ r9
          have fc5 := frozen_of_row _ _ 5 _ _ r9
          simp only [List.getElem?_toArray, List.getElem?_cons_zero, List.getElem?_cons_succ] at c0 c1 c2 c3 c4 c5
          have d0 := cell_of_row _ _ 0 _ _ _ hR9
          have fd0 := frozen_of_row _ _ 0 _ _ hR9
          have d1 := cell_of_row _ _ 1 _ _ _ hR9
          have fd1 := frozen_of_row _ _ 1 _ _ hR9
          have d2 := cell_of_row _ _ 2 _ _ _ hR9
          have fd2 := frozen_of_row _ _ 2 _ _ hR9
          have d3 := cell_of_row _ _ 3 _ _ _ hR9
          have fd3 := frozen_of_row _ _ 3 _ _ hR9
          have d4 := cell_of_row _ _ 4 _ _ _ hR9
          have fd4 := frozen_of_row _ _ 4 _ _ hR9
          have d5 := cell_of_row _ _ 5 _ _ _ hR9
          have fd5 := frozen_of_row _ _ 5 _ _ hR9
          simp only [List.getElem?_toArray, List.getElem?_cons_zero, List.getElem?_cons_succ] at d0 d1 d2 d3 d4 d5
          go_wp2_with fail
          refine bodyPost_ret (v := .agg #[.int .i64 k1, .string t1, .int .i64 n1, .slice a1 ns1.length ca1, .int .i64 y1, .slice (some ⟨g, o, none⟩) ks1.length cb1]) (by simp [results, Try.results17, go_sem, *]) rfl ?_
          refine ⟨_, [.int .i64 k1, .string t1, .int .i64 n1, .slice a1 ns1.length ca1, .int .i64 y1, .slice (some ⟨g, o, none⟩) ks1.length cb1], rfl, ?_, L8.2.2 hS, L8.1 30 hF, Nat.le_trans L8.2.1 hw8, drawn_six d9 _ (Nat.le_refl _) hcw _ _ _ _ _ _⟩
          exact N9.later (by omega) (by rw [six_size]; omega) (fun p h1 h2 => six_other _ _ _ _ _ _ _ _ p (by omega))
        · have bB := bel_alloc w9 (.cells #[] 27)
          have sB := size_alloc w9 (.cells #[] 27)
          have rB := (bB.block w3.heap.size (by omega)).trans r9
          have hRB := (bB.block w.heap.size (by omega)).trans hR9
          have rgB := (bB.block g (by omega)).trans rg9
          have NB := N9.below bB (by omega)
          have dB := drawn_bel d9 bB
          obtain ⟨k8, tx8, n8, ns8, y8, ks8⟩ := t8
          have q := NB
          simp only [NAt] at q
          obtain ⟨_, a1', ca1', b1'', cb1', qe, _, _, _, qK⟩ := q
          have qb : b1'' = some ⟨g, o, none⟩ ∧ k < ks8.length := by
            simp only [List.cons.injEq, Value.slice.injEq] at qe
            obtain ⟨_, _, _, ⟨_, _, _⟩, _, ⟨e1, e2, _⟩, _⟩ := qe
            exact ⟨e1.symm, by omega⟩
          clear qe
          obtain ⟨rfl, qn⟩ := qb
          obtain ⟨g', o', vk, e', _, _, xk, Nk⟩ := qK.get k qn
          simp only [Option.some.injEq, Addr.mk.injEq] at e'
          obtain ⟨rfl, rfl, _⟩ := e'
          obtain ⟨k3, t3, n3, m3, a3, ca3, y3, b3, cb3, kk3, rfl⟩ := nd_cells Nk
          have x5 := xk 5 (by decide)
          simp only [List.getElem?_cons_zero, List.getElem?_cons_succ, Nat.zero_add] at x5
          have fx := frozen_of_row _ _ (o + 6 * k + 5) _ _ rgB
          have mw : ¬ g = w.heap.size := by omega
          have mw' : ¬ w.heap.size = g := by omega
          obtain ⟨t9, N10, L9⟩ := nat_turn x5 (World.cell?_setCell_same' _ _ (.slice (some ⟨w9.heap.size, 0, none⟩) 0 0) (by rw [x5]; rfl)) (.inr ⟨_, _, _, _, _, rfl, rfl⟩) (fun q hq => cell_ne rgB q hq) NB
          have d10 := drawn_set dB g (o + 6 * k + 5) (.slice (some ⟨w9.heap.size, 0, none⟩) 0 0) (by omega) hcw
          have q5 := cell_of_row _ _ 5 _ _ _ r9
          simp only [List.getElem?_toArray, List.getElem?_cons_zero, List.getElem?_cons_succ] at q5
          clear qK xk Nk qn NB N9 rgB r9 hR9 rg9 dB bB d9
          have c0 := cell_of_row _ _ 0 _ _ _ rB
          have fc0 := frozen_of_row _ _ 0 _ _ rB
          have c1 := cell_of_row _ _ 1 _ _ _ rB
          have fc1 := frozen_of_row _ _ 1 _ _ rB
          have c2 := cell_of_row _ _ 2 _ _ _ rB
          have fc2 := frozen_of_row _ _ 2 _ _ rB
          have c3 := cell_of_row _ _ 3 _ _ _ rB
          have fc3 := frozen_of_row _ _ 3 _ _ rB
          have c4 := cell_of_row _ _ 4 _ _ _ rB
          have fc4 := frozen_of_row _ _ 4 _ _ rB
          have c5 := cell_of_row _ _ 5 _ _ _ rB
          have fc5 := frozen_of_row _ _ 5 _ _ rB
          simp only [List.getElem?_toArray, List.getElem?_cons_zero, List.getElem?_cons_succ] at c0 c1 c2 c3 c4 c5
          have d0 := cell_of_row _ _ 0 _ _ _ hRB
          have fd0 := frozen_of_row _ _ 0 _ _ hRB
          have d1 := cell_of_row _ _ 1 _ _ _ hRB
          have fd1 := frozen_of_row _ _ 1 _ _ hRB
          have d2 := cell_of_row _ _ 2 _ _ _ hRB
          have fd2 := frozen_of_row _ _ 2 _ _ hRB
          have d3 := cell_of_row _ _ 3 _ _ _ hRB
          have fd3 := frozen_of_row _ _ 3 _ _ hRB
          have d4 := cell_of_row _ _ 4 _ _ _ hRB
          have fd4 := frozen_of_row _ _ 4 _ _ hRB
          have d5 := cell_of_row _ _ 5 _ _ _ hRB
          have fd5 := frozen_of_row _ _ 5 _ _ hRB
          simp only [List.getElem?_toArray, List.getElem?_cons_zero, List.getElem?_cons_succ] at d0 d1 d2 d3 d4 d5
          go_wp2_with fail
          refine bodyPost_ret (v := .agg #[.int .i64 k1, .string t1, .int .i64 n1, .slice a1 ns1.length ca1, .int .i64 y1, .slice (some ⟨g, o, none⟩) ks1.length cb1]) (by simp [results, Try.results17, go_sem, *]) rfl ?_
          refine ⟨_, [.int .i64 k1, .string t1, .int .i64 n1, .slice a1 ns1.length ca1, .int .i64 y1, .slice (some ⟨g, o, none⟩) ks1.length cb1], rfl, ?_, L9.2.2 (L8.2.2 hS), L9.1 30 (L8.1 30 hF), Nat.le_trans L9.2.1 (Nat.le_trans L8.2.1 hw8), drawn_six d10 _ (Nat.le_refl _) hcw _ _ _ _ _ _⟩
          exact N10.later (by omega) (by rw [six_size]; simp only [World.size_setCell]; omega) (fun p h1 h2 => six_other _ _ _ _ _ _ _ _ p (by omega))
  · have hk' : ¬ ((0 : Int) < (ks1.length : Int)) := by omega
    go_wp2_with fail
    refine bodyPost_ret (v := .agg #[.int .i64 k1, .string t1, .int .i64 n1, .slice a1 ns1.length ca1, .int .i64 y1, .slice b1' ks1.length cb1]) (by simp [results, Try.results17, go_sem, *]) rfl ?_
    refine ⟨_, [.int .i64 k1, .string t1, .int .i64 n1, .slice a1 ns1.length ca1, .int .i64 y1, .slice b1' ks1.length cb1], rfl, ?_, hS, hF, hw8, drawn_six hd4 _ (Nat.le_refl _) hcw _ _ _ _ _ _⟩
    exact hN4.later (by omega) (by rw [six_size]; omega) (fun p h1 h2 => six_other _ _ _ _ _ _ _ _ p (by omega))
end Go.Proofs.Ytlmmomffanakiaa
namespace Go.Proofs.Ytlmmomffanakiaa
open Go.RowKit

theorem size_drew (w : World) : w.drew.heap.size = w.heap.size := rfl
theorem drew_heap (w : World) (b : Nat) : w.drew.heap[b]? = w.heap[b]? := rfl

set_option maxRecDepth 100000 in
set_option maxHeartbeats 3200000 in
theorem drawSame_any (H : WdOk 30) (a : Option Addr) (len cap : Nat) (w : World) (hcode : IsCode w w.heap.size a len cap) :
    Calls Try.prog 7 #[.slice a len cap] w fun e w' => ∃ s t v u, e = .returned (.tuple #[.agg v.toArray, .agg u.toArray]) ∧ NAt w' w.heap.size w'.heap.size s v ∧ NAt w' w.heap.size w'.heap.size t u ∧ Flat 30 s ∧ Flat 30 t ∧ wt s ≤ 8000 ∧ wt t ≤ 8000 ∧ Below w.heap.size w w' := by
  obtain ⟨i0, hi0, hz0, hz1, hz2⟩ := info_parts info_nd
  go_enter Try.func7, Try.ntmps7
  go_wp2_with fail
  have bA := bel_alloc w (.cells #[.int .i64 0, .string ⟨#[]⟩, .int .i64 0, .slice none 0 0, .int .i64 0, .slice none 0 0] 27)
  have rA := heap_alloc_new w (.cells #[.int .i64 0, .string ⟨#[]⟩, .int .i64 0, .slice none 0 0, .int .i64 0, .slice none 0 0] 27)
  have sA := size_alloc w (.cells #[.int .i64 0, .string ⟨#[]⟩, .int .i64 0, .slice none 0 0, .int .i64 0, .slice none 0 0] 27)
  generalize w.alloc (.cells #[.int .i64 0, .string ⟨#[]⟩, .int .i64 0, .slice none 0 0, .int .i64 0, .slice none 0 0] 27) = wA at *
  have bB := bel_alloc wA (.cells #[.int .i64 0, .string ⟨#[]⟩, .int .i64 0, .slice none 0 0, .int .i64 0, .slice none 0 0] 27)
  have rB := heap_alloc_new wA (.cells #[.int .i64 0, .string ⟨#[]⟩, .int .i64 0, .slice none 0 0, .int .i64 0, .slice none 0 0] 27)
  have sB := size_alloc wA (.cells #[.int .i64 0, .string ⟨#[]⟩, .int .i64 0, .slice none 0 0, .int .i64 0, .slice none 0 0] 27)
  generalize wA.alloc (.cells #[.int .i64 0, .string ⟨#[]⟩, .int .i64 0, .slice none 0 0, .int .i64 0, .slice none 0 0] 27) = wB at *
  rw [sA] at rB
  have rA' := (bB.block w.heap.size (by omega)).trans rA
  have bAB := bA.trans (bB.mono (by omega))
  have hcB : IsCode wB w.heap.size a len cap := ⟨hcode.small, fun j hj => by
    obtain ⟨b, off, x, e, hb, hx, h0, h1⟩ := hcode.cells j hj
    exact ⟨b, off, x, e, hb, (bAB.cell (p := ⟨b, off + j, none⟩) hb).trans hx, h0, h1⟩⟩
  refine (new_any w.heap.size a len cap wB hcB (by omega)).mono ?_
  rw [sB, sA]
  rintro e w1 ⟨rfl, hC1, hb1⟩
  have rA1 := (hb1.block w.heap.size (by omega)).trans rA'
  have rB1 := (hb1.block (w.heap.size + 1) (by omega)).trans rB
  have B1 := bAB.trans (hb1.mono (by omega))
  have s1 : w.heap.size + 3 ≤ w1.heap.size := by have := cur_lt hC1; omega
  clear bA rA bB rB rA' bAB hb1 hcB hcode sA sB
  go_wp2_with fail
  refine (tree_any w.heap.size (w.heap.size + 1 + 1) w1 hC1).mono ?_
  rintro e w2 ⟨t, v, rfl, hN, hS, hF, hw8, hd⟩
  obtain ⟨k1, t1, n1, m1, a1, ca1, y1, b1, cb1, q1, rfl⟩ := nd_cells hN
  have hne : ∀ b, b < w.heap.size + 2 ∨ w.heap.size + 2 < b → some b ≠ some (w.heap.size + 1 + 1) := fun b hb e => by have := Option.some.inj e; omega
  have rA2 := (hd.by'.block w.heap.size (by omega) (hne _ (by omega))).trans rA1
  have rB2 := (hd.by'.block (w.heap.size + 1) (by omega) (hne _ (by omega))).trans rB1
  have B2 := B1.trans (hd.below (by omega))
  have s2 := hd.by'.size
  have hC2 := hd.cur
  have hN2 := hN.later (lo' := w.heap.size + 3) (hi' := w2.heap.size) (by omega) (Nat.le_refl _) (fun _ _ _ => rfl)
  clear rA1 rB1 B1 hd hC1 hN
  have b3 := bel_alloc w2 (.cells #[.int .i64 k1, .string t1, .int .i64 n1, .slice a1 m1 ca1, .int .i64 y1, .slice b1 q1 cb1] 27)
  have r3 := heap_alloc_new w2 (.cells #[.int .i64 k1, .string t1, .int .i64 n1, .slice a1 m1 ca1, .int .i64 y1, .slice b1 q1 cb1] 27)
  have s3 := size_alloc w2 (.cells #[.int .i64 k1, .string t1, .int .i64 n1, .slice a1 m1 ca1, .int .i64 y1, .slice b1 q1 cb1] 27)
  have rA3 := (b3.block w.heap.size (by omega)).trans rA2
  have rB3 := (b3.block (w.heap.size + 1) (by omega)).trans rB2
  have hN3 := hN2.below b3 (Nat.le_refl _)
  have hC3 := cur_alloc hC2 (.cells #[.int .i64 k1, .string t1, .int .i64 n1, .slice a1 m1 ca1, .int .i64 y1, .slice b1 q1 cb1] 27)
  have B3 := B2.trans (b3.mono (by omega))
  clear b3 rA2 rB2 hN2 hC2 B2
  go_wp2_with fail
  refine (once_any w.heap.size (w.heap.size + 1 + 1) 2 _ hC3 (by decide)).mono ?_
  rintro e w5 ⟨x, rfl, hd5⟩
  have r5 := (hd5.by'.block w2.heap.size (by omega) (hne _ (by omega))).trans r3
  have rA5 := (hd5.by'.block w.heap.size (by omega) (hne _ (by omega))).trans rA3
  have rB5 := (hd5.by'.block (w.heap.size + 1) (by omega) (hne _ (by omega))).trans rB3
  have hN5 := hN3.later (Nat.le_refl _) (Nat.le_refl _) (fun p h1 h2 => World.cell?_of_block (hd5.by'.block p.block (by omega) (hne _ (by omega))))
  have B5 := B3.trans (hd5.below (by omega))
  have s5 := hd5.by'.size
  have hC5 := hd5.cur
  clear r3 rA3 rB3 hN3 hC3 B3 hd5
  have hs5 : w2.heap.size < w5.heap.size := by omega
  clear s3 s5
  have c0 := cell_of_row _ _ 0 _ _ _ r5
  have fc0 := frozen_of_row _ _ 0 _ _ r5
  have c1 := cell_of_row _ _ 1 _ _ _ r5
  have fc1 := frozen_of_row _ _ 1 _ _ r5
  have c2 := cell_of_row _ _ 2 _ _ _ r5
  have fc2 := frozen_of_row _ _ 2 _ _ r5
  have c3 := cell_of_row _ _ 3 _ _ _ r5
  have fc3 := frozen_of_row _ _ 3 _ _ r5
  have c4 := cell_of_row _ _ 4 _ _ _ r5
  have fc4 := frozen_of_row _ _ 4 _ _ r5
  have c5 := cell_of_row _ _ 5 _ _ _ r5
  have fc5 := frozen_of_row _ _ 5 _ _ r5
  simp only [List.getElem?_toArray, List.getElem?_cons_zero, List.getElem?_cons_succ] at c0 c1 c2 c3 c4 c5
  cases x
  · have hC5d := cur_drew hC5
    go_wp2_with fail
    have nA : ¬ w2.heap.size = w.heap.size := by omega
    have nA' : ¬ w.heap.size = w2.heap.size := by omega
    have nB : ¬ w2.heap.size = w.heap.size + 1 := by omega
    have nB' : ¬ w.heap.size + 1 = w2.heap.size := by omega
    have K9 : Hid (∀ W, Drawn w.heap.size (w.heap.size + 1 + 1) w5.drew W → W.heap[w2.heap.size]? = some (.cells #[.int .i64 k1, .string t1, .int .i64 n1, .slice a1 m1 ca1, .int .i64 y1, .slice b1 q1 cb1] 27 (0, 0)) ∧ W.heap[w.heap.size]? = some (.cells #[.int .i64 0, .string ⟨#[]⟩, .int .i64 0, .slice none 0 0, .int .i64 0, .slice none 0 0] 27 (0, 0)) ∧ W.heap[w.heap.size + 1]? = some (.cells #[.int .i64 0, .string ⟨#[]⟩, .int .i64 0, .slice none 0 0, .int .i64 0, .slice none 0 0] 27 (0, 0))) := fun W hd =>
      ⟨(hd.by'.block w2.heap.size (by show _ < w5.heap.size; omega) (hne _ (by omega))).trans r5, (hd.by'.block w.heap.size (by show _ < w5.heap.size; omega) (hne _ (by omega))).trans rA5, (hd.by'.block (w.heap.size + 1) (by show _ < w5.heap.size; omega) (hne _ (by omega))).trans rB5⟩
    go_region_held3 (fun w' => w'.cell? ⟨w2.heap.size, 0, none⟩ = some (.int .i64 k1) ∧ w'.cell? ⟨w2.heap.size, 1, none⟩ = some (.string t1) ∧ w'.cell? ⟨w2.heap.size, 2, none⟩ = some (.int .i64 n1) ∧ w'.cell? ⟨w2.heap.size, 3, none⟩ = some (.slice a1 m1 ca1) ∧ w'.cell? ⟨w2.heap.size, 4, none⟩ = some (.int .i64 y1) ∧ w'.cell? ⟨w2.heap.size, 5, none⟩ = some (.slice b1 q1 cb1)) (go_keep) (first | (go_at_call 17; refine (tree_any w.heap.size (w.heap.size + 1 + 1) _ hC5d).mono ?_; rintro e w9 ⟨t', u, rfl, hN', hS', hF', hw8', hd9⟩; obtain ⟨k2, t2, n2, m2, a2, ca2, y2, b2, cb2, q2, rfl⟩ := nd_cells hN'; obtain ⟨r9, rA9, rB9⟩ := K9.out _ hd9; have c0 := cell_of_row _ _ 0 _ _ _ r9; have fc0 := frozen_of_row _ _ 0 _ _ r9; have c1 := cell_of_row _ _ 1 _ _ _ r9; have fc1 := frozen_of_row _ _ 1 _ _ r9; have c2 := cell_of_row _ _ 2 _ _ _ r9; have fc2 := frozen_of_row _ _ 2 _ _ r9; have c3 := cell_of_row _ _ 3 _ _ _ r9; have fc3 := frozen_of_row _ _ 3 _ _ r9; have c4 := cell_of_row _ _ 4 _ _ _ r9; have fc4 := frozen_of_row _ _ 4 _ _ r9; have c5 := cell_of_row _ _ 5 _ _ _ r9; have fc5 := frozen_of_row _ _ 5 _ _ r9; simp only [List.getElem?_toArray, List.getElem?_cons_zero, List.getElem?_cons_succ] at c0 c1 c2 c3 c4 c5; have x0 := cell_of_row _ _ 0 _ _ _ rA9; have fx0 := frozen_of_row _ _ 0 _ _ rA9; have x1 := cell_of_row _ _ 1 _ _ _ rA9; have fx1 := frozen_of_row _ _ 1 _ _ rA9; have x2 := cell_of_row _ _ 2 _ _ _ rA9; have fx2 := frozen_of_row _ _ 2 _ _ rA9; have x3 := cell_of_row _ _ 3 _ _ _ rA9; have fx3 := frozen_of_row _ _ 3 _ _ rA9; have x4 := cell_of_row _ _ 4 _ _ _ rA9; have fx4 := frozen_of_row _ _ 4 _ _ rA9; have x5 := cell_of_row _ _ 5 _ _ _ rA9; have fx5 := frozen_of_row _ _ 5 _ _ rA9; simp only [List.getElem?_toArray, List.getElem?_cons_zero, List.getElem?_cons_succ] at x0 x1 x2 x3 x4 x5; have z0 := cell_of_row _ _ 0 _ _ _ rB9; have fz0 := frozen_of_row _ _ 0 _ _ rB9; have z1 := cell_of_row _ _ 1 _ _ _ rB9; have fz1 := frozen_of_row _ _ 1 _ _ rB9; have z2 := cell_of_row _ _ 2 _ _ _ rB9; have fz2 := frozen_of_row _ _ 2 _ _ rB9; have z3 := cell_of_row _ _ 3 _ _ _ rB9; have fz3 := frozen_of_row _ _ 3 _ _ rB9; have z4 := cell_of_row _ _ 4 _ _ _ rB9; have fz4 := frozen_of_row _ _ 4 _ _ rB9; have z5 := cell_of_row _ _ 5 _ _ _ rB9; have fz5 := frozen_of_row _ _ 5 _ _ rB9; simp only [List.getElem?_toArray, List.getElem?_cons_zero, List.getElem?_cons_succ] at z0 z1 z2 z3 z4 z5))
    all_goals
      go_wp2_with fail
      have e9 : ∀ b, w.heap.size + 3 ≤ b → b < w5.heap.size → w9.heap[b]? = w5.heap[b]? := fun b h1 h2 => hd9.by'.block b h2 (hne b (by omega))
      have N9 := NAt.later (w := w5) (w' := w9) (Nat.le_refl _) (Nat.le_refl _) (fun p h1 h2 => World.cell?_of_block (w := w5) (e9 p.block (by omega) (by omega))) hN5
      have B9 : Below w.heap.size w w9 := B5.drew.trans (hd9.below (by show w.heap.size ≤ w5.heap.size; omega))
      have s9 : w5.heap.size ≤ w9.heap.size := hd9.by'.size
      have N9' := hN'.later (lo' := w.heap.size + 3) (hi' := w9.heap.size) (by show w.heap.size + 3 ≤ w5.heap.size; omega) (Nat.le_refl _) (fun _ _ _ => rfl)
      refine bodyPost_ret (v := .tuple #[.agg #[.int .i64 k1, .string t1, .int .i64 n1, .slice a1 m1 ca1, .int .i64 y1, .slice b1 q1 cb1], .agg #[.int .i64 k2, .string t2, .int .i64 n2, .slice a2 m2 ca2, .int .i64 y2, .slice b2 q2 cb2]]) (by simp [results, Try.results7, go_sem, *]) rfl ?_
      have HK : ∀ (W : World), (∀ b, w.heap.size + 2 ≤ b → W.heap[b]? = w9.heap[b]?) → W.heap.size = w9.heap.size → Below w.heap.size w W → ∃ s t v u, Ending.returned (Value.tuple #[.agg #[.int .i64 k1, .string t1, .int .i64 n1, .slice a1 m1 ca1, .int .i64 y1, .slice b1 q1 cb1], .agg #[.int .i64 k2, .string t2, .int .i64 n2, .slice a2 m2 ca2, .int .i64 y2, .slice b2 q2 cb2]]) = Ending.returned (.tuple #[.agg v.toArray, .agg u.toArray]) ∧ NAt W w.heap.size W.heap.size s v ∧ NAt W w.heap.size W.heap.size t u ∧ Flat 30 s ∧ Flat 30 t ∧ wt s ≤ 8000 ∧ wt t ≤ 8000 ∧ Below w.heap.size w W := fun W hk hs hb =>
        ⟨_, _, [.int .i64 k1, .string t1, .int .i64 n1, .slice a1 m1 ca1, .int .i64 y1, .slice b1 q1 cb1], [.int .i64 k2, .string t2, .int .i64 n2, .slice a2 m2 ca2, .int .i64 y2, .slice b2 q2 cb2], rfl, N9.later (by omega) (by omega) (fun p h1 h2 => World.cell?_of_block (hk p.block (by omega))), N9'.later (by omega) (by omega) (fun p h1 h2 => World.cell?_of_block (hk p.block (by omega))), hF, hF', hw8, hw8', hb⟩
      with_reducible refine HK _ (fun b hb => ?_) ?_ ?_
      · repeat (first | (with_reducible refine (heap_setCell_other _ _ _ _ (by dsimp only; omega)).trans ?_) | (with_reducible refine (drew_heap _ _).trans ?_))
        with_reducible rfl
      · simp only [World.size_setCell]
      · repeat (first | (with_reducible exact B9) | (with_reducible refine Below.drew ?_) | (with_reducible refine Below.setCell ?_ (by dsimp only; omega) _))
  · go_wp2_with fail
    refine (show_any H t _ _ _ w5 hF hS hN5 (by omega) hw8).mono ?_
    rintro e w6 ⟨s, rfl, hs, hb6⟩
    go_wp2_with fail
    refine (read_any s w6 hs).mono ?_
    rintro e w7 ⟨t', u, z, rfl, hN', hS', hF', hw8', hb7, _⟩
    obtain ⟨k2, t2, n2, m2, a2, ca2, y2, b2, cb2, q2, rfl⟩ := nd_cells hN'
    have b57 := hb6.trans (hb7.mono hb6.size)
    have r7 := (b57.block w2.heap.size (by omega)).trans r5
    have rA7 := (b57.block w.heap.size (by omega)).trans rA5
    have rB7 := (b57.block (w.heap.size + 1) (by omega)).trans rB5
    have hN7 := hN5.below b57 (by omega)
    have B7 := B5.trans (b57.mono (by omega))
    have s7 := b57.size
    have hN7' := hN'.later (lo' := w.heap.size + 3) (hi' := w7.heap.size) (by have := hb6.size; omega) (Nat.le_refl _) (fun _ _ _ => rfl)
    clear r5 rA5 rB5 hN5 B5 b57 hb6 hb7 hN' hC5 c0 fc0 c1 fc1 c2 fc2 c3 fc3 c4 fc4 c5 fc5
    have b8 := bel_alloc w7 (.cells #[.int .i64 k2, .string t2, .int .i64 n2, .slice a2 m2 ca2, .int .i64 y2, .slice b2 q2 cb2] 27)
    have r8 := heap_alloc_new w7 (.cells #[.int .i64 k2, .string t2, .int .i64 n2, .slice a2 m2 ca2, .int .i64 y2, .slice b2 q2 cb2] 27)
    have s8 := size_alloc w7 (.cells #[.int .i64 k2, .string t2, .int .i64 n2, .slice a2 m2 ca2, .int .i64 y2, .slice b2 q2 cb2] 27)
    have r8' := (b8.block w2.heap.size (by omega)).trans r7
    have rA8 := (b8.block w.heap.size (by omega)).trans rA7
    have rB8 := (b8.block (w.heap.size + 1) (by omega)).trans rB7
    have hN8 := hN7.below b8 (by omega)
    have hN8' := hN7'.below b8 (by omega)
    have B8 := B7.trans (b8.mono (by omega))
    clear b8 r7 rA7 rB7 hN7 hN7' B7
    have nA : ¬ w2.heap.size = w.heap.size := by omega
    have nA' : ¬ w.heap.size = w2.heap.size := by omega
    have nB : ¬ w2.heap.size = w.heap.size + 1 := by omega
    have nB' : ¬ w.heap.size + 1 = w2.heap.size := by omega
    have nC : ¬ w7.heap.size = w.heap.size := by omega
    have nC' : ¬ w.heap.size = w7.heap.size := by omega
    have nD : ¬ w7.heap.size = w.heap.size + 1 := by omega
    have nD' : ¬ w.heap.size + 1 = w7.heap.size := by omega
    have c0 := cell_of_row _ _ 0 _ _ _ r8'
    have fc0 := frozen_of_row _ _ 0 _ _ r8'
    have c1 := cell_of_row _ _ 1 _ _ _ r8'
    have fc1 := frozen_of_row _ _ 1 _ _ r8'
    have c2 := cell_of_row _ _ 2 _ _ _ r8'
    have fc2 := frozen_of_row _ _ 2 _ _ r8'
    have c3 := cell_of_row _ _ 3 _ _ _ r8'
    have fc3 := frozen_of_row _ _ 3 _ _ r8'
    have c4 := cell_of_row _ _ 4 _ _ _ r8'
    have fc4 := frozen_of_row _ _ 4 _ _ r8'
    have c5 := cell_of_row _ _ 5 _ _ _ r8'
    have fc5 := frozen_of_row _ _ 5 _ _ r8'
    simp only [List.getElem?_toArray, List.getElem?_cons_zero, List.getElem?_cons_succ] at c0 c1 c2 c3 c4 c5
    have e0 := cell_of_row _ _ 0 _ _ _ r8
    have fe0 := frozen_of_row _ _ 0 _ _ r8
    have e1 := cell_of_row _ _ 1 _ _ _ r8
    have fe1 := frozen_of_row _ _ 1 _ _ r8
    have e2 := cell_of_row _ _ 2 _ _ _ r8
    have fe2 := frozen_of_row _ _ 2 _ _ r8
    have e3 := cell_of_row _ _ 3 _ _ _ r8
    have fe3 := frozen_of_row _ _ 3 _ _ r8
    have e4 := cell_of_row _ _ 4 _ _ _ r8
    have fe4 := frozen_of_row _ _ 4 _ _ r8
    have e5 := cell_of_row _ _ 5 _ _ _ r8
    have fe5 := frozen_of_row _ _ 5 _ _ r8
    simp only [List.getElem?_toArray, List.getElem?_cons_zero, List.getElem?_cons_succ] at e0 e1 e2 e3 e4 e5
    have x0 := cell_of_row _ _ 0 _ _ _ rA8
    have fx0 := frozen_of_row _ _ 0 _ _ rA8
    have x1 := cell_of_row _ _ 1 _ _ _ rA8
    have fx1 := frozen_of_row _ _ 1 _ _ rA8
    have x2 := cell_of_row _ _ 2 _ _ _ rA8
    have fx2 := frozen_of_row _ _ 2 _ _ rA8
    have x3 := cell_of_row _ _ 3 _ _ _ rA8
    have fx3 := frozen_of_row _ _ 3 _ _ rA8
    have x4 := cell_of_row _ _ 4 _ _ _ rA8
    have fx4 := frozen_of_row _ _ 4 _ _ rA8
    have x5 := cell_of_row _ _ 5 _ _ _ rA8
    have fx5 := frozen_of_row _ _ 5 _ _ rA8
    simp only [List.getElem?_toArray, List.getElem?_cons_zero, List.getElem?_cons_succ] at x0 x1 x2 x3 x4 x5
    have z0 := cell_of_row _ _ 0 _ _ _ rB8
    have fz0 := frozen_of_row _ _ 0 _ _ rB8
    have z1 := cell_of_row _ _ 1 _ _ _ rB8
    have fz1 := frozen_of_row _ _ 1 _ _ rB8
    have z2 := cell_of_row _ _ 2 _ _ _ rB8
    have fz2 := frozen_of_row _ _ 2 _ _ rB8
    have z3 := cell_of_row _ _ 3 _ _ _ rB8
    have fz3 := frozen_of_row _ _ 3 _ _ rB8
    have z4 := cell_of_row _ _ 4 _ _ _ rB8
    have fz4 := frozen_of_row _ _ 4 _ _ rB8
    have z5 := cell_of_row _ _ 5 _ _ _ rB8
    have fz5 := frozen_of_row _ _ 5 _ _ rB8
    simp only [List.getElem?_toArray, List.getElem?_cons_zero, List.getElem?_cons_succ] at z0 z1 z2 z3 z4 z5
    have hs8 : w7.heap.size < (w7.alloc (.cells #[.int .i64 k2, .string t2, .int .i64 n2, .slice a2 m2 ca2, .int .i64 y2, .slice b2 q2 cb2] 27)).heap.size := by omega
    clear s8
    go_wp2_with fail
    go_region_held3 (fun w' => w'.cell? ⟨w2.heap.size, 0, none⟩ = some (.int .i64 k1) ∧ w'.cell? ⟨w2.heap.size, 1, none⟩ = some (.string t1) ∧ w'.cell? ⟨w2.heap.size, 2, none⟩ = some (.int .i64 n1) ∧ w'.cell? ⟨w2.heap.size, 3, none⟩ = some (.slice a1 m1 ca1) ∧ w'.cell? ⟨w2.heap.size, 4, none⟩ = some (.int .i64 y1) ∧ w'.cell? ⟨w2.heap.size, 5, none⟩ = some (.slice b1 q1 cb1) ∧ w'.cell? ⟨w7.heap.size, 0, none⟩ = some (.int .i64 k2) ∧ w'.cell? ⟨w7.heap.size, 1, none⟩ = some (.string t2) ∧ w'.cell? ⟨w7.heap.size, 2, none⟩ = some (.int .i64 n2) ∧ w'.cell? ⟨w7.heap.size, 3, none⟩ = some (.slice a2 m2 ca2) ∧ w'.cell? ⟨w7.heap.size, 4, none⟩ = some (.int .i64 y2) ∧ w'.cell? ⟨w7.heap.size, 5, none⟩ = some (.slice b2 q2 cb2)) (go_keep) (fail)
    all_goals
      go_wp2_with fail
      refine bodyPost_ret (v := .tuple #[.agg #[.int .i64 k1, .string t1, .int .i64 n1, .slice a1 m1 ca1, .int .i64 y1, .slice b1 q1 cb1], .agg #[.int .i64 k2, .string t2, .int .i64 n2, .slice a2 m2 ca2, .int .i64 y2, .slice b2 q2 cb2]]) (by simp [results, Try.results7, go_sem, *]) rfl ?_
      have HK : ∀ (W : World), (∀ b, w.heap.size + 2 ≤ b → W.heap[b]? = (w7.alloc (.cells #[.int .i64 k2, .string t2, .int .i64 n2, .slice a2 m2 ca2, .int .i64 y2, .slice b2 q2 cb2] 27)).heap[b]?) → W.heap.size = (w7.alloc (.cells #[.int .i64 k2, .string t2, .int .i64 n2, .slice a2 m2 ca2, .int .i64 y2, .slice b2 q2 cb2] 27)).heap.size → Below w.heap.size w W → ∃ s t v u, Ending.returned (Value.tuple #[.agg #[.int .i64 k1, .string t1, .int .i64 n1, .slice a1 m1 ca1, .int .i64 y1, .slice b1 q1 cb1], .agg #[.int .i64 k2, .string t2, .int .i64 n2, .slice a2 m2 ca2, .int .i64 y2, .slice b2 q2 cb2]]) = Ending.returned (.tuple #[.agg v.toArray, .agg u.toArray]) ∧ NAt W w.heap.size W.heap.size s v ∧ NAt W w.heap.size W.heap.size t u ∧ Flat 30 s ∧ Flat 30 t ∧ wt s ≤ 8000 ∧ wt t ≤ 8000 ∧ Below w.heap.size w W := fun W hk hs hb =>
        ⟨_, _, [.int .i64 k1, .string t1, .int .i64 n1, .slice a1 m1 ca1, .int .i64 y1, .slice b1 q1 cb1], [.int .i64 k2, .string t2, .int .i64 n2, .slice a2 m2 ca2, .int .i64 y2, .slice b2 q2 cb2], rfl, hN8.later (by omega) (by omega) (fun p h1 h2 => World.cell?_of_block (hk p.block (by omega))), hN8'.later (by omega) (by omega) (fun p h1 h2 => World.cell?_of_block (hk p.block (by omega))), hF, hF', hw8, hw8', hb⟩
      with_reducible refine HK _ (fun b hb => ?_) ?_ ?_
      · repeat (first | (with_reducible refine (heap_setCell_other _ _ _ _ (by dsimp only; omega)).trans ?_) | (with_reducible refine (drew_heap _ _).trans ?_))
        with_reducible rfl
      · simp only [World.size_setCell, size_drew]
      · repeat (first | (with_reducible exact B8) | (with_reducible refine Below.drew ?_) | (with_reducible refine Below.setCell ?_ (by dsimp only; omega) _))
end Go.Proofs.Ytlmmomffanakiaa
namespace Go.Proofs.Ytlmmomffanakiaa
open Go.RowKit

set_option maxRecDepth 100000 in
set_option maxHeartbeats 1600000 in
theorem drawSize_any (a : Option Addr) (len cap : Nat) (w : World) (hcode : IsCode w w.heap.size a len cap) :
    Calls Try.prog 9 #[.slice a len cap] w fun e w' => ∃ t v, e = .returned (.agg v.toArray) ∧ NAt w' w.heap.size w'.heap.size t v ∧ Sm t ∧ Flat 30 t ∧ wt t ≤ 8000 ∧ Below w.heap.size w w' := by
  obtain ⟨i0, hi0, hz0, hz1, hz2⟩ := info_parts info_nd
  go_enter Try.func9, Try.ntmps9
  go_wp2_with fail
  have bA := bel_alloc w (.cells #[.int .i64 0, .string ⟨#[]⟩, .int .i64 0, .slice none 0 0, .int .i64 0, .slice none 0 0] 27)
  have rA := heap_alloc_new w (.cells #[.int .i64 0, .string ⟨#[]⟩, .int .i64 0, .slice none 0 0, .int .i64 0, .slice none 0 0] 27)
  have sA := size_alloc w (.cells #[.int .i64 0, .string ⟨#[]⟩, .int .i64 0, .slice none 0 0, .int .i64 0, .slice none 0 0] 27)
  generalize w.alloc (.cells #[.int .i64 0, .string ⟨#[]⟩, .int .i64 0, .slice none 0 0, .int .i64 0, .slice none 0 0] 27) = wA at *
  have hcA : IsCode wA w.heap.size a len cap := ⟨hcode.small, fun j hj => by
    obtain ⟨b, off, x, e, hb, hx, h0, h1⟩ := hcode.cells j hj
    exact ⟨b, off, x, e, hb, (bA.cell (p := ⟨b, off + j, none⟩) hb).trans hx, h0, h1⟩⟩
  refine (new_any w.heap.size a len cap wA hcA (by omega)).mono ?_
  rw [sA]
  rintro e w1 ⟨rfl, hC1, hb1⟩
  have r1 := (hb1.block w.heap.size (by omega)).trans rA
  have B1 := bA.trans (hb1.mono (by omega))
  have s1 : w.heap.size + 1 ≤ w1.heap.size := by have := hb1.size; omega
  clear bA rA hb1 hcA hcode sA
  go_wp2_with fail
  refine (tree_any w.heap.size (w.heap.size + 1) w1 hC1).mono ?_
  rintro e w2 ⟨t, v, rfl, hN, hS, hF, hw8, hd⟩
  obtain ⟨k1, t1, n1, m1, a1, ca1, y1, b1, cb1, q1, rfl⟩ := nd_cells hN
  have r2 := (hd.by'.block w.heap.size (by omega) (fun e => by have := Option.some.inj e; omega)).trans r1
  have B2 := B1.trans (hd.below (by omega))
  have s2 := hd.by'.size
  clear r1 B1 hd hC1
  have c0 := cell_of_row _ _ 0 _ _ _ r2
  have fc0 := frozen_of_row _ _ 0 _ _ r2
  have c1 := cell_of_row _ _ 1 _ _ _ r2
  have fc1 := frozen_of_row _ _ 1 _ _ r2
  have c2 := cell_of_row _ _ 2 _ _ _ r2
  have fc2 := frozen_of_row _ _ 2 _ _ r2
  have c3 := cell_of_row _ _ 3 _ _ _ r2
  have fc3 := frozen_of_row _ _ 3 _ _ r2
  have c4 := cell_of_row _ _ 4 _ _ _ r2
  have fc4 := frozen_of_row _ _ 4 _ _ r2
  have c5 := cell_of_row _ _ 5 _ _ _ r2
  have fc5 := frozen_of_row _ _ 5 _ _ r2
  simp only [List.getElem?_toArray, List.getElem?_cons_zero, List.getElem?_cons_succ] at c0 c1 c2 c3 c4 c5
  go_wp2_with fail
  refine bodyPost_ret (v := .agg #[.int .i64 k1, .string t1, .int .i64 n1, .slice a1 m1 ca1, .int .i64 y1, .slice b1 q1 cb1]) (by simp [results, Try.results9, go_sem, *]) rfl ?_
  refine ⟨t, [.int .i64 k1, .string t1, .int .i64 n1, .slice a1 m1 ca1, .int .i64 y1, .slice b1 q1 cb1], rfl, ?_, hS, hF, hw8, B2.trans (bel_six _ _ _ (Nat.le_refl _) _ _ _ _ _ _)⟩
  exact hN.later (by omega) (by rw [six_size]; omega) (fun p h1 h2 => six_other _ _ _ _ _ _ _ _ p (by omega))
end Go.Proofs.Ytlmmomffanakiaa
