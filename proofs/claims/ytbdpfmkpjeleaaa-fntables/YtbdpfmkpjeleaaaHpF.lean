/- A pair more in the first table, a table more, a cell more: as a heap is drawn. -/
import Derived.Test.YtbdpfmkpjeleaaaHpD
import Derived.Deep.RegionHeldLaw
import Derived.Test.YtbdpfmkpjeleaaaRegN
namespace Go.Proofs.Ytbdpfmkpjeleaaa
open Go.RowKit

def mT (W : World) (p : Addr) (M : Nat) : Nat := match W.cell? p with | some (.slice _ n _) => M - n | _ => 0
def mE (W : World) (p : Addr) : Nat := match W.cell? p with | some (.slice (some a) _ _) => mT W a 200 | _ => 0
theorem mT_eq {W : World} {p : Addr} {M n : Nat} {a : Option Addr} {c : Nat} (h : W.cell? p = some (.slice a n c)) : mT W p M = M - n := by unfold mT; rw [h]
theorem mE_eq {W : World} {p a : Addr} {n c : Nat} (h : W.cell? p = some (.slice (some a) n c)) : mE W p = mT W a 200 := by unfold mE; rw [h]

/-- The first table's row has been appended to (in its own block, or in a new one). -/
theorem tabs_append {W w4 : World} {lo : Nat} {s s' : Sl} {ss : List Sl} {xs xs' : List Value} {xss : List (List Value)} (h : Tabs W lo W.heap.size (s :: ss) (xs :: xss)) (O : Obj) (hg : (W.alloc O).grownBy w4 s.v.ownBlock) (h5 : w4.ownsRow lo 61 6 s'.v s'.n xs') (hat : s'.v.ownBlock = s.v.ownBlock ∨ s'.v.ownBlock = some (W.alloc O).heap.size) (hlo : lo ≤ W.heap.size) : Tabs w4 lo w4.heap.size (s' :: ss) (xs' :: xss) := by
  obtain ⟨h0, L, U, h1, h2, h4⟩ := h
  have hz : (W.alloc O).heap.size = W.heap.size + 1 := size_alloc W O
  have hgs := hg.size
  have hr0 := h4 0 (by simp) (by simp)
  simp only [List.getElem_cons_zero] at hr0
  have row' := row_of_own h5
  -- the old block of the first row lies within its bounds
  have hold : ∀ g, s.v.ownBlock = some g → L 0 ≤ g ∧ g < U 0 := fun g hg' => by
    rcases hr0.2 with ⟨e, _⟩ | ⟨g', cs, e, hl, hh, _⟩
    · unfold Sl.v at hg'; rw [e] at hg'; cases hg'
    · unfold Sl.v at hg'; rw [e] at hg'; cases hg'; exact ⟨hl, hh⟩
  have oth : ∀ j (hj : j + 1 < (s :: ss).length) (hj' : j + 1 < (xs :: xss).length), Row w4 (L (j + 1)) (U (j + 1)) 61 6 (s :: ss)[j + 1] (xs :: xss)[j + 1] := fun j hj hj' =>
    (h4 (j + 1) hj hj').keep fun b hb hb' ⟨cs, hc⟩ => by
      have hlt := (Array.getElem?_eq_some_iff.1 hc).1
      rw [hg.block b (by omega) (fun e => by
        have := hold b e.symm
        have := h2 0 (j + 1) (by simp) hj (by omega)
        omega), Below.heap_alloc _ _ _ hlt]
  rcases hat with hat | hat
  · -- in place (or nil still)
    refine ⟨by simpa using h0, L, U, fun i hi => by have := h1 i (by simpa using hi); omega, fun i j hi hj => h2 i j (by simpa using hi) (by simpa using hj), fun i hi hi' => ?_⟩
    cases i with
    | zero =>
      simp only [List.getElem_cons_zero]
      obtain ⟨a1, a2⟩ := row'
      refine ⟨a1, a2.imp_right ?_⟩
      rintro ⟨g, cs, e, hl, hh, r⟩
      have := hold g (by rw [← hat]; unfold Sl.v; rw [e]; rfl)
      exact ⟨g, cs, e, this.1, this.2, r⟩
    | succ j => exact oth j (by simpa using hi) (by simpa using hi')
  · refine ⟨by simpa using h0, fun i => if i = 0 then W.heap.size + 1 else L i, fun i => if i = 0 then w4.heap.size else U i, fun i hi => ?_, fun i j hi hj hne => ?_, fun i hi hi' => ?_⟩
    · have := h1 i (by simpa using hi)
      dsimp only
      split <;> omega
    · have a1 := h1 i (by simpa using hi)
      have a2 := h1 j (by simpa using hj)
      have a3 := h2 i j (by simpa using hi) (by simpa using hj) hne
      dsimp only
      split <;> split <;> omega
    · cases i with
      | zero =>
        simp only [List.getElem_cons_zero, if_true]
        obtain ⟨a1, a2⟩ := row'
        refine ⟨a1, a2.imp_right ?_⟩
        rintro ⟨g, cs, e, hl, hh, r⟩
        have : some g = some (W.alloc O).heap.size := by rw [← hat]; unfold Sl.v; rw [e]; rfl
        have := Option.some.inj this
        exact ⟨g, cs, e, by omega, hh, r⟩
      | succ j =>
        simp only [Nat.add_one_ne_zero, if_false]
        exact oth j (by simpa using hi) (by simpa using hi')
theorem Drawn.grown {B c : Nat} {w W W' : World} {row : Option Nat} (h : Drawn B c w W) (hg : W.grownBy W' row) (hr : ∀ k, row = some k → w.heap.size ≤ k) (hc : c < w.heap.size) : Drawn B c w W' := by
  have hup := h.cur.up
  have hne : ∀ i, i < w.heap.size → some i ≠ row := fun i hi e => by have := hr i e.symm; omega
  have hsz := h.by'.size
  refine ⟨⟨hup, ?_⟩, ⟨hg.os.trans h.by'.os, hg.tape.trans h.by'.tape, hg.output.trans h.by'.output, Nat.le_trans hsz hg.size, fun i hi hn => (hg.block i (by omega) (hne i hi)).trans (h.by'.block i hi hn)⟩⟩
  obtain ⟨a, len, cap, i, x, hh, hcd, hi⟩ := h.cur.holds
  exact ⟨a, len, cap, i, x, (hg.block c (by omega) (hne c hc)).trans hh, ⟨hcd.small, fun j' hj => by
    obtain ⟨b', off, y, e, hbb, hx, h0, h1⟩ := hcd.cells j' hj
    exact ⟨b', off, y, e, hbb, (World.cell?_of_block (w := W) (hg.block b' (by omega) (hne b' (by omega)))).trans hx, h0, h1⟩⟩, hi⟩
theorem own_ge {W : World} {L : Nat} {T : TypeId} {k : Nat} {v : Value} {n : Nat} {xs : List Value} (h : W.ownsRow L T k v n xs) : ∀ q, v.ownBlock = some q → L ≤ q := fun q hq => (h.lt q hq).1

/-- A pair more in the first table. -/
theorem DS.pair {B c g : Nat} {w W w4 : World} {t : List Pr} {ts : List (List Pr)} {vs : List Vl} {p : Pr} {sp cl s s' : Sl} {ss : List Sl} (d : DS B c w W ⟨t :: ts, vs⟩ sp cl (s :: ss)) (O : Obj) (hg : (W.alloc O).grownBy w4 s.v.ownBlock) (hsp : sp.a = some ⟨g, 0, none⟩)
    (h5 : w4.ownsRow w.heap.size 61 6 s'.v s'.n (flatP (t ++ [p]))) (hat : s'.v.ownBlock = s.v.ownBlock ∨ s'.v.ownBlock = some (W.alloc O).heap.size) (hc : c < w.heap.size) :
    DS B c w (w4.setCell ⟨g, 0, none⟩ s'.v) ⟨(t ++ [p]) :: ts, vs⟩ sp cl (s' :: ss) := by
  have hbO : Below W.heap.size W (W.alloc O) := bel_alloc W O
  have dO := d.later hbO
  have hlt := d.lt
  have hrow0 : Row (W.alloc O) w.heap.size (W.alloc O).heap.size 61 6 s (flatP t) := by
    have := dO.va.own.tabs.get 0 (by simp) (by simp [Hp.xss])
    simpa [Hp.xss] using this
  have own0 := own_of_row hrow0
  have hgw : ∀ k, s.v.ownBlock = some k → w.heap.size ≤ k := own_ge own0
  -- what w4 keeps
  have sp4 := own_grown dO.va.own.spine own0 hg (by decide)
  have cl4 := own_grown dO.va.own.cells own0 hg (by decide)
  have var4 : w4.heap[w.heap.size + 1]? = some (.cells #[sp.v, cl.v] 30 (0, 0)) := (hg.block _ dO.lt (own_ne own0 dO.va.var (by decide))).trans dO.va.var
  have rv4 : w4.heap[w.heap.size]? = some (.cells #[.slice none 0 0, .slice none 0 0] 30 (0, 0)) := (hg.block _ (by have := dO.lt; omega) (own_ne own0 dO.rv (by decide))).trans dO.rv
  have dr4 : Drawn B c w w4 := (d.dr.later hbO).grown hg hgw hc
  have tb4 := tabs_append d.va.own.tabs O hg h5 hat (by omega)
  have hn : sp.n = (s :: ss).length := dO.va.own.lay.len
  have hown : w4.ownsRow w.heap.size 59 1 (.slice (some ⟨g, 0, none⟩) sp.n sp.c) sp.n ((s :: ss).map Sl.v) := by
    have := sp4; unfold Sl.v at this ⊢; rw [hsp] at this; exact this
  have hgB := hown.lt g rfl
  obtain ⟨cur, hgr⟩ : ∃ cur, w4.heap[g]? = some (.cells cur 59 (0, 0)) := by
    rcases hown.2 with ⟨e, _⟩ | ⟨g', cap, cur, e, _, hh, _⟩
    · cases e
    · cases e; exact ⟨cur, hh⟩
  have far : ∀ b, b ≠ g → (w4.setCell ⟨g, 0, none⟩ s'.v).heap[b]? = w4.heap[b]? := fun b hne => heap_setCell_other _ _ _ _ hne
  have ne : ∀ b cs T, w4.heap[b]? = some (.cells cs T (0, 0)) → T ≠ 59 → b ≠ g := fun b cs T h1 h2 e => by
    subst e; rw [hgr] at h1; simp only [Option.some.injEq, Obj.cells.injEq] at h1; exact h2 h1.2.1.symm
  refine ⟨dr4.put hc hgB.1, ⟨(far _ (ne _ _ _ var4 (by decide))).trans var4, ⟨?_, ?_, ?_⟩⟩, (far _ (ne _ _ _ rv4 (by decide))).trans rv4, by simpa using d.n1, d.n2⟩
  · have q := spine_set (i := 0) (v := s'.v) hown (by rw [hn]; simp)
    have e : sp.v = .slice (some ⟨g, 0, none⟩) sp.n sp.c := by unfold Sl.v; rw [hsp]
    rw [e]
    simpa using q
  · exact (tb4.keep fun b _ _ ⟨cs, hx⟩ => far b (ne b cs _ hx (by decide))).wide (Nat.le_refl _) (by simp)
  · exact own_keep cl4 fun b cs _ hx => far b (ne b cs _ hx (by decide))
/-- A table more, without pairs. -/
theorem DS.tab {B c : Nat} {w W w4 w5 : World} {h : Hp} {sp cl s4 : Sl} {ss : List Sl} (d : DS B c w W h sp cl ss) (hb : Below W.heap.size W w4) (hr : Row w4 W.heap.size w4.heap.size 61 6 s4 []) (O : Obj) (hg : (w4.alloc O).grownBy w5 sp.v.ownBlock) (b5 : Option Addr) (c5 : Nat)
    (h5 : w5.ownsRow w.heap.size 59 1 (.slice b5 (sp.n + 1) c5) (sp.n + 1) (ss.map Sl.v ++ [s4.v])) (hc : c < w.heap.size) :
    DS B c w (w5.setCell ⟨w.heap.size + 1, 0, none⟩ (.slice b5 (sp.n + 1) c5)) ⟨h.ts ++ [[]], h.vs⟩ ⟨b5, sp.n + 1, c5⟩ cl (ss ++ [s4]) := by
  obtain ⟨h1, h2, _⟩ := d.va.table hb hr O hg b5 c5 h5 (by have := d.lt; omega) (by omega)
  have d4 := d.later (hb.trans ((bel_alloc w4 O).mono hb.size))
  refine ⟨(d4.dr.grown hg (own_ge d4.va.own.spine) hc).put hc (by omega), ?_, (h2 _ _ d.rv (by omega)).trans d.rv, by simp [d.n1], d.n2⟩
  have e : (⟨h.ts ++ [[]], h.vs⟩ : Hp).xss = h.xss ++ [[]] := by simp [Hp.xss, flatP]
  rw [e]
  exact h1
/-- A cell more. -/
theorem DS.cel {B c : Nat} {w W w4 w5 : World} {h : Hp} {v : Vl} {sp cl : Sl} {ss : List Sl} (d : DS B c w W h sp cl ss) (hb : Below W.heap.size W w4) (O : Obj) (hg : (w4.alloc O).grownBy w5 cl.v.ownBlock) (b5 : Option Addr) (c5 : Nat)
    (h5 : w5.ownsRow w.heap.size 32 3 (.slice b5 (cl.n + 1) c5) (cl.n + 1) (flatV h.vs ++ v.cs)) (hc : c < w.heap.size) :
    DS B c w (w5.setCell ⟨w.heap.size + 1, 1, none⟩ (.slice b5 (cl.n + 1) c5)) ⟨h.ts, h.vs ++ [v]⟩ sp ⟨b5, cl.n + 1, c5⟩ ss := by
  obtain ⟨h1, h2, _⟩ := d.va.cell hb O hg b5 c5 h5 (by have := d.lt; omega) (by omega)
  have d4 := d.later (hb.trans ((bel_alloc w4 O).mono hb.size))
  refine ⟨(d4.dr.grown hg (own_ge d4.va.own.cells) hc).put hc (by omega), ?_, (h2 _ _ d.rv (by omega)).trans d.rv, d.n1, by simp [d.n2]⟩
  show VarH _ _ _ _ _ _ h.xss (flatV (h.vs ++ [v]))
  rw [flatV_snoc]
  exact h1
theorem good_tab {h : Hp} (hg : HGood h) : HGood ⟨h.ts ++ [[]], h.vs⟩ := by
  refine ⟨⟨fun i hi => ?_, hg.ok.2⟩, ⟨fun q hq m hm => ?_, hg.sm.vs⟩, fun i hi => ?_, fun i hi => ?_⟩
  · by_cases hl : i < h.ts.length
    · simp only [List.getElem_append_left hl]; exact hg.ok.1 i hl
    · rw [List.length_append, List.length_singleton] at hi
      obtain rfl : i = h.ts.length := by omega
      have e : (h.ts ++ [[]])[h.ts.length]'(by simp) = ([] : List Pr) := by simp
      simp only [e]
      exact ⟨by simp [maxLen], fun j hj => absurd hj (by simp)⟩
  · by_cases hl : q < h.ts.length
    · simp only [List.getElem_append_left hl] at hm ⊢; exact hg.sm.ts q hl m hm
    · rw [List.length_append, List.length_singleton] at hq
      obtain rfl : q = h.ts.length := by omega
      simp at hm
  · by_cases hl : i < h.ts.length
    · simp only [List.getElem_append_left hl]; exact hg.t i hl
    · rw [List.length_append, List.length_singleton] at hi
      obtain rfl : i = h.ts.length := by omega
      simp
  · by_cases hl : i < h.ts.length
    · simp only [List.getElem_append_left hl]; exact hg.d i hl
    · rw [List.length_append, List.length_singleton] at hi
      obtain rfl : i = h.ts.length := by omega
      have e : (h.ts ++ [[]])[h.ts.length]'(by simp) = ([] : List Pr) := by simp
      simp only [e]
      exact dks_nil
theorem good_cel {h : Hp} {v : Vl} (hg : HGood h) (hv : v.Ok) (hs : v.Sm) : HGood ⟨h.ts, h.vs ++ [v]⟩ := by
  refine ⟨⟨hg.ok.1, fun i hi => ?_⟩, ⟨hg.sm.ts, fun i hi => ?_⟩, hg.t, hg.d⟩
  · by_cases hl : i < h.vs.length
    · simp only [List.getElem_append_left hl]; exact hg.ok.2 i hl
    · have hi' := hi
      rw [List.length_append, List.length_singleton] at hi
      obtain rfl : i = h.vs.length := by omega
      simpa using hv
  · by_cases hl : i < h.vs.length
    · simp only [List.getElem_append_left hl]; exact hg.sm.vs i hl
    · rw [List.length_append, List.length_singleton] at hi
      obtain rfl : i = h.vs.length := by omega
      simpa using hs
theorem wrap_mid (x : Int) (h0 : -1000000 ≤ x) (h1 : x ≤ 1000000) : IntKind.wrap .i64 x = x := by
  rw [IntKind.wrap_i64]; omega
theorem good_snoc {t : List Pr} {ts : List (List Pr)} {vs : List Vl} {p : Pr} (hg : HGood ⟨t :: ts, vs⟩) (hl : t.length < 201) (hn : p.key.n = 1000 + (t.length : Int)) (hp : p.Ok ∧ p.Sm) : HGood ⟨(t ++ [p]) :: ts, vs⟩ := by
  refine good_put (i := 0) (l := t ++ [p]) hg (by rw [List.length_append, List.length_singleton]; omega) (dks_snoc (hg.d 0 (Nat.zero_lt_succ _)) hn) (fun q hq => ?_)
  rcases List.mem_append.1 hq with h | h
  · obtain ⟨j, hj, rfl⟩ := List.mem_iff_getElem.1 h
    exact ⟨(hg.ok.1 0 (Nat.zero_lt_succ _)).2 j hj, hg.sm.ts 0 (Nat.zero_lt_succ _) j hj⟩
  · obtain rfl := List.mem_singleton.1 h
    exact hp
theorem pair_less {B c : Nat} {w W W' : World} {t t' : List Pr} {ts : List (List Pr)} {vs : List Vl} {sp cl s s' sp' cl' : Sl} {ss ss' : List Sl} (d : DS B c w W ⟨t :: ts, vs⟩ sp cl (s :: ss)) (d' : DS B c w W' ⟨t' :: ts, vs⟩ sp' cl' (s' :: ss'))
    (h1 : s'.n = s.n + 1) (h2 : s.n < 200) : mE W' ⟨w.heap.size + 1, 0, none⟩ < mE W ⟨w.heap.size + 1, 0, none⟩ := by
  obtain ⟨_, g1, e1, q1, _, _⟩ := spine_addr d.va.own 0 (by simp)
  obtain ⟨_, g2, e2, q2, _, _⟩ := spine_addr d'.va.own 0 (by simp)
  have r1 := d.cells.1
  have r2 := d'.cells.1
  obtain ⟨a1, n1, k1⟩ := sp
  obtain ⟨a2, n2, k2⟩ := sp'
  dsimp only at e1 e2
  subst e1
  subst e2
  simp only [Sl.v, List.getElem_cons_zero] at r1 r2 q1 q2
  rw [mE_eq r1, mE_eq r2, mT_eq q1, mT_eq q2]
  omega
end Go.Proofs.Ytbdpfmkpjeleaaa
