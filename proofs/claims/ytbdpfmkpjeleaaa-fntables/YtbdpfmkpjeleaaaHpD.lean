/- A heap that is drawn: what holds of it, and of the variable that it grows in. -/
import Derived.Test.YtbdpfmkpjeleaaaSetY
import Derived.Test.YtbdpfmkpjeleaaaDrawV
namespace Go.Proofs.Ytbdpfmkpjeleaaa
open Go.RowKit

/-- No key stands twice, and the great ones tell their place. -/
def DKs (l : List Pr) : Prop := l.Pairwise (fun p q => p.key ≠ q.key) ∧ ∀ j (hj : j < l.length), l[j].key.n ≤ 6 ∨ l[j].key.n = 1000 + (j : Int)
theorem dks_nil : DKs [] := ⟨List.Pairwise.nil, fun _ hj => absurd hj (Nat.not_lt_zero _)⟩
theorem dks_low {l : List Pr} (h : l.Pairwise (fun p q => p.key ≠ q.key)) (hl : ∀ p ∈ l, p.key.n ≤ 6) : DKs l := ⟨h, fun _ hj => Or.inl (hl _ (List.getElem_mem hj))⟩
theorem dks_snoc {l : List Pr} {p : Pr} (h : DKs l) (hp : p.key.n = 1000 + (l.length : Int)) : DKs (l ++ [p]) := by
  refine ⟨List.pairwise_append.2 ⟨h.1, List.pairwise_singleton _ _, fun a ha b hb e => ?_⟩, fun j hj => ?_⟩
  · obtain rfl := List.mem_singleton.1 hb
    obtain ⟨j, hj, rfl⟩ := List.mem_iff_getElem.1 ha
    have := h.2 j hj
    rw [e] at this
    omega
  · by_cases hl : j < l.length
    · rw [List.getElem_append_left hl]; exact h.2 j hl
    · rw [List.length_append, List.length_singleton] at hj
      obtain rfl : j = l.length := by omega
      right
      simpa using hp
theorem beq_self (k : Vl) : k.beq k = true := by simp [Vl.beq]
theorem ne_of_beq {a k : Vl} (h : a.beq k = false) : a ≠ k := fun e => by rw [e, beq_self] at h; cases h
theorem eq_of_beq' {a k : Vl} (h : a.beq k = true) : a = k := by
  obtain ⟨kk, kn, ks⟩ := k
  rcases beq_cases a kk kn ks with ⟨_, h2⟩ | ⟨h2, _⟩
  · exact h2
  · rw [h2] at h; cases h
theorem withF_mem (k v : Vl) : ∀ (ps : List Pr) (put : Bool) (q : Pr), q ∈ withF k v put ps → (q ∈ ps ∧ q.key ≠ k) ∨ (put = false ∧ q = ⟨k, v⟩) := by
  intro ps
  induction ps with
  | nil =>
    intro put q hq
    cases put with
    | true => simp [withF] at hq
    | false => simp [withF] at hq; exact Or.inr ⟨rfl, hq⟩
  | cons p ps ih =>
    intro put q hq
    unfold withF at hq
    by_cases hb : p.key.beq k = true
    · rw [if_pos hb] at hq
      cases put with
      | true =>
        rcases ih true q (by simpa using hq) with h | h
        · exact Or.inl ⟨List.mem_cons_of_mem _ h.1, h.2⟩
        · cases h.1
      | false =>
        rcases List.mem_cons.1 (by simpa using hq) with h | h
        · exact Or.inr ⟨rfl, h⟩
        · rcases ih true q h with h | h
          · exact Or.inl ⟨List.mem_cons_of_mem _ h.1, h.2⟩
          · cases h.1
    · have hb' : p.key.beq k = false := by simpa using hb
      rw [if_neg hb] at hq
      rcases List.mem_cons.1 hq with h | h
      · subst h; exact Or.inl ⟨List.mem_cons_self, ne_of_beq hb'⟩
      · rcases ih put q h with h | h
        · exact Or.inl ⟨List.mem_cons_of_mem _ h.1, h.2⟩
        · exact Or.inr h
theorem withF_distinct (k v : Vl) : ∀ (ps : List Pr) (put : Bool), ps.Pairwise (fun p q => p.key ≠ q.key) → (withF k v put ps).Pairwise (fun p q => p.key ≠ q.key) := by
  intro ps
  induction ps with
  | nil => intro put _; cases put <;> simp [withF]
  | cons p ps ih =>
    intro put h
    rw [List.pairwise_cons] at h
    unfold withF
    by_cases hb : p.key.beq k = true
    · rw [if_pos hb]
      cases put with
      | true => simpa using ih true h.2
      | false =>
        show List.Pairwise _ (⟨k, v⟩ :: withF k v true ps)
        refine List.pairwise_cons.2 ⟨fun q hq e => ?_, ih true h.2⟩
        rcases withF_mem k v ps true q hq with h | h
        · exact h.2 e.symm
        · cases h.1
    · have hb' : p.key.beq k = false := by simpa using hb
      rw [if_neg hb]
      refine List.pairwise_cons.2 ⟨fun q hq e => ?_, ih put h.2⟩
      rcases withF_mem k v ps put q hq with h' | h'
      · exact h.1 q h'.1 e
      · rw [h'.2] at e; exact ne_of_beq hb' e
/-- A heap within bounds, of good values. -/
structure HGood (h : Hp) : Prop where
  ok : h.Ok
  sm : h.Sm
  t : ∀ i (hi : i < h.ts.length), h.ts[i].length ≤ 201
  d : ∀ i (hi : i < h.ts.length), DKs h.ts[i]
/-- A heap within bounds whose keys are small numbers. -/
structure HLow (h : Hp) : Prop where
  good : HGood h
  low : ∀ i (hi : i < h.ts.length), ∀ p ∈ h.ts[i], p.key.n ≤ 6
theorem vdraw_ok {k n : Int} {s : ByteArray} (h : VDraw k n s) : ValOk k n s := by
  have h0 := h.k0
  have h1 := h.k1
  have h2 := h.n0
  have h3 := h.n1
  have h4 := h.s1
  constructor <;> (first | omega | (unfold maxLen; omega) | (simp [IntKind.inRange]; omega))

theorem table_ok' {h : Hp} (hk : h.Ok) : h.table.Ok := by
  refine ⟨fun i hi => ?_, hk.2⟩
  unfold Hp.table at hi ⊢
  by_cases hf : 500 ≤ h.ts.length
  · simp only [if_pos hf] at hi ⊢; exact hk.1 i hi
  · simp only [if_neg hf] at hi ⊢
    by_cases hl : i < h.ts.length
    · simp only [List.getElem_append_left hl]; exact hk.1 i hl
    · rw [List.length_append, List.length_singleton] at hi
      obtain rfl : i = h.ts.length := by omega
      have e : (h.ts ++ [[]])[h.ts.length]'(by simp) = ([] : List Pr) := by simp
      simp only [e]
      exact ⟨by simp [maxLen], fun j hj => absurd hj (by simp)⟩
theorem good_wt {h : Hp} (hg : HGood h) : h.wt ≤ 202 * h.ts.length + h.vs.length := by
  have : ∀ ts : List (List Pr), (∀ t ∈ ts, t.length ≤ 201) → wtT ts ≤ 202 * ts.length := by
    intro ts
    induction ts with
    | nil => intro _; simp [wtT]
    | cons t ts ih =>
      intro hl
      have h1 := hl t (by simp)
      have h2 := ih (fun t ht => hl t (by simp [ht]))
      unfold wtT at h2 ⊢
      simp only [List.map_cons, List.sum_cons, List.length_cons]
      omega
  have h1 := this h.ts (fun t ht => by obtain ⟨i, hi, rfl⟩ := List.mem_iff_getElem.1 ht; exact hg.t i hi)
  unfold Hp.wt
  omega
theorem good_table {h : Hp} (hg : HGood h) : HGood h.table := by
  refine ⟨table_ok' hg.ok, ⟨fun q hq m hm => ?_, hg.sm.vs⟩, fun i hi => ?_, fun i hi => ?_⟩
  · unfold Hp.table at hq hm ⊢
    by_cases hf : 500 ≤ h.ts.length
    · simp only [if_pos hf] at hq hm ⊢; exact hg.sm.ts q hq m hm
    · simp only [if_neg hf] at hq hm ⊢
      by_cases hl : q < h.ts.length
      · simp only [List.getElem_append_left hl] at hm ⊢; exact hg.sm.ts q hl m hm
      · rw [List.length_append, List.length_singleton] at hq
        obtain rfl : q = h.ts.length := by omega
        simp at hm
  · unfold Hp.table at hi ⊢
    by_cases hf : 500 ≤ h.ts.length
    · simp only [if_pos hf] at hi ⊢; exact hg.t i hi
    · simp only [if_neg hf] at hi ⊢
      by_cases hl : i < h.ts.length
      · simp only [List.getElem_append_left hl]; exact hg.t i hl
      · rw [List.length_append, List.length_singleton] at hi
        obtain rfl : i = h.ts.length := by omega
        simp
  · unfold Hp.table at hi ⊢
    by_cases hf : 500 ≤ h.ts.length
    · simp only [if_pos hf] at hi ⊢; exact hg.d i hi
    · simp only [if_neg hf] at hi ⊢
      by_cases hl : i < h.ts.length
      · simp only [List.getElem_append_left hl]; exact hg.d i hl
      · rw [List.length_append, List.length_singleton] at hi
        obtain rfl : i = h.ts.length := by omega
        have e : (h.ts ++ [[]])[h.ts.length]'(by simp) = ([] : List Pr) := by simp
        simp only [e]
        exact dks_nil
theorem low_table {h : Hp} (hg : HLow h) : HLow h.table := by
  refine ⟨good_table hg.good, fun i hi => ?_⟩
  unfold Hp.table at hi ⊢
  by_cases hf : 500 ≤ h.ts.length
  · simp only [if_pos hf] at hi ⊢; exact hg.low i hi
  · simp only [if_neg hf] at hi ⊢
    by_cases hl : i < h.ts.length
    · simp only [List.getElem_append_left hl]; exact hg.low i hl
    · rw [List.length_append, List.length_singleton] at hi
      obtain rfl : i = h.ts.length := by omega
      have e : (h.ts ++ [[]])[h.ts.length]'(by simp) = ([] : List Pr) := by simp
      simp only [e]
      exact fun p hp => absurd hp (List.not_mem_nil)
theorem good_cell {h : Hp} {v : Vl} (hg : HGood h) (hv : v.Ok) (hs : v.Sm) : HGood (h.cell v) := by
  refine ⟨cell_ok hg.ok hv, ⟨hg.sm.ts, fun i hi => ?_⟩, hg.t, hg.d⟩
  unfold Hp.cell at hi ⊢
  by_cases hf : 3000 ≤ h.vs.length
  · simp only [if_pos hf] at hi ⊢; exact hg.sm.vs i hi
  · simp only [if_neg hf] at hi ⊢
    by_cases hl : i < h.vs.length
    · rw [List.getElem_append_left hl]; exact hg.sm.vs i hl
    · rw [List.getElem_append_right (by omega)]; simpa using hs
theorem low_cell {h : Hp} {v : Vl} (hg : HLow h) (hv : v.Ok) (hs : v.Sm) : HLow (h.cell v) := ⟨good_cell hg.good hv hs, hg.low⟩
theorem good_put {h : Hp} {i : Nat} {l : List Pr} (hg : HGood h) (hl : l.length ≤ 201) (hd : DKs l) (hq : ∀ p ∈ l, p.Ok ∧ p.Sm) : HGood ⟨h.ts.set i l, h.vs⟩ := by
  refine ⟨⟨fun q hq' => ?_, hg.ok.2⟩, ⟨fun q hq' m hm => ?_, hg.sm.vs⟩, fun q hq' => ?_, fun q hq' => ?_⟩
  · simp only [List.length_set] at hq'
    by_cases e : i = q
    · subst e
      simp only [List.getElem_set_self]
      exact ⟨by unfold maxLen; omega, fun j hj => (hq _ (List.getElem_mem hj)).1⟩
    · simp only [List.getElem_set_ne e]
      exact hg.ok.1 q hq'
  · simp only [List.length_set] at hq'
    by_cases e : i = q
    · subst e
      simp only [List.getElem_set_self] at hm ⊢
      exact (hq _ (List.getElem_mem hm)).2
    · simp only [List.getElem_set_ne e] at hm ⊢
      exact hg.sm.ts q hq' m hm
  · simp only [List.length_set] at hq'
    by_cases e : i = q
    · subst e
      simp only [List.getElem_set_self]
      exact hl
    · simp only [List.getElem_set_ne e]
      exact hg.t q hq'
  · simp only [List.length_set] at hq'
    by_cases e : i = q
    · subst e
      simp only [List.getElem_set_self]
      exact hd
    · simp only [List.getElem_set_ne e]
      exact hg.d q hq'
theorem low_setAt {h : Hp} {tk tn : Int} {k v : Vl} (hg : HLow h) (hk : k.Ok ∧ k.Sm) (hv : v.Ok ∧ v.Sm) (hn : k.n ≤ 6) : HLow (h.setAt tk tn k v) := by
  unfold Hp.setAt
  by_cases hy : setOk h tk tn k v = true
  · rw [if_pos hy]
    simp only [setOk, Bool.and_eq_true, decide_eq_true_eq] at hy
    have hrow : ∀ p ∈ h.ts[tn.toNat]?.getD [], (p.Ok ∧ p.Sm) ∧ p.key.n ≤ 6 := fun p hp => by
      cases hx : h.ts[tn.toNat]? with
      | none => rw [hx] at hp; simp at hp
      | some t =>
        rw [hx] at hp
        obtain ⟨hlt, rfl⟩ := List.getElem?_eq_some_iff.1 hx
        have hp' : p ∈ h.ts[tn.toNat] := by simpa using hp
        obtain ⟨j, hj, e⟩ := List.mem_iff_getElem.1 hp'
        refine ⟨?_, hg.low _ hlt p hp'⟩
        rw [← e]
        exact ⟨(hg.good.ok.1 _ hlt).2 j hj, hg.good.sm.ts _ hlt j hj⟩
    have hpw : (h.ts[tn.toNat]?.getD []).Pairwise (fun p q => p.key ≠ q.key) := by
      cases hx : h.ts[tn.toNat]? with
      | none => exact List.Pairwise.nil
      | some t =>
        obtain ⟨hlt, rfl⟩ := List.getElem?_eq_some_iff.1 hx
        exact (hg.good.d _ hlt).1
    have hall := withF_all (Q := fun p => (p.Ok ∧ p.Sm) ∧ p.key.n ≤ 6) k v ⟨⟨⟨hk.1, hv.1⟩, ⟨hk.2, hv.2⟩⟩, hn⟩ (h.ts[tn.toNat]?.getD []) (decide (v.k = 0)) hrow
    refine ⟨good_put hg.good (by omega) (dks_low (withF_distinct _ _ _ _ hpw) fun p hp => (hall p hp).2) fun p hp => (hall p hp).1, fun q hq' => ?_⟩
    simp only [List.length_set] at hq'
    by_cases e : tn.toNat = q
    · subst e
      simp only [List.getElem_set_self]
      exact fun p hp => (hall p hp).2
    · simp only [List.getElem_set_ne e]
      exact hg.low q hq'
  · rw [if_neg hy]; exact hg
theorem setAt_len (h : Hp) (tk tn : Int) (k v : Vl) : (h.setAt tk tn k v).ts.length = h.ts.length ∧ (h.setAt tk tn k v).vs.length = h.vs.length := by
  unfold Hp.setAt
  split
  · simp
  · exact ⟨rfl, rfl⟩
theorem table_lens (h : Hp) : h.ts.length ≤ h.table.ts.length ∧ h.table.ts.length ≤ h.ts.length + 1 ∧ h.table.vs.length = h.vs.length := by
  unfold Hp.table
  by_cases hf : 500 ≤ h.ts.length
  · simp only [if_pos hf]; exact ⟨Nat.le_refl _, by omega, trivial⟩
  · simp only [if_neg hf, List.length_append, List.length_singleton]; exact ⟨by omega, Nat.le_refl _, trivial⟩
theorem cell_lens (h : Hp) (v : Vl) : (h.cell v).ts.length = h.ts.length ∧ (h.cell v).vs.length ≤ h.vs.length + 1 := by
  unfold Hp.cell
  by_cases hf : 3000 ≤ h.vs.length
  · simp only [if_pos hf]; exact ⟨trivial, by omega⟩
  · simp only [if_neg hf, List.length_append, List.length_singleton]; exact ⟨trivial, Nat.le_refl _⟩

/-- The variable of a heap that is being drawn, at the block behind w's, and the answer's. -/
structure DS (B c : Nat) (w W : World) (h : Hp) (sp cl : Sl) (ss : List Sl) : Prop where
  dr : Drawn B c w W
  va : VarH W w.heap.size (w.heap.size + 1) sp cl ss h.xss (flatV h.vs)
  rv : W.heap[w.heap.size]? = some (.cells #[.slice none 0 0, .slice none 0 0] 30 (0, 0))
  n1 : sp.n = h.ts.length
  n2 : cl.n = h.vs.length
theorem DS.lt {B c : Nat} {w W : World} {h : Hp} {sp cl : Sl} {ss : List Sl} (d : DS B c w W h sp cl ss) : w.heap.size + 1 < W.heap.size := d.va.lt
theorem own_drawn {W W' : World} {L c : Nat} {sp cl : Sl} {ss : List Sl} {xss : List (List Value)} {ys : List Value} (h : HOwn W L sp cl ss xss ys) (hg : W.grownBy W' (some c)) (hc : c < L) : HOwn W' L sp cl ss xss ys :=
  ⟨own_keep h.spine fun g _ hg' _ => hg.block g (h.spine.lt g hg').2 (by have := (h.spine.lt g hg').1; simp; omega), (h.tabs.keep fun b hb _ ⟨_, hx⟩ => hg.block b (Array.getElem?_eq_some_iff.1 hx).1 (by simp; omega)).wide (Nat.le_refl _) hg.size, own_keep h.cells fun g _ hg' _ => hg.block g (h.cells.lt g hg').2 (by have := (h.cells.lt g hg').1; simp; omega)⟩
theorem DS.drawn {B c : Nat} {w W W' : World} {h : Hp} {sp cl : Sl} {ss : List Sl} (d : DS B c w W h sp cl ss) (hd : Drawn B c W W') (hc : c < w.heap.size) : DS B c w W' h sp cl ss :=
  ⟨d.dr.trans hd, ⟨(hd.by'.block _ d.lt (by simp; omega)).trans d.va.var, own_drawn d.va.own hd.by' hc⟩, (hd.by'.block _ (by have := d.lt; omega) (by simp; omega)).trans d.rv, d.n1, d.n2⟩
theorem DS.later {B c : Nat} {w W W' : World} {h : Hp} {sp cl : Sl} {ss : List Sl} (d : DS B c w W h sp cl ss) (hb : Below W.heap.size W W') : DS B c w W' h sp cl ss :=
  ⟨d.dr.later hb, d.va.below hb, (hb.block _ (by have := d.lt; omega)).trans d.rv, d.n1, d.n2⟩
theorem DS.put {B c BB : Nat} {w W : World} {h h' : Hp} {sp cl sp' cl' : Sl} {ss ss' : List Sl} (d : DS B c w W h sp cl ss) (ho : OwnH W BB h' sp' cl' ss') (hBB : w.heap.size + 1 < BB) (hc : c < w.heap.size) : DS B c w ((W.setCell ⟨w.heap.size + 1, 0, none⟩ sp'.v).setCell ⟨w.heap.size + 1, 1, none⟩ cl'.v) h' sp' cl' ss' := by
  have far : ∀ b, b ≠ w.heap.size + 1 → ((W.setCell ⟨w.heap.size + 1, 0, none⟩ sp'.v).setCell ⟨w.heap.size + 1, 1, none⟩ cl'.v).heap[b]? = W.heap[b]? := fun b hb => by
    rw [heap_setCell_other _ _ _ _ (by show b ≠ w.heap.size + 1; exact hb), heap_setCell_other _ _ _ _ (by show b ≠ w.heap.size + 1; exact hb)]
  refine ⟨(d.dr.put hc (by omega)).put hc (by omega), ⟨?_, ?_⟩, (far _ (by omega)).trans d.rv, ho.1, ho.2.1⟩
  · have := heap_setCell_same _ (w.heap.size + 1) 1 _ _ cl'.v (heap_setCell_same _ (w.heap.size + 1) 0 _ _ sp'.v d.va.var)
    simpa using this
  · exact (ho.2.2.under (fun b hb => far b (by omega)) (by simp)).base (by omega)
theorem DS.cells {B c : Nat} {w W : World} {h : Hp} {sp cl : Sl} {ss : List Sl} (d : DS B c w W h sp cl ss) : W.cell? ⟨w.heap.size + 1, 0, none⟩ = some sp.v ∧ W.cell? ⟨w.heap.size + 1, 1, none⟩ = some cl.v ∧ W.frozen? ⟨w.heap.size + 1, 0, none⟩ = false ∧ W.frozen? ⟨w.heap.size + 1, 1, none⟩ = false :=
  ⟨cell_of_row _ _ 0 _ _ _ d.va.var, cell_of_row _ _ 1 _ _ _ d.va.var, frozen_of_row _ _ 0 _ _ d.va.var, frozen_of_row _ _ 1 _ _ d.va.var⟩
theorem DS.tv {B c : Nat} {w W : World} {h : Hp} {sp cl : Sl} {ss : List Sl} (d : DS B c w W h sp cl ss) (hg : HGood h) (h1 : h.ts.length ≤ 600) (h2 : h.vs.length ≤ 4000) : TAt W w.heap.size W.heap.size h.ts sp.a ∧ VAt W w.heap.size W.heap.size h.vs cl.a := by
  obtain ⟨a, ca, b, cb, e, _, _, hT, hV⟩ := hat_of_lay d.va.own.lay hg.ok (by unfold maxLen; omega) (by unfold maxLen; omega)
  simp only [Sl.v, List.cons.injEq, Value.slice.injEq, and_true] at e
  obtain ⟨⟨e1, _⟩, ⟨e2, _⟩⟩ := e
  rw [e1, e2]
  exact ⟨hT, hV⟩
end Go.Proofs.Ytbdpfmkpjeleaaa
