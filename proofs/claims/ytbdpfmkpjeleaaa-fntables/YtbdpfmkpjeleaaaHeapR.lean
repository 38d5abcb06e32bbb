/- Rows of a heap of one's own: where they lie, what they hold; append onto a row of one's own, whatever is appended. -/
import Derived.Test.YtbdpfmkpjeleaaaHeapE
import Derived.Deep.AppendLies
namespace Go.Proofs.Ytbdpfmkpjeleaaa
open Go.RowKit

structure Sl where
  a : Option Addr
  n : Nat
  c : Nat
def Sl.v (s : Sl) : Value := .slice s.a s.n s.c

/-- xs lie in a row of one's own, k cells an element, in a block from lo on, below hi. -/
def Row (w : World) (lo hi : Nat) (T : TypeId) (k : Nat) (s : Sl) (xs : List Value) : Prop :=
  xs.length = k * s.n ∧ ((s.a = none ∧ s.n = 0 ∧ s.c = 0) ∨ ∃ g cs, s.a = some ⟨g, 0, none⟩ ∧ lo ≤ g ∧ g < hi ∧ w.heap[g]? = some (.cells cs T (0, 0)) ∧ s.n ≤ s.c ∧ s.c ≤ maxLen ∧ cs.size = s.c * k ∧ ∀ m, m < xs.length → cs[m]? = xs[m]?)
theorem Row.keep {w w' : World} {lo hi : Nat} {T : TypeId} {k : Nat} {s : Sl} {xs : List Value} (h : Row w lo hi T k s xs)
    (hk : ∀ b, lo ≤ b → b < hi → (∃ cs, w.heap[b]? = some (.cells cs T (0, 0))) → w'.heap[b]? = w.heap[b]?) : Row w' lo hi T k s xs := by
  obtain ⟨h1, h2⟩ := h
  refine ⟨h1, h2.imp_right ?_⟩
  rintro ⟨g, cs, e, hl, hh, hg, r⟩
  exact ⟨g, cs, e, hl, hh, (hk g hl hh ⟨cs, hg⟩).trans hg, r⟩
theorem Row.wide {w : World} {lo hi lo' hi' : Nat} {T : TypeId} {k : Nat} {s : Sl} {xs : List Value} (h : Row w lo hi T k s xs) (hl : lo' ≤ lo) (hh : hi ≤ hi') : Row w lo' hi' T k s xs := by
  obtain ⟨h1, h2⟩ := h
  refine ⟨h1, h2.imp_right ?_⟩
  rintro ⟨g, cs, e, hl', hh', r⟩
  exact ⟨g, cs, e, by omega, by omega, r⟩
theorem Row.below {w w' : World} {lo hi : Nat} {T : TypeId} {k : Nat} {s : Sl} {xs : List Value} (h : Row w lo hi T k s xs) (hb : Below w.heap.size w w') : Row w' lo hi T k s xs :=
  h.keep fun b _ _ ⟨_, hg⟩ => hb.block b (Array.getElem?_eq_some_iff.1 hg).1
theorem Row.cell {w : World} {lo hi : Nat} {T : TypeId} {k : Nat} {s : Sl} {xs : List Value} (h : Row w lo hi T k s xs) (m : Nat) (hm : m < xs.length) :
    ∃ g, s.a = some ⟨g, 0, none⟩ ∧ lo ≤ g ∧ g < hi ∧ g < w.heap.size ∧ w.cell? ⟨g, m, none⟩ = xs[m]? := by
  obtain ⟨h1, ⟨_, h2, _⟩ | ⟨g, cs, e, hl, hh, hg, _, _, hs, hc⟩⟩ := h
  · rw [h2] at h1; omega
  · exact ⟨g, e, hl, hh, (Array.getElem?_eq_some_iff.1 hg).1, by rw [cell_of_row _ _ _ _ _ _ hg]; exact hc m hm⟩

/-- Of what one owns, and back. -/
theorem row_of_own {w : World} {B : Nat} {T : TypeId} {k : Nat} {s : Sl} {xs : List Value} (h : w.ownsRow B T k s.v s.n xs) : Row w B w.heap.size T k s xs := by
  obtain ⟨h1, h2⟩ := h
  refine ⟨by rw [h1, Nat.mul_comm], ?_⟩
  rcases h2 with ⟨e, h0⟩ | ⟨g, cap, cur, e, hB, hg, hc, hm, hs, ht⟩
  · simp only [Sl.v, Value.slice.injEq] at e
    exact .inl ⟨e.1, h0, e.2.2⟩
  · right
    simp only [Sl.v, Value.slice.injEq] at e
    obtain ⟨e1, _, e3⟩ := e
    refine ⟨g, cur, e1, hB, (Array.getElem?_eq_some_iff.1 hg).1, hg, by omega, by omega, by rw [e3]; exact hs, fun m hm => ?_⟩
    rw [← ht, List.getElem?_take, if_pos (by omega), Array.getElem?_toList]
theorem own_of_row {w : World} {lo hi : Nat} {T : TypeId} {k : Nat} {s : Sl} {xs : List Value} (h : Row w lo hi T k s xs) : w.ownsRow lo T k s.v s.n xs := by
  obtain ⟨h1, ⟨e1, e2, e3⟩ | ⟨g, cs, e, hl, hh, hg, hn, hm, hs, hc⟩⟩ := h
  · exact ⟨by rw [h1, Nat.mul_comm], .inl ⟨by unfold Sl.v; rw [e1, e2, e3], e2⟩⟩
  · refine ⟨by rw [h1, Nat.mul_comm], .inr ⟨g, s.c, cs, by unfold Sl.v; rw [e], hl, hg, hn, hm, hs, ?_⟩⟩
    have hle : s.n * k ≤ cs.size := by rw [hs]; exact Nat.mul_le_mul_right k hn
    have hx : xs.length = s.n * k := by rw [h1, Nat.mul_comm]
    refine List.ext_getElem? fun m => ?_
    rw [List.getElem?_take]
    by_cases hm : m < s.n * k
    · rw [if_pos hm, Array.getElem?_toList]; exact hc m (by omega)
    · rw [if_neg hm, List.getElem?_eq_none (by omega)]
theorem own_sl {w : World} {B : Nat} {T : TypeId} {k : Nat} {v : Value} {n : Nat} {xs : List Value} (h : w.ownsRow B T k v n xs) : ∃ a c, v = .slice a n c := by
  rcases h.2 with ⟨rfl, h0⟩ | ⟨g, cap, cur, e, _⟩
  · exact ⟨none, 0, by rw [h0]⟩
  · exact ⟨_, _, e⟩
theorem own_keep {w w' : World} {B : Nat} {T : TypeId} {k : Nat} {v : Value} {n : Nat} {xs : List Value} (h : w.ownsRow B T k v n xs) (hk : ∀ g cs, v.ownBlock = some g → w.heap[g]? = some (.cells cs T (0, 0)) → w'.heap[g]? = w.heap[g]?) : w'.ownsRow B T k v n xs := by
  obtain ⟨h1, h2⟩ := h
  refine ⟨h1, h2.imp_right ?_⟩
  rintro ⟨g, cap, cur, e, hB, hg, hr⟩
  exact ⟨g, cap, cur, e, hB, (hk g cur (by rw [e]; rfl) hg).trans hg, hr⟩
theorem own_below {w w' : World} {B : Nat} {T : TypeId} {k : Nat} {v : Value} {n : Nat} {xs : List Value} (h : w.ownsRow B T k v n xs) (hb : Below w.heap.size w w') : w'.ownsRow B T k v n xs :=
  own_keep h fun g _ _ hg => hb.block g (Array.getElem?_eq_some_iff.1 hg).1

/- Lists of equal parts. -/
theorem flat_get {α : Type} (f : α → List Value) (k : Nat) (hf : ∀ x, (f x).length = k) (l : List α) : ∀ (i : Nat) (h : i < l.length) (j : Nat), j < k → (l.flatMap f)[k * i + j]? = (f l[i])[j]? := by
  induction l with
  | nil => intro i h; simp at h
  | cons x l ih =>
    intro i h j hj
    rw [List.flatMap_cons]
    cases i with
    | zero => rw [List.getElem?_append_left (by rw [hf]; omega)]; simp
    | succ i =>
      have e : k * (i + 1) + j = k + (k * i + j) := by rw [Nat.mul_succ]; omega
      rw [List.getElem?_append_right (by rw [hf, e]; omega), hf, e, Nat.add_sub_cancel_left]
      exact ih i (by simpa using h) j hj
theorem flat_len {α : Type} (f : α → List Value) (k : Nat) (hf : ∀ x, (f x).length = k) (l : List α) : (l.flatMap f).length = k * l.length := by
  induction l with
  | nil => simp
  | cons x l ih => rw [List.flatMap_cons, List.length_append, hf, ih, List.length_cons, Nat.mul_succ]; omega
def flatV (vs : List Vl) : List Value := vs.flatMap Vl.cs
def flatP (ps : List Pr) : List Value := ps.flatMap Pr.cs
theorem flatV_len (vs : List Vl) : (flatV vs).length = 3 * vs.length := flat_len _ 3 (fun _ => rfl) vs
theorem flatP_len (ps : List Pr) : (flatP ps).length = 6 * ps.length := flat_len _ 6 (fun _ => rfl) ps
theorem flatV_get (vs : List Vl) (i : Nat) (h : i < vs.length) (j : Nat) (hj : j < 3) : (flatV vs)[3 * i + j]? = vs[i].cs[j]? := flat_get _ 3 (fun _ => rfl) vs i h j hj
theorem flatP_get (ps : List Pr) (i : Nat) (h : i < ps.length) (j : Nat) (hj : j < 6) : (flatP ps)[6 * i + j]? = ps[i].cs[j]? := flat_get _ 6 (fun _ => rfl) ps i h j hj
theorem flatV_snoc (vs : List Vl) (v : Vl) : flatV (vs ++ [v]) = flatV vs ++ v.cs := by simp [flatV]
theorem flatP_snoc (ps : List Pr) (p : Pr) : flatP (ps ++ [p]) = flatP ps ++ p.cs := by simp [flatP]

theorem vat_of_row {w : World} {lo hi : Nat} {T : TypeId} {s : Sl} {vs : List Vl} (h : Row w lo hi T 3 s (flatV vs)) (hok : ∀ i (h : i < vs.length), vs[i].Ok) : VAt w lo hi vs s.a := by
  intro i hi
  refine ⟨hok i hi, ?_⟩
  obtain ⟨g, e, hl, hh, _, _⟩ := h.cell (3 * i) (by rw [flatV_len]; omega)
  refine ⟨g, 0, e, hl, hh, fun j hj => ?_⟩
  obtain ⟨g', e', _, _, _, hc⟩ := h.cell (3 * i + j) (by rw [flatV_len]; omega)
  rw [e] at e'
  obtain rfl : g = g' := by simpa using e'
  rw [Nat.zero_add, hc, flatV_get vs i hi j hj]
theorem pat_of_row {w : World} {lo hi : Nat} {T : TypeId} {s : Sl} {vs : List Pr} (h : Row w lo hi T 6 s (flatP vs)) (hok : ∀ i (h : i < vs.length), vs[i].Ok) : PAt w lo hi vs s.a := by
  intro i hi
  refine ⟨hok i hi, ?_⟩
  obtain ⟨g, e, hl, hh, _, _⟩ := h.cell (6 * i) (by rw [flatP_len]; omega)
  refine ⟨g, 0, e, hl, hh, fun j hj => ?_⟩
  obtain ⟨g', e', _, _, _, hc⟩ := h.cell (6 * i + j) (by rw [flatP_len]; omega)
  rw [e] at e'
  obtain rfl : g = g' := by simpa using e'
  rw [Nat.zero_add, hc, flatP_get vs i hi j hj]

/-- Tables in a row of their own each, no two in one block. -/
def Tabs (w : World) (lo hi : Nat) (ss : List Sl) (xss : List (List Value)) : Prop :=
  ss.length = xss.length ∧ ∃ L U : Nat → Nat, (∀ i, i < ss.length → lo ≤ L i ∧ U i ≤ hi) ∧ (∀ i j, i < ss.length → j < ss.length → i ≠ j → U i ≤ L j ∨ U j ≤ L i) ∧ ∀ i (h : i < ss.length) (h' : i < xss.length), Row w (L i) (U i) 61 6 ss[i] xss[i]
theorem Tabs.nil (w : World) {lo hi : Nat} (_ : lo ≤ hi) : Tabs w lo hi [] [] :=
  ⟨rfl, fun _ => lo, fun _ => lo, fun _ hi => absurd hi (Nat.not_lt_zero _), fun _ _ hi => absurd hi (Nat.not_lt_zero _), fun _ hi => absurd hi (Nat.not_lt_zero _)⟩
theorem Tabs.keep {w w' : World} {lo hi : Nat} {ss : List Sl} {xss : List (List Value)} (h : Tabs w lo hi ss xss)
    (hk : ∀ b, lo ≤ b → b < hi → (∃ cs, w.heap[b]? = some (.cells cs 61 (0, 0))) → w'.heap[b]? = w.heap[b]?) : Tabs w' lo hi ss xss := by
  obtain ⟨h0, L, U, h1, h2, h4⟩ := h
  exact ⟨h0, L, U, h1, h2, fun i hi hi' => (h4 i hi hi').keep fun b hb hb' => hk b (by have := h1 i hi; omega) (by have := h1 i hi; omega)⟩
theorem Tabs.below {w w' : World} {lo hi : Nat} {ss : List Sl} {xss : List (List Value)} (h : Tabs w lo hi ss xss) (hb : Below w.heap.size w w') : Tabs w' lo hi ss xss :=
  h.keep fun b _ _ ⟨_, hg⟩ => hb.block b (Array.getElem?_eq_some_iff.1 hg).1
theorem Tabs.wide {w : World} {lo hi lo' hi' : Nat} {ss : List Sl} {xss : List (List Value)} (h : Tabs w lo hi ss xss) (hl : lo' ≤ lo) (hh : hi ≤ hi') : Tabs w lo' hi' ss xss := by
  obtain ⟨h0, L, U, h1, h2, h4⟩ := h
  exact ⟨h0, L, U, fun i hi => by have := h1 i hi; omega, h2, h4⟩
theorem Tabs.snoc {w : World} {lo hi m : Nat} {ss : List Sl} {xss : List (List Value)} {s : Sl} {xs : List Value} (h : Tabs w lo m ss xss) (hs : Row w m hi 61 6 s xs) (hm : m ≤ hi) (hlm : lo ≤ m) : Tabs w lo hi (ss ++ [s]) (xss ++ [xs]) := by
  obtain ⟨h0, L, U, h1, h2, h4⟩ := h
  refine ⟨by simp [h0], fun i => if i < ss.length then L i else m, fun i => if i < ss.length then U i else hi, fun i hi => ?_, fun i j hi hj hne => ?_, fun i hi1 hi2 => ?_⟩
  · dsimp only
    by_cases c : i < ss.length
    · rw [if_pos c, if_pos c]; have := h1 i c; omega
    · rw [if_neg c, if_neg c]; omega
  · dsimp only
    rw [List.length_append, List.length_singleton] at hi hj
    by_cases c : i < ss.length
    · by_cases c' : j < ss.length
      · rw [if_pos c, if_pos c', if_pos c', if_pos c]; exact h2 i j c c' hne
      · rw [if_pos c, if_neg c', if_neg c', if_pos c]; have := h1 i c; omega
    · by_cases c' : j < ss.length
      · rw [if_neg c, if_pos c', if_pos c', if_neg c]; have := h1 j c'; omega
      · omega
  · dsimp only
    have hi1' := hi1
    rw [List.length_append, List.length_singleton] at hi1
    by_cases c : i < ss.length
    · rw [if_pos c, if_pos c, List.getElem_append_left c, List.getElem_append_left (by omega)]
      exact h4 i c (by omega)
    · obtain rfl : i = ss.length := by omega
      rw [if_neg c, if_neg c]
      have e1 : (ss ++ [s])[ss.length]'hi1' = s := by simp
      have e2 : (xss ++ [xs])[ss.length]'hi2 = xs := by simp only [h0, List.getElem_append_right (Nat.le_refl xss.length), Nat.sub_self, List.getElem_singleton]
      rw [e1, e2]
      exact hs
/-- Another row in the place of one. -/
theorem Tabs.set {w : World} {lo hi m : Nat} {ss : List Sl} {xss : List (List Value)} {s : Sl} {xs : List Value} (h : Tabs w lo m ss xss) (hs : Row w m hi 61 6 s xs) (hm : m ≤ hi) (hlm : lo ≤ m) (k : Nat) : Tabs w lo hi (ss.set k s) (xss.set k xs) := by
  obtain ⟨h0, L, U, h1, h2, h4⟩ := h
  refine ⟨by simp [h0], fun i => if i = k then m else L i, fun i => if i = k then hi else U i, fun i hi => ?_, fun i j hi hj hne => ?_, fun i hi1 hi2 => ?_⟩
  · rw [List.length_set] at hi
    have := h1 i hi
    dsimp only
    split <;> omega
  · rw [List.length_set] at hi hj
    have a1 := h1 i hi
    have a2 := h1 j hj
    have a3 := h2 i j hi hj hne
    dsimp only
    split <;> split <;> omega
  · rw [List.length_set] at hi1 hi2
    dsimp only
    by_cases c : i = k
    · subst c
      rw [if_pos rfl, if_pos rfl, List.getElem_set_self, List.getElem_set_self]
      exact hs
    · rw [if_neg c, if_neg c, List.getElem_set_ne (Ne.symm c), List.getElem_set_ne (Ne.symm c)]
      exact h4 i hi1 hi2
theorem Tabs.get {w : World} {lo hi : Nat} {ss : List Sl} {xss : List (List Value)} (h : Tabs w lo hi ss xss) (i : Nat) (hi1 : i < ss.length) (hi2 : i < xss.length) : Row w lo hi 61 6 ss[i] xss[i] := by
  obtain ⟨h0, L, U, h1, h2, h4⟩ := h
  have := h1 i hi1
  exact (h4 i hi1 hi2).wide this.1 this.2

/-- A heap of one's own: the tables' row, the tables, the cells. -/
structure HLay (w : World) (lo hi : Nat) (sp cl : Sl) (ss : List Sl) (xss : List (List Value)) (ys : List Value) : Prop where
  spine : Row w lo hi 59 1 sp (ss.map Sl.v)
  tabs : Tabs w lo hi ss xss
  cells : Row w lo hi 32 3 cl ys
def lens (ss : List Sl) (h : Hp) : Prop := ∀ i (h1 : i < ss.length) (h2 : i < h.ts.length), ss[i].n = h.ts[i].length
theorem HLay.len {w : World} {lo hi : Nat} {sp cl : Sl} {ss : List Sl} {xss : List (List Value)} {ys : List Value} (h : HLay w lo hi sp cl ss xss ys) : sp.n = ss.length := by
  have := h.spine.1; rw [List.length_map] at this; omega
theorem HLay.below {w w' : World} {lo hi : Nat} {sp cl : Sl} {ss : List Sl} {xss : List (List Value)} {ys : List Value} (h : HLay w lo hi sp cl ss xss ys) (hb : Below w.heap.size w w') : HLay w' lo hi sp cl ss xss ys :=
  ⟨h.spine.below hb, h.tabs.below hb, h.cells.below hb⟩
theorem HLay.wide {w : World} {lo hi lo' hi' : Nat} {sp cl : Sl} {ss : List Sl} {xss : List (List Value)} {ys : List Value} (h : HLay w lo hi sp cl ss xss ys) (hl : lo' ≤ lo) (hh : hi ≤ hi') : HLay w lo' hi' sp cl ss xss ys :=
  ⟨h.spine.wide hl hh, h.tabs.wide hl hh, h.cells.wide hl hh⟩
theorem HLay.keep {w w' : World} {lo hi : Nat} {sp cl : Sl} {ss : List Sl} {xss : List (List Value)} {ys : List Value} (h : HLay w lo hi sp cl ss xss ys) (hk : ∀ b, lo ≤ b → b < hi → b < w.heap.size → w'.heap[b]? = w.heap[b]?) : HLay w' lo hi sp cl ss xss ys :=
  ⟨h.spine.keep fun b h1 h2 ⟨_, hg⟩ => hk b h1 h2 (Array.getElem?_eq_some_iff.1 hg).1, h.tabs.keep fun b h1 h2 ⟨_, hg⟩ => hk b h1 h2 (Array.getElem?_eq_some_iff.1 hg).1, h.cells.keep fun b h1 h2 ⟨_, hg⟩ => hk b h1 h2 (Array.getElem?_eq_some_iff.1 hg).1⟩

def Hp.Ok (h : Hp) : Prop := (∀ i (hi : i < h.ts.length), h.ts[i].length ≤ maxLen ∧ ∀ j (hj : j < h.ts[i].length), h.ts[i][j].Ok) ∧ ∀ i (hi : i < h.vs.length), h.vs[i].Ok
def Hp.xss (h : Hp) : List (List Value) := h.ts.map flatP
theorem hat_of_lay {w : World} {lo hi : Nat} {sp cl : Sl} {ss : List Sl} {h : Hp} (hL : HLay w lo hi sp cl ss h.xss (flatV h.vs)) (hok : h.Ok) (h1 : h.ts.length ≤ maxLen) (h2 : h.vs.length ≤ maxLen) : HAt w lo hi h [sp.v, cl.v] := by
  have hn := hL.len
  have hl : ss.length = h.ts.length := by have := hL.tabs.1; rw [Hp.xss, List.length_map] at this; exact this
  have hc : cl.n = h.vs.length := by have := hL.cells.1; rw [flatV_len] at this; omega
  refine ⟨sp.a, sp.c, cl.a, cl.c, ?_, h1, h2, fun i hi => ⟨(hok.1 i hi).1, ?_⟩, vat_of_row hL.cells hok.2⟩
  · unfold Sl.v; rw [hn, hl, hc]
  · obtain ⟨g, e, hgl, hgh, _, hcell⟩ := hL.spine.cell i (by rw [List.length_map]; omega)
    rw [List.getElem?_map, List.getElem?_eq_getElem (by omega)] at hcell
    have hr := hL.tabs.get i (by omega) (by rw [Hp.xss, List.length_map]; exact hi)
    have ex : h.xss[i]'(by rw [Hp.xss, List.length_map]; exact hi) = flatP h.ts[i] := by simp [Hp.xss]
    rw [ex] at hr
    have hln : ss[i].n = h.ts[i].length := by have := hr.1; rw [flatP_len] at this; omega
    refine ⟨g, 0, (ss[i]'(by omega)).a, (ss[i]'(by omega)).c, e, hgl, hgh, ?_, pat_of_row hr (hok.1 i hi).2⟩
    rw [Nat.zero_add, hcell]
    simp only [Option.map_some, Sl.v, hln]

/- Append, whatever is appended. -/
section
variable {P : Program} (w : World)
theorem run_append_zero (base : Nat) (t ty e : TypeId) (i : TypeInfo) (size : Nat) (ht : P.underlying t = some (.slice e)) (hi : P.info? e = some i)
    (v : Value) (n : Nat) (xs : List Value) (hown : w.ownsRow base e size v n xs) (b : Option Addr) (c : Nat) :
    (Builtin.append_ #[t, t] ty #[v, .slice b 0 c]).run P w = .ok v w := by
  rcases hown.2 with ⟨rfl, rfl⟩ | ⟨g, cap, cur, rfl, _, _, hnc, _⟩ <;> cases b <;>
    simp [Builtin.append_, run_underlying ht, sizeOf, typeInfo, Builtin.lenOf, Builtin.firstCells, storeCells, loadCells, loadCellsFrom, *, Result.andThen]

theorem run_append_any (t ty : TypeId) (base : Nat) (e : TypeId) (i : TypeInfo) (z : Value) (size bytes : Nat) (ht : P.underlying t = some (.slice e)) (hi : P.info? e = some i) (hz : i.zero = some z)
    (hsize : i.size = size) (hby : i.bytes = bytes) (hzs : z.cells.size = size) (hsz : 0 < size)
    (v : Value) (n : Nat) (xs : List Value) (hown : w.ownsRow base e size v n xs)
    (b : Option Addr) (m c : Nat) (news : List Value) (hl : news.length = m * size) (hnews : ∀ j u, news[j]? = some u → ∃ ad, b = some ad ∧ w.cell? (ad.add j) = some u) (h1 : ∀ u ∈ news, u.oneCell' = true)
    (h63 : n + m ≤ maxLen) (hbytes : (n + m) * bytes ≤ 140737488355328) (hbase : base ≤ w.heap.size) (H : Nat) (hH : w.heap.size = H) :
    ∃ b' cap w', (Builtin.append_ #[t, t] ty #[v, .slice b m c]).run P w = .ok (.slice b' (n + m) cap) w' ∧
      w'.ownsRow base e size (.slice b' (n + m) cap) (n + m) (xs ++ news) ∧ w.grownBy w' v.ownBlock ∧ ((Value.slice b' (n + m) cap).ownBlock = v.ownBlock ∨ (Value.slice b' (n + m) cap).ownBlock = some H) := by
  by_cases hm : m = 0
  · subst hm
    obtain rfl : news = [] := List.length_eq_zero_iff.1 (by rw [hl]; omega)
    obtain ⟨a, cc, rfl⟩ := own_sl hown
    refine ⟨a, cc, w, run_append_zero w base t ty e i size ht hi _ n xs hown b c, ?_, ⟨rfl, rfl, rfl, Nat.le_refl _, fun _ _ _ => rfl⟩, .inl rfl⟩
    simpa using hown
  · have hpos : 0 < news.length := by rw [hl]; exact Nat.mul_pos (by omega) hsz
    obtain ⟨ad, rfl, _⟩ := hnews 0 news[0] (List.getElem?_eq_getElem hpos)
    obtain ⟨g, cap, w', hr, h2, h3, h4, h5⟩ := run_append_lies (P := P) w t ty base e i z size bytes ht hi hz hsize hby hzs hsz v n xs hown ad m c news hl (fun j u hu => by obtain ⟨_, e1, e2⟩ := hnews j u hu; cases e1; exact e2) h1 (by omega) h63 hbytes hbase H hH
    refine ⟨_, _, w', hr, h2, h3, ?_⟩
    rcases h4 with h4 | h4
    · exact .inl h4.symm
    · exact .inr (by rw [h4]; rfl)

theorem wp_append_any {o : Oper} {a : Act} {K : Act → World → Prop} {Q : Exit → Act → World → Prop} (s x : Operand) (t : TypeId)
    (ho : o.op = .call { callee := .builtin .append, args := #[s, x], argTypes := #[t, t] })
    (base : Nat) (e : TypeId) (i : TypeInfo) (z : Value) (size bytes : Nat) (ht : P.underlying t = some (.slice e)) (hi : P.info? e = some i) (hz : i.zero = some z)
    (hsize : i.size = size) (hby : i.bytes = bytes) (hzs : z.cells.size = size) (hsz : 0 < size)
    (v : Value) (n : Nat) (xs : List Value) (hs : a.eval s = v) (hown : w.ownsRow base e size v n xs)
    (b : Option Addr) (m c : Nat) (news : List Value) (hx : a.eval x = .slice b m c) (hl : news.length = m * size) (hnews : ∀ j u, news[j]? = some u → ∃ ad, b = some ad ∧ w.cell? (ad.add j) = some u) (h1 : ∀ u ∈ news, u.oneCell' = true)
    (h63 : n + m ≤ maxLen) (hbytes : (n + m) * bytes ≤ 140737488355328) (hbase : base ≤ w.heap.size) (H : Nat) (hH : w.heap.size = H)
    (h : ∀ b' cap w', w'.ownsRow base e size (.slice b' (n + m) cap) (n + m) (xs ++ news) → w.grownBy w' v.ownBlock → ((Value.slice b' (n + m) cap).ownBlock = v.ownBlock ∨ (Value.slice b' (n + m) cap).ownBlock = some H) → K (a.put o.dst (.slice b' (n + m) cap)) w') : o.wp P a w K Q := by
  obtain ⟨g, cap, w', hr, h2, h3, h4⟩ := run_append_any (P := P) w t o.type base e i z size bytes ht hi hz hsize hby hzs hsz v n xs hown b m c news hl hnews h1 h63 hbytes hbase H hH
  unfold Oper.wp execOp
  simp only [ho, resolve, invoke, builtin, Sem.run_bind, Sem.run_pure, Result.andThen_ok, List.map_toArray, List.map_cons, List.map_nil, hs, hx, hr]
  exact h g cap w' h2 h3 h4

theorem wpList_append_any {ops : Array Oper} {rest : List Oper} {o : Oper} {a : Act} {Q : Exit → Act → World → Prop} (hgd : o.guard = none) (s x : Operand) (t : TypeId)
    (ho : o.op = .call { callee := .builtin .append, args := #[s, x], argTypes := #[t, t] })
    (base : Nat) (e : TypeId) (i : TypeInfo) (z : Value) (size bytes : Nat) (ht : P.underlying t = some (.slice e)) (hi : P.info? e = some i) (hz : i.zero = some z)
    (hsize : i.size = size) (hby : i.bytes = bytes) (hzs : z.cells.size = size) (hsz : 0 < size)
    (v : Value) (n : Nat) (xs : List Value) (hs : a.eval s = v) (hown : w.ownsRow base e size v n xs)
    (b : Option Addr) (m c : Nat) (news : List Value) (hx : a.eval x = .slice b m c) (hl : news.length = m * size) (hnews : ∀ j u, news[j]? = some u → ∃ ad, b = some ad ∧ w.cell? (ad.add j) = some u) (h1 : ∀ u ∈ news, u.oneCell' = true)
    (h63 : n + m ≤ maxLen) (hbytes : (n + m) * bytes ≤ 140737488355328) (hbase : base ≤ w.heap.size) (H : Nat) (hH : w.heap.size = H)
    (h : ∀ b' cap w', w'.ownsRow base e size (.slice b' (n + m) cap) (n + m) (xs ++ news) → w.grownBy w' v.ownBlock → ((Value.slice b' (n + m) cap).ownBlock = v.ownBlock ∨ (Value.slice b' (n + m) cap).ownBlock = some H) → wpList P ops Q rest (a.put o.dst (.slice b' (n + m) cap)) w') : wpList P ops Q (o :: rest) a w :=
  wpList_plain hgd fun _ hK => wp_append_any w s x t ho base e i z size bytes ht hi hz hsize hby hzs hsz v n xs hs hown b m c news hx hl hnews h1 h63 hbytes hbase H hH fun b' cap w' h2 h3 h4 => hK _ _ (h b' cap w' h2 h3 h4)

theorem step_append_any {ops : Array Oper} {o : Oper} {a : Act} {K : Act → World → Prop} {Q : Exit → Act → World → Prop} {E : Prop} (hgd : o.guard = none) (s x : Operand) (t : TypeId)
    (ho : o.op = .call { callee := .builtin .append, args := #[s, x], argTypes := #[t, t] })
    (base : Nat) (e : TypeId) (i : TypeInfo) (z : Value) (size bytes : Nat) (ht : P.underlying t = some (.slice e)) (hi : P.info? e = some i) (hz : i.zero = some z)
    (hsize : i.size = size) (hby : i.bytes = bytes) (hzs : z.cells.size = size) (hsz : 0 < size)
    (v : Value) (n : Nat) (xs : List Value) (hs : a.eval s = v) (hown : w.ownsRow base e size v n xs)
    (b : Option Addr) (m c : Nat) (news : List Value) (hx : a.eval x = .slice b m c) (hl : news.length = m * size) (hnews : ∀ j u, news[j]? = some u → ∃ ad, b = some ad ∧ w.cell? (ad.add j) = some u) (h1 : ∀ u ∈ news, u.oneCell' = true)
    (h63 : n + m ≤ maxLen) (hbytes : (n + m) * bytes ≤ 140737488355328) (hbase : base ≤ w.heap.size) (H : Nat) (hH : w.heap.size = H)
    (h : ∀ b' cap w', w'.ownsRow base e size (.slice b' (n + m) cap) (n + m) (xs ++ news) → w.grownBy w' v.ownBlock → ((Value.slice b' (n + m) cap).ownBlock = v.ownBlock ∨ (Value.slice b' (n + m) cap).ownBlock = some H) → K (a.put o.dst (.slice b' (n + m) cap)) w') :
    if Region.wanted o (yielded ops a.tmps) = true then Oper.wp P o a w K Q else E := by
  have hw : Region.wanted o (yielded ops a.tmps) = true := by simp [Region.wanted, hgd]
  rw [if_pos hw]
  exact wp_append_any w s x t ho base e i z size bytes ht hi hz hsize hby hzs hsz v n xs hs hown b m c news hx hl hnews h1 h63 hbytes hbase H hH h
end
end Go.Proofs.Ytbdpfmkpjeleaaa
