/- Trees, told plainly, and how they lie in memory. -/
import Derived.Test.YtlmmomffanakiaaKit
import Derived.BigQuiet
import Derived.Deep.QuietTactic
namespace Go.Proofs.Ytlmmomffanakiaa
open Go.RowKit

inductive Nd where
  | mk : Int → ByteArray → Int → List ByteArray → Int → List Nd → Nd

theorem nd_ind {P : Nd → Prop} (h : ∀ k t n ns l ks, (∀ x ∈ ks, P x) → P (.mk k t n ns l ks)) (t : Nd) : P t :=
  Nd.rec (motive_1 := P) (motive_2 := fun ks => ∀ x ∈ ks, P x) (fun k t n ns l ks ih => h k t n ns l ks ih) (fun x hx => by cases hx) (fun a l' ha has x hx => by
    rcases List.mem_cons.1 hx with rfl | hx
    · exact ha
    · exact has x hx) t

/-- Texts in a row, in blocks from lo on, below hi. -/
def SAt (w : World) (lo hi : Nat) (ns : List ByteArray) (a : Option Addr) : Prop :=
  ∀ i (h : i < ns.length), ns[i].size ≤ maxLen ∧ ∃ g o, a = some ⟨g, o, none⟩ ∧ lo ≤ g ∧ g < hi ∧ w.cell? ⟨g, o + i, none⟩ = some (.string ns[i])

mutual
def NAt (w : World) (lo hi : Nat) : Nd → List Value → Prop
  | .mk k t n ns l ks, v => t.size ≤ maxLen ∧ ∃ a ca b cb, v = [.int .i64 k, .string t, .int .i64 n, .slice a ns.length ca, .int .i64 l, .slice b ks.length cb] ∧ ns.length ≤ maxLen ∧ ks.length ≤ maxLen ∧ SAt w lo hi ns a ∧ KAt w lo hi ks b 0
def KAt (w : World) (lo hi : Nat) : List Nd → Option Addr → Nat → Prop
  | [], _, _ => True
  | k :: ks, b, i => (∃ g o v, b = some ⟨g, o, none⟩ ∧ lo ≤ g ∧ g < hi ∧ (∀ j, j < 6 → w.cell? ⟨g, o + 6 * i + j, none⟩ = v[j]?) ∧ NAt w lo hi k v) ∧ KAt w lo hi ks b (i + 1)
end

theorem KAt.get {w : World} {lo hi : Nat} {ks : List Nd} {b : Option Addr} {i : Nat} (h : KAt w lo hi ks b i) (m : Nat) (hm : m < ks.length) :
    ∃ g o v, b = some ⟨g, o, none⟩ ∧ lo ≤ g ∧ g < hi ∧ (∀ j, j < 6 → w.cell? ⟨g, o + 6 * (i + m) + j, none⟩ = v[j]?) ∧ NAt w lo hi ks[m] v := by
  induction ks generalizing i m with
  | nil => simp at hm
  | cons k ks ih =>
    simp only [KAt] at h
    cases m with
    | zero => exact h.1
    | succ m =>
      have := ih h.2 m (by simpa using hm)
      rw [show i + 1 + m = i + (m + 1) by omega] at this
      exact this
theorem KAt.mk {w : World} {lo hi : Nat} {ks : List Nd} {b : Option Addr} {i : Nat}
    (h : ∀ m (hm : m < ks.length), ∃ g o v, b = some ⟨g, o, none⟩ ∧ lo ≤ g ∧ g < hi ∧ (∀ j, j < 6 → w.cell? ⟨g, o + 6 * (i + m) + j, none⟩ = v[j]?) ∧ NAt w lo hi ks[m] v) : KAt w lo hi ks b i := by
  induction ks generalizing i with
  | nil => simp [KAt]
  | cons k ks ih =>
    refine ⟨h 0 (by simp), ih fun m hm => ?_⟩
    have := h (m + 1) (by simpa using hm)
    rw [show i + (m + 1) = i + 1 + m by omega] at this
    exact this

theorem SAt.later {w w' : World} {lo hi lo' hi' : Nat} {ns : List ByteArray} {a : Option Addr} (hl : lo' ≤ lo) (hh : hi ≤ hi') (hc : ∀ p : Addr, lo ≤ p.block → p.block < hi → w'.cell? p = w.cell? p) (h : SAt w lo hi ns a) : SAt w' lo' hi' ns a := by
  intro i hi
  obtain ⟨h0, g, o, h1, h2, h3, h4⟩ := h i hi
  exact ⟨h0, g, o, h1, by omega, by omega, (hc ⟨g, o + i, none⟩ h2 h3).trans h4⟩
theorem KAt.of_later {w w' : World} {lo hi lo' hi' : Nat} (hl : lo' ≤ lo) (hh : hi ≤ hi') (hc : ∀ p : Addr, lo ≤ p.block → p.block < hi → w'.cell? p = w.cell? p)
    {ks : List Nd} {b : Option Addr} {i : Nat} (ih : ∀ x ∈ ks, ∀ v, NAt w lo hi x v → NAt w' lo' hi' x v) (h : KAt w lo hi ks b i) : KAt w' lo' hi' ks b i := by
  refine KAt.mk fun m hm => ?_
  obtain ⟨g, o, v, h1, h2, h3, h4, h5⟩ := h.get m hm
  exact ⟨g, o, v, h1, by omega, by omega, fun j hj => (hc ⟨g, _, none⟩ h2 h3).trans (h4 j hj), ih _ (List.getElem_mem hm) v h5⟩
theorem NAt.later {w w' : World} {lo hi lo' hi' : Nat} (hl : lo' ≤ lo) (hh : hi ≤ hi') (hc : ∀ p : Addr, lo ≤ p.block → p.block < hi → w'.cell? p = w.cell? p)
    {t : Nd} {v : List Value} (h : NAt w lo hi t v) : NAt w' lo' hi' t v := by
  induction t using nd_ind generalizing v with
  | h k t n ns l ks ih =>
    simp only [NAt] at h ⊢
    obtain ⟨h0, a, ca, b, cb, h1, h2, h3, h4, h5⟩ := h
    exact ⟨h0, a, ca, b, cb, h1, h2, h3, h4.later hl hh hc, KAt.of_later hl hh hc (fun x hx v h => ih x hx h) h5⟩
theorem KAt.later {w w' : World} {lo hi lo' hi' : Nat} (hl : lo' ≤ lo) (hh : hi ≤ hi') (hc : ∀ p : Addr, lo ≤ p.block → p.block < hi → w'.cell? p = w.cell? p)
    {ks : List Nd} {b : Option Addr} {i : Nat} (h : KAt w lo hi ks b i) : KAt w' lo' hi' ks b i :=
  KAt.of_later hl hh hc (fun _ _ _ h => NAt.later hl hh hc h) h
theorem NAt.below {w w' : World} {lo hi : Nat} {t : Nd} {v : List Value} (h : NAt w lo hi t v) (hb : Below w.heap.size w w') (hh : hi ≤ w.heap.size) : NAt w' lo hi t v :=
  h.later (Nat.le_refl _) (Nat.le_refl _) fun p _ hp => hb.cell (by omega)
theorem KAt.below {w w' : World} {lo hi : Nat} {ks : List Nd} {b : Option Addr} {i : Nat} (h : KAt w lo hi ks b i) (hb : Below w.heap.size w w') (hh : hi ≤ w.heap.size) : KAt w' lo hi ks b i :=
  h.later (Nat.le_refl _) (Nat.le_refl _) fun p _ hp => hb.cell (by omega)
theorem SAt.below {w w' : World} {lo hi : Nat} {ns : List ByteArray} {a : Option Addr} (h : SAt w lo hi ns a) (hb : Below w.heap.size w w') (hh : hi ≤ w.heap.size) : SAt w' lo hi ns a :=
  h.later (Nat.le_refl _) (Nat.le_refl _) fun p _ hp => hb.cell (by omega)

/- What is counted of a tree: each name and each node below it. -/
mutual
def wt : Nd → Nat
  | .mk _ _ _ ns _ ks => ns.length + wtL ks
def wtL : List Nd → Nat
  | [] => 0
  | k :: ks => 1 + wt k + wtL ks
end
theorem wtL_take (ks : List Nd) (i : Nat) (h : i < ks.length) : wtL (ks.take (i + 1)) = wtL (ks.take i) + 1 + wt ks[i] := by
  induction ks generalizing i with
  | nil => simp at h
  | cons k ks ih =>
    cases i with
    | zero => simp [wtL]
    | succ i => simp only [List.take_succ_cons, wtL, List.getElem_cons_succ, ih i (by simpa using h)]; omega
theorem wt_mem {ks : List Nd} {x : Nd} (h : x ∈ ks) : 1 + wt x ≤ wtL ks := by
  induction ks with
  | nil => cases h
  | cons k ks ih =>
    simp only [wtL]
    rcases List.mem_cons.1 h with rfl | h
    · omega
    · have := ih h; omega
theorem len_wtL (ks : List Nd) : ks.length ≤ wtL ks := by
  induction ks with
  | nil => simp
  | cons k ks ih => simp only [wtL, List.length_cons]; omega

/-- How many nodes stand at most so far below. -/
def szt : Nat → Nd → Nat
  | 0, _ => 1
  | b + 1, .mk _ _ _ _ _ ks => 1 + (ks.map (szt b)).sum
theorem szt_le (b : Nat) (t : Nd) : szt b t ≤ 1 + wt t := by
  induction b generalizing t with
  | zero => simp [szt]
  | succ b ih =>
    obtain ⟨k, t, n, ns, l, ks⟩ := t
    simp only [szt, wt]
    have : (ks.map (szt b)).sum ≤ wtL ks := by
      induction ks with
      | nil => simp
      | cons k ks ih2 => have := ih k; simp only [List.map_cons, List.sum_cons, wtL]; omega
    omega
theorem sum_take (f : Nd → Nat) (ks : List Nd) (i : Nat) (h : i < ks.length) : ((ks.take (i + 1)).map f).sum = ((ks.take i).map f).sum + f ks[i] := by
  rw [List.take_succ_eq_append_getElem h, List.map_append, List.sum_append]; simp

/-- A struct that was handed in lies in a block of its own: what is there later. -/
theorem size_alloc (w : World) (o : Obj) : (w.alloc o).heap.size = w.heap.size + 1 := by simp
theorem bel_alloc (w : World) (o : Obj) : Below w.heap.size w (w.alloc o) := (Below.refl _ _).alloc (Nat.le_refl _) o
theorem st_cell {w w1 : World} {cs : Array Value} {T : TypeId} {fr : Nat × Nat} (hb : Below (w.alloc (.cells cs T fr)).heap.size (w.alloc (.cells cs T fr)) w1) (j : Nat) : w1.cell? ⟨w.heap.size, j, none⟩ = cs[j]? := by
  rw [hb.cell (p := ⟨w.heap.size, j, none⟩) (by rw [size_alloc]; show w.heap.size < _; omega)]
  exact cell_of_row _ _ _ _ _ _ (heap_alloc_new w _)

theorem three_alloc {w w1 : World} {A B C : Obj} (hb : Below (((w.alloc A).alloc B).alloc C).heap.size (((w.alloc A).alloc B).alloc C) w1) :
    w1.heap[w.heap.size]? = some A ∧ w1.heap[w.heap.size + 1]? = some B ∧ w1.heap[w.heap.size + 1 + 1]? = some C ∧ Below w.heap.size w w1 ∧ w.heap.size + 3 ≤ w1.heap.size := by
  have s1 := size_alloc w A
  have s2 := size_alloc (w.alloc A) B
  have s3 := size_alloc ((w.alloc A).alloc B) C
  have h3 := hb.size
  refine ⟨?_, ?_, ?_, ?_, by omega⟩
  · rw [hb.block _ (by omega), Below.heap_alloc _ _ _ (by omega), Below.heap_alloc _ _ _ (by omega)]; exact heap_alloc_new w A
  · rw [hb.block _ (by omega), Below.heap_alloc _ _ _ (by omega)]
    have := heap_alloc_new (w.alloc A) B
    rwa [s1] at this
  · rw [hb.block _ (by omega)]
    have := heap_alloc_new ((w.alloc A).alloc B) C
    rwa [s2, s1] at this
  · exact ((bel_alloc w A).trans ((bel_alloc _ B).mono (by omega))).trans (((bel_alloc _ C).mono (by omega)).trans (hb.mono (by omega)))

theorem two_alloc {w w1 : World} {A B : Obj} (hb : Below ((w.alloc A).alloc B).heap.size ((w.alloc A).alloc B) w1) :
    w1.heap[w.heap.size]? = some A ∧ w1.heap[w.heap.size + 1]? = some B ∧ Below w.heap.size w w1 ∧ w.heap.size + 2 ≤ w1.heap.size := by
  have s1 := size_alloc w A
  have s2 := size_alloc (w.alloc A) B
  have h3 := hb.size
  refine ⟨?_, ?_, ?_, by omega⟩
  · rw [hb.block _ (by omega), Below.heap_alloc _ _ _ (by omega)]; exact heap_alloc_new w A
  · rw [hb.block _ (by omega)]
    have := heap_alloc_new (w.alloc A) B
    rwa [s1] at this
  · exact ((bel_alloc w A).trans ((bel_alloc _ B).mono (by omega))).trans (hb.mono (by omega))
end Go.Proofs.Ytlmmomffanakiaa
