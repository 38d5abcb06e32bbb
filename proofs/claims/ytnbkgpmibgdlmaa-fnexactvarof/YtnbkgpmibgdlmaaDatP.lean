/- Lists of things, told plainly, and how they lie in memory. -/
import Derived.Test.YtnbkgpmibgdlmaaHeapP
namespace Go.Proofs.Ytnbkgpmibgdlmaa
open Go.RowKit

/-- Things in a row, of k cells each, in blocks from lo on, below hi. -/
def RowAt {α : Type} (k : Nat) (C : World → Nat → Nat → α → List Value → Prop) (w : World) (lo hi : Nat) (xs : List α) (a : Option Addr) : Prop :=
  ∀ i (h : i < xs.length), ∃ g o cs, a = some ⟨g, o, none⟩ ∧ lo ≤ g ∧ g < hi ∧ C w lo hi xs[i] cs ∧ cs.length = k ∧ ∀ j, j < k → w.cell? ⟨g, o + k * i + j, none⟩ = cs[j]?
def Keeps {α : Type} (C : World → Nat → Nat → α → List Value → Prop) : Prop :=
  ∀ (w w' : World) (lo hi lo' hi' : Nat) (x : α) (cs : List Value), lo' ≤ lo → hi ≤ hi' → (∀ p : Addr, lo ≤ p.block → p.block < hi → w'.cell? p = w.cell? p) → C w lo hi x cs → C w' lo' hi' x cs
theorem RowAt.later {α : Type} {k : Nat} {C : World → Nat → Nat → α → List Value → Prop} (hK : Keeps C) {w w' : World} {lo hi lo' hi' : Nat} {xs : List α} {a : Option Addr} (hl : lo' ≤ lo) (hh : hi ≤ hi') (hc : ∀ p : Addr, lo ≤ p.block → p.block < hi → w'.cell? p = w.cell? p) (h : RowAt k C w lo hi xs a) : RowAt k C w' lo' hi' xs a := by
  intro i hi
  obtain ⟨g, o, cs, h1, h2, h3, h4, h5, h6⟩ := h i hi
  exact ⟨g, o, cs, h1, by omega, by omega, hK _ _ _ _ _ _ _ _ hl hh hc h4, h5, fun j hj => (hc ⟨g, _, none⟩ h2 h3).trans (h6 j hj)⟩
theorem RowAt.below {α : Type} {k : Nat} {C : World → Nat → Nat → α → List Value → Prop} (hK : Keeps C) {w w' : World} {lo hi : Nat} {xs : List α} {a : Option Addr} (h : RowAt k C w lo hi xs a) (hb : Below w.heap.size w w') (hh : hi ≤ w.heap.size) : RowAt k C w' lo hi xs a :=
  h.later hK (Nat.le_refl _) (Nat.le_refl _) fun p _ hp => hb.cell (by omega)
theorem Keeps.below {α : Type} {C : World → Nat → Nat → α → List Value → Prop} (hK : Keeps C) {w w' : World} {lo hi : Nat} {x : α} {cs : List Value} (h : C w lo hi x cs) (hb : Below w.heap.size w w') (hh : hi ≤ w.heap.size) : C w' lo hi x cs :=
  hK _ _ _ _ _ _ _ _ (Nat.le_refl _) (Nat.le_refl _) (fun p _ hp => hb.cell (by omega)) h
theorem cell_set_other {w : World} {a p : Addr} {v : Value} (h : p.block ≠ a.block) : (w.setCell a v).cell? p = w.cell? p := World.cell?_of_block (w := w) (heap_setCell_other _ _ _ _ h)
/-- A row that lies above a block isn't turned by a store into that block. -/
theorem RowAt.set {α : Type} {k : Nat} {C : World → Nat → Nat → α → List Value → Prop} (hK : Keeps C) {w : World} {lo hi : Nat} {xs : List α} {a : Option Addr} (b : Addr) (v : Value) (hb : b.block < lo) (h : RowAt k C w lo hi xs a) : RowAt k C (w.setCell b v) lo hi xs a :=
  h.later hK (Nat.le_refl _) (Nat.le_refl _) fun p hp _ => cell_set_other (by omega)
theorem RowAt.wide {α : Type} {k : Nat} {C : World → Nat → Nat → α → List Value → Prop} (hK : Keeps C) {w : World} {lo hi lo' hi' : Nat} {xs : List α} {a : Option Addr} (hl : lo' ≤ lo) (hh : hi ≤ hi') (h : RowAt k C w lo hi xs a) : RowAt k C w lo' hi' xs a :=
  h.later hK hl hh fun _ _ _ => rfl
def wtR {α : Type} (f : α → Nat) (xs : List α) : Nat := (xs.map fun x => 1 + f x).sum
theorem wtR_take {α : Type} (f : α → Nat) (xs : List α) (i : Nat) (h : i < xs.length) : wtR f (xs.take (i + 1)) = wtR f (xs.take i) + (1 + f xs[i]) := by
  unfold wtR
  rw [List.take_succ_eq_append_getElem h, List.map_append, List.sum_append]; simp
theorem wtR_take_le {α : Type} (f : α → Nat) (xs : List α) (i : Nat) : wtR f (xs.take i) ≤ wtR f xs := by
  conv => rhs; rw [← List.take_append_drop i xs]
  unfold wtR
  rw [List.map_append, List.sum_append]; omega
theorem wtR_mem {α : Type} (f : α → Nat) (xs : List α) (i : Nat) (h : i < xs.length) : 1 + f xs[i] ≤ wtR f xs := by
  have h1 := wtR_take f xs i h
  have h2 := wtR_take_le f xs (i + 1)
  omega
theorem len_wtR {α : Type} (f : α → Nat) (xs : List α) : xs.length ≤ wtR f xs := by
  unfold wtR
  induction xs with
  | nil => simp
  | cons t ts ih => simp only [List.map_cons, List.sum_cons, List.length_cons]; omega
structure IntOk (n : Int) : Prop where
  n0 : -9223372036854775808 ≤ n
  n1 : n ≤ 9223372036854775807
def IntC (_ : World) (_ _ : Nat) (n : Int) (cs : List Value) : Prop := IntOk n ∧ cs = [.int .i64 n]
def StrC (_ : World) (_ _ : Nat) (s : ByteArray) (cs : List Value) : Prop := s.size ≤ maxLen ∧ cs = [.string s]
def ValC (_ : World) (_ _ : Nat) (v : Vl) (cs : List Value) : Prop := v.Ok ∧ cs = [.int .i64 v.k, .int .i64 v.n, .string v.s]
def Vl.wt (v : Vl) : Nat := v.s.size
theorem IntC_keeps : Keeps IntC := fun _ _ _ _ _ _ _ _ _ _ _ h => h
theorem StrC_keeps : Keeps StrC := fun _ _ _ _ _ _ _ _ _ _ _ h => h
theorem ValC_keeps : Keeps ValC := fun _ _ _ _ _ _ _ _ _ _ _ h => h
theorem sr1_old (cs : Array Value) (i : Nat) (v0 : Value) (m : Nat) (h : m < i) : (cs.setIfInBounds i v0)[m]? = cs[m]? := by
  simp only [Array.getElem?_setIfInBounds]
  rw [if_neg (by omega)]
theorem sr1_new (cs : Array Value) (i : Nat) (v0 : Value) (j : Nat) (h : j < 1) (hs : i + 1 ≤ cs.size) : (cs.setIfInBounds i v0)[i + j]? = [v0][j]? := by
  simp only [Array.getElem?_setIfInBounds]
  match j, h with
  | 0, _ => simp; omega
theorem sr2_old (cs : Array Value) (i : Nat) (v0 v1 : Value) (m : Nat) (h : m < 2 * i) : ((cs.setIfInBounds (2 * i) v0).setIfInBounds (2 * i + 1) v1)[m]? = cs[m]? := by
  simp only [Array.getElem?_setIfInBounds]
  rw [if_neg (by omega), if_neg (by omega)]
theorem sr2_new (cs : Array Value) (i : Nat) (v0 v1 : Value) (j : Nat) (h : j < 2) (hs : 2 * i + 2 ≤ cs.size) : ((cs.setIfInBounds (2 * i) v0).setIfInBounds (2 * i + 1) v1)[2 * i + j]? = [v0, v1][j]? := by
  simp only [Array.getElem?_setIfInBounds, Array.size_setIfInBounds]
  match j, h with
  | 0, _ => simp; omega
  | 1, _ => simp; omega
theorem sr3_old (cs : Array Value) (i : Nat) (v0 v1 v2 : Value) (m : Nat) (h : m < 3 * i) : (((cs.setIfInBounds (3 * i) v0).setIfInBounds (3 * i + 1) v1).setIfInBounds (3 * i + 2) v2)[m]? = cs[m]? := by
  simp only [Array.getElem?_setIfInBounds]
  rw [if_neg (by omega), if_neg (by omega), if_neg (by omega)]
theorem sr3_new (cs : Array Value) (i : Nat) (v0 v1 v2 : Value) (j : Nat) (h : j < 3) (hs : 3 * i + 3 ≤ cs.size) : (((cs.setIfInBounds (3 * i) v0).setIfInBounds (3 * i + 1) v1).setIfInBounds (3 * i + 2) v2)[3 * i + j]? = [v0, v1, v2][j]? := by
  simp only [Array.getElem?_setIfInBounds, Array.size_setIfInBounds]
  match j, h with
  | 0, _ => simp; omega
  | 1, _ => simp; omega
  | 2, _ => simp; omega
theorem sr4_old (cs : Array Value) (i : Nat) (v0 v1 v2 v3 : Value) (m : Nat) (h : m < 4 * i) : ((((cs.setIfInBounds (4 * i) v0).setIfInBounds (4 * i + 1) v1).setIfInBounds (4 * i + 2) v2).setIfInBounds (4 * i + 3) v3)[m]? = cs[m]? := by
  simp only [Array.getElem?_setIfInBounds]
  rw [if_neg (by omega), if_neg (by omega), if_neg (by omega), if_neg (by omega)]
theorem sr4_new (cs : Array Value) (i : Nat) (v0 v1 v2 v3 : Value) (j : Nat) (h : j < 4) (hs : 4 * i + 4 ≤ cs.size) : ((((cs.setIfInBounds (4 * i) v0).setIfInBounds (4 * i + 1) v1).setIfInBounds (4 * i + 2) v2).setIfInBounds (4 * i + 3) v3)[4 * i + j]? = [v0, v1, v2, v3][j]? := by
  simp only [Array.getElem?_setIfInBounds, Array.size_setIfInBounds]
  match j, h with
  | 0, _ => simp; omega
  | 1, _ => simp; omega
  | 2, _ => simp; omega
  | 3, _ => simp; omega
theorem sr5_old (cs : Array Value) (i : Nat) (v0 v1 v2 v3 v4 : Value) (m : Nat) (h : m < 5 * i) : (((((cs.setIfInBounds (5 * i) v0).setIfInBounds (5 * i + 1) v1).setIfInBounds (5 * i + 2) v2).setIfInBounds (5 * i + 3) v3).setIfInBounds (5 * i + 4) v4)[m]? = cs[m]? := by
  simp only [Array.getElem?_setIfInBounds]
  rw [if_neg (by omega), if_neg (by omega), if_neg (by omega), if_neg (by omega), if_neg (by omega)]
theorem sr5_new (cs : Array Value) (i : Nat) (v0 v1 v2 v3 v4 : Value) (j : Nat) (h : j < 5) (hs : 5 * i + 5 ≤ cs.size) : (((((cs.setIfInBounds (5 * i) v0).setIfInBounds (5 * i + 1) v1).setIfInBounds (5 * i + 2) v2).setIfInBounds (5 * i + 3) v3).setIfInBounds (5 * i + 4) v4)[5 * i + j]? = [v0, v1, v2, v3, v4][j]? := by
  simp only [Array.getElem?_setIfInBounds, Array.size_setIfInBounds]
  match j, h with
  | 0, _ => simp; omega
  | 1, _ => simp; omega
  | 2, _ => simp; omega
  | 3, _ => simp; omega
  | 4, _ => simp; omega
theorem sr6_old (cs : Array Value) (i : Nat) (v0 v1 v2 v3 v4 v5 : Value) (m : Nat) (h : m < 6 * i) : ((((((cs.setIfInBounds (6 * i) v0).setIfInBounds (6 * i + 1) v1).setIfInBounds (6 * i + 2) v2).setIfInBounds (6 * i + 3) v3).setIfInBounds (6 * i + 4) v4).setIfInBounds (6 * i + 5) v5)[m]? = cs[m]? := by
  simp only [Array.getElem?_setIfInBounds]
  rw [if_neg (by omega), if_neg (by omega), if_neg (by omega), if_neg (by omega), if_neg (by omega), if_neg (by omega)]
theorem sr6_new (cs : Array Value) (i : Nat) (v0 v1 v2 v3 v4 v5 : Value) (j : Nat) (h : j < 6) (hs : 6 * i + 6 ≤ cs.size) : ((((((cs.setIfInBounds (6 * i) v0).setIfInBounds (6 * i + 1) v1).setIfInBounds (6 * i + 2) v2).setIfInBounds (6 * i + 3) v3).setIfInBounds (6 * i + 4) v4).setIfInBounds (6 * i + 5) v5)[6 * i + j]? = [v0, v1, v2, v3, v4, v5][j]? := by
  simp only [Array.getElem?_setIfInBounds, Array.size_setIfInBounds]
  match j, h with
  | 0, _ => simp; omega
  | 1, _ => simp; omega
  | 2, _ => simp; omega
  | 3, _ => simp; omega
  | 4, _ => simp; omega
  | 5, _ => simp; omega
theorem sr7_old (cs : Array Value) (i : Nat) (v0 v1 v2 v3 v4 v5 v6 : Value) (m : Nat) (h : m < 7 * i) : (((((((cs.setIfInBounds (7 * i) v0).setIfInBounds (7 * i + 1) v1).setIfInBounds (7 * i + 2) v2).setIfInBounds (7 * i + 3) v3).setIfInBounds (7 * i + 4) v4).setIfInBounds (7 * i + 5) v5).setIfInBounds (7 * i + 6) v6)[m]? = cs[m]? := by
  simp only [Array.getElem?_setIfInBounds]
  rw [if_neg (by omega), if_neg (by omega), if_neg (by omega), if_neg (by omega), if_neg (by omega), if_neg (by omega), if_neg (by omega)]
theorem sr7_new (cs : Array Value) (i : Nat) (v0 v1 v2 v3 v4 v5 v6 : Value) (j : Nat) (h : j < 7) (hs : 7 * i + 7 ≤ cs.size) : (((((((cs.setIfInBounds (7 * i) v0).setIfInBounds (7 * i + 1) v1).setIfInBounds (7 * i + 2) v2).setIfInBounds (7 * i + 3) v3).setIfInBounds (7 * i + 4) v4).setIfInBounds (7 * i + 5) v5).setIfInBounds (7 * i + 6) v6)[7 * i + j]? = [v0, v1, v2, v3, v4, v5, v6][j]? := by
  simp only [Array.getElem?_setIfInBounds, Array.size_setIfInBounds]
  match j, h with
  | 0, _ => simp; omega
  | 1, _ => simp; omega
  | 2, _ => simp; omega
  | 3, _ => simp; omega
  | 4, _ => simp; omega
  | 5, _ => simp; omega
  | 6, _ => simp; omega
end Go.Proofs.Ytnbkgpmibgdlmaa
