/- Heaps, told plainly, and how they lie in memory. -/
import Derived.Test.YtnbkgpmibgdlmaaValO
import Derived.Test.YtnbkgpmibgdlmaaValU
import Derived.Deep.RegionHeld3
namespace Go.Proofs.Ytnbkgpmibgdlmaa
open Go.RowKit

structure Vl where
  k : Int
  n : Int
  s : ByteArray
structure Pr where
  key : Vl
  val : Vl
def Vl.cs (v : Vl) : List Value := [.int .i64 v.k, .int .i64 v.n, .string v.s]
def Pr.cs (p : Pr) : List Value := [.int .i64 p.key.k, .int .i64 p.key.n, .string p.key.s, .int .i64 p.val.k, .int .i64 p.val.n, .string p.val.s]
structure Vl.Ok (v : Vl) : Prop where
  ok : ValOk v.k v.n v.s
structure Pr.Ok (p : Pr) : Prop where
  key : p.key.Ok
  val : p.val.Ok

/-- A short text, as the law lets pass. -/
def Vl.Sm (v : Vl) : Prop := v.s.size ≤ 1048576
structure Pr.Sm (p : Pr) : Prop where
  key : p.key.Sm
  val : p.val.Sm

/-- Values in a row, in blocks from lo on, below hi. -/
def VAt (w : World) (lo hi : Nat) (vs : List Vl) (a : Option Addr) : Prop :=
  ∀ i (h : i < vs.length), vs[i].Ok ∧ ∃ g o, a = some ⟨g, o, none⟩ ∧ lo ≤ g ∧ g < hi ∧ ∀ j, j < 3 → w.cell? ⟨g, o + 3 * i + j, none⟩ = vs[i].cs[j]?
/-- Pairs in a row. -/
def PAt (w : World) (lo hi : Nat) (ps : List Pr) (a : Option Addr) : Prop :=
  ∀ i (h : i < ps.length), ps[i].Ok ∧ ∃ g o, a = some ⟨g, o, none⟩ ∧ lo ≤ g ∧ g < hi ∧ ∀ j, j < 6 → w.cell? ⟨g, o + 6 * i + j, none⟩ = ps[i].cs[j]?
/-- Tables in a row. -/
def TAt (w : World) (lo hi : Nat) (ts : List (List Pr)) (a : Option Addr) : Prop :=
  ∀ i (h : i < ts.length), ts[i].length ≤ maxLen ∧ ∃ g o b cb, a = some ⟨g, o, none⟩ ∧ lo ≤ g ∧ g < hi ∧ w.cell? ⟨g, o + i, none⟩ = some (.slice b ts[i].length cb) ∧ PAt w lo hi ts[i] b
structure Hp where
  ts : List (List Pr)
  vs : List Vl
def HAt (w : World) (lo hi : Nat) (h : Hp) (v : List Value) : Prop :=
  ∃ a ca b cb, v = [.slice a h.ts.length ca, .slice b h.vs.length cb] ∧ h.ts.length ≤ maxLen ∧ h.vs.length ≤ maxLen ∧ TAt w lo hi h.ts a ∧ VAt w lo hi h.vs b

theorem VAt.later {w w' : World} {lo hi lo' hi' : Nat} {vs : List Vl} {a : Option Addr} (hl : lo' ≤ lo) (hh : hi ≤ hi') (hc : ∀ p : Addr, lo ≤ p.block → p.block < hi → w'.cell? p = w.cell? p) (h : VAt w lo hi vs a) : VAt w' lo' hi' vs a := by
  intro i hi
  obtain ⟨h0, g, o, h1, h2, h3, h4⟩ := h i hi
  exact ⟨h0, g, o, h1, by omega, by omega, fun j hj => (hc ⟨g, _, none⟩ h2 h3).trans (h4 j hj)⟩
theorem PAt.later {w w' : World} {lo hi lo' hi' : Nat} {vs : List Pr} {a : Option Addr} (hl : lo' ≤ lo) (hh : hi ≤ hi') (hc : ∀ p : Addr, lo ≤ p.block → p.block < hi → w'.cell? p = w.cell? p) (h : PAt w lo hi vs a) : PAt w' lo' hi' vs a := by
  intro i hi
  obtain ⟨h0, g, o, h1, h2, h3, h4⟩ := h i hi
  exact ⟨h0, g, o, h1, by omega, by omega, fun j hj => (hc ⟨g, _, none⟩ h2 h3).trans (h4 j hj)⟩
theorem TAt.later {w w' : World} {lo hi lo' hi' : Nat} {ts : List (List Pr)} {a : Option Addr} (hl : lo' ≤ lo) (hh : hi ≤ hi') (hc : ∀ p : Addr, lo ≤ p.block → p.block < hi → w'.cell? p = w.cell? p) (h : TAt w lo hi ts a) : TAt w' lo' hi' ts a := by
  intro i hi
  obtain ⟨h0, g, o, b, cb, h1, h2, h3, h4, h5⟩ := h i hi
  exact ⟨h0, g, o, b, cb, h1, by omega, by omega, (hc ⟨g, _, none⟩ h2 h3).trans h4, h5.later hl hh hc⟩
theorem HAt.later {w w' : World} {lo hi lo' hi' : Nat} {h : Hp} {v : List Value} (hl : lo' ≤ lo) (hh : hi ≤ hi') (hc : ∀ p : Addr, lo ≤ p.block → p.block < hi → w'.cell? p = w.cell? p) (hN : HAt w lo hi h v) : HAt w' lo' hi' h v := by
  obtain ⟨a, ca, b, cb, h1, h2, h3, h4, h5⟩ := hN
  exact ⟨a, ca, b, cb, h1, h2, h3, h4.later hl hh hc, h5.later hl hh hc⟩
theorem VAt.below {w w' : World} {lo hi : Nat} {vs : List Vl} {a : Option Addr} (h : VAt w lo hi vs a) (hb : Below w.heap.size w w') (hh : hi ≤ w.heap.size) : VAt w' lo hi vs a :=
  h.later (Nat.le_refl _) (Nat.le_refl _) fun p _ hp => hb.cell (by omega)
theorem PAt.below {w w' : World} {lo hi : Nat} {vs : List Pr} {a : Option Addr} (h : PAt w lo hi vs a) (hb : Below w.heap.size w w') (hh : hi ≤ w.heap.size) : PAt w' lo hi vs a :=
  h.later (Nat.le_refl _) (Nat.le_refl _) fun p _ hp => hb.cell (by omega)
theorem TAt.below {w w' : World} {lo hi : Nat} {ts : List (List Pr)} {a : Option Addr} (h : TAt w lo hi ts a) (hb : Below w.heap.size w w') (hh : hi ≤ w.heap.size) : TAt w' lo hi ts a :=
  h.later (Nat.le_refl _) (Nat.le_refl _) fun p _ hp => hb.cell (by omega)
theorem HAt.below {w w' : World} {lo hi : Nat} {h : Hp} {v : List Value} (hN : HAt w lo hi h v) (hb : Below w.heap.size w w') (hh : hi ≤ w.heap.size) : HAt w' lo hi h v :=
  hN.later (Nat.le_refl _) (Nat.le_refl _) fun p _ hp => hb.cell (by omega)

/- What is counted of a heap: each pair, each table, each cell. -/
def wtT (ts : List (List Pr)) : Nat := (ts.map fun t => 1 + t.length).sum
theorem wtT_take (ts : List (List Pr)) (i : Nat) (h : i < ts.length) : wtT (ts.take (i + 1)) = wtT (ts.take i) + (1 + ts[i].length) := by
  unfold wtT
  rw [List.take_succ_eq_append_getElem h, List.map_append, List.sum_append]; simp
theorem wtT_take_le (ts : List (List Pr)) (i : Nat) : wtT (ts.take i) ≤ wtT ts := by
  conv => rhs; rw [← List.take_append_drop i ts]
  unfold wtT
  rw [List.map_append, List.sum_append]; omega
theorem wtT_mem (ts : List (List Pr)) (i : Nat) (h : i < ts.length) : 1 + ts[i].length ≤ wtT ts := by
  have h1 := wtT_take ts i h
  have h2 := wtT_take_le ts (i + 1)
  omega
theorem len_wtT (ts : List (List Pr)) : ts.length ≤ wtT ts := by
  unfold wtT
  induction ts with
  | nil => simp
  | cons t ts ih => simp only [List.map_cons, List.sum_cons, List.length_cons]; omega
end Go.Proofs.Ytnbkgpmibgdlmaa
