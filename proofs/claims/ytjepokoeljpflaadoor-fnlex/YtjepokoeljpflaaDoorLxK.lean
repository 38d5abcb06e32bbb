/- The lexer in memory: what holds of it, and what turns when its place or line is set. -/
import Derived.Test.YtjepokoeljpflaaDoorClsW
import Derived.Test.YtjepokoeljpflaaDoorDrawK
import Derived.Test.YtjepokoeljpflaaDoorLexR
import Derived.BigQuiet
import Derived.Deep.QuietTactic
namespace Go.Proofs.YtjepokoeljpflaaDoor
open Go.RowKit Go.Lib

def lexCells (s : ByteArray) (at' ln : Nat) : Array Value := #[.string s, .int .i64 at', .int .i64 ln] ++ table clsN
/-- The lexer at block c. -/
structure Lx (w : World) (B c : Nat) (s : ByteArray) (at' ln : Nat) : Prop where
  up : B ≤ c
  row : w.heap[c]? = some (.cells (lexCells s at' ln) 44 (0, 0))
theorem lexCells_low (s : ByteArray) (at' ln j : Nat) (h : j < 3) : (lexCells s at' ln)[j]? = #[Value.string s, .int .i64 at', .int .i64 ln][j]? := by
  unfold lexCells; exact Array.getElem?_append_left (by simpa using h)
theorem lexCells_cls (s : ByteArray) (at' ln j : Nat) (h : j < 256) : (lexCells s at' ln)[3 + j]? = some (.int .u8 (clsN j)) := by
  unfold lexCells
  rw [Array.getElem?_append_right (by simp)]
  rw [← table_get clsN j h]; congr 1; simp
theorem Lx.lt {w : World} {B c : Nat} {s : ByteArray} {at' ln : Nat} (h : Lx w B c s at' ln) : c < w.heap.size := (Array.getElem?_eq_some_iff.1 h.row).1
theorem Lx.c0 {w : World} {B c : Nat} {s : ByteArray} {at' ln : Nat} (h : Lx w B c s at' ln) : w.cell? ⟨c, 0, none⟩ = some (.string s) := by rw [cell_of_row _ _ _ _ _ (0, 0) h.row]; exact lexCells_low _ _ _ _ (by decide)
theorem Lx.c1 {w : World} {B c : Nat} {s : ByteArray} {at' ln : Nat} (h : Lx w B c s at' ln) : w.cell? ⟨c, 1, none⟩ = some (.int .i64 at') := by rw [cell_of_row _ _ _ _ _ (0, 0) h.row]; exact lexCells_low _ _ _ _ (by decide)
theorem Lx.c2 {w : World} {B c : Nat} {s : ByteArray} {at' ln : Nat} (h : Lx w B c s at' ln) : w.cell? ⟨c, 2, none⟩ = some (.int .i64 ln) := by rw [cell_of_row _ _ _ _ _ (0, 0) h.row]; exact lexCells_low _ _ _ _ (by decide)
theorem Lx.cls {w : World} {B c : Nat} {s : ByteArray} {at' ln : Nat} (h : Lx w B c s at' ln) (b : UInt8) : w.cell? ⟨c, 3 + b.toNat, none⟩ = some (.int .u8 (clsN b.toNat)) := by
  rw [cell_of_row _ _ _ _ _ (0, 0) h.row, lexCells_cls _ _ _ _ b.toNat_lt]
theorem Lx.fr {w : World} {B c : Nat} {s : ByteArray} {at' ln : Nat} (h : Lx w B c s at' ln) (j : Nat) : w.frozen? ⟨c, j, none⟩ = false := frozen_of_row _ _ _ _ _ h.row
theorem Lx.set1 {w : World} {B c : Nat} {s : ByteArray} {at' ln : Nat} (h : Lx w B c s at' ln) (a2 : Nat) : Lx (w.setCell ⟨c, 1, none⟩ (.int .i64 a2)) B c s a2 ln :=
  ⟨h.up, by rw [heap_setCell_same _ _ _ _ _ _ h.row]; simp [lexCells, Array.setIfInBounds]; intro hh; rw [table_size] at hh; omega⟩
theorem Lx.set1' {w : World} {B c : Nat} {s : ByteArray} {at' ln : Nat} (h : Lx w B c s at' ln) (a2 : Nat) (z : Int) (hz : z = a2) : Lx (w.setCell ⟨c, 1, none⟩ (.int .i64 z)) B c s a2 ln := by subst hz; exact h.set1 a2
theorem Lx.set2 {w : World} {B c : Nat} {s : ByteArray} {at' ln : Nat} (h : Lx w B c s at' ln) (l2 : Nat) : Lx (w.setCell ⟨c, 2, none⟩ (.int .i64 l2)) B c s at' l2 :=
  ⟨h.up, by rw [heap_setCell_same _ _ _ _ _ _ h.row]; simp [lexCells, Array.setIfInBounds]; intro hh; rw [table_size] at hh; omega⟩
theorem Lx.set2' {w : World} {B c : Nat} {s : ByteArray} {at' ln : Nat} (h : Lx w B c s at' ln) (l2 : Nat) (z : Int) (hz : z = l2) : Lx (w.setCell ⟨c, 2, none⟩ (.int .i64 z)) B c s at' l2 := by subst hz; exact h.set2 l2
theorem Lx.later {w w1 : World} {B c : Nat} {s : ByteArray} {at' ln : Nat} (h : Lx w B c s at' ln) (hb : Below w.heap.size w w1) : Lx w1 B c s at' ln :=
  ⟨h.up, by rw [hb.block c h.lt]; exact h.row⟩
theorem by_below {w w1 : World} {row : Option Nat} (hb : Below w.heap.size w w1) : w.grownBy w1 row := ⟨hb.os, hb.tape, hb.output, hb.size, fun k hk _ => hb.block k hk⟩
theorem below_by {B c : Nat} {a w w1 : World} (h : Below B a w) (hg : w.grownBy w1 (some c)) (hB : B ≤ w.heap.size) (hc : B ≤ c) : Below B a w1 := h.grown hg hB (fun k hk => by cases hk; exact hc)

/-! What the classes say -/
theorem cls_all : ∀ n : Fin 256, ((bits BinOp.and IntKind.u8 (clsN n.val : Nat) 6 != 0) = isLD (UInt8.ofNat n.val)) ∧ ((bits BinOp.and IntKind.u8 (clsN n.val : Nat) 4 != 0) = isD (UInt8.ofNat n.val)) ∧
    ((((clsN n.val : Nat) : Int) == 2) = isL (UInt8.ofNat n.val)) ∧ ((((clsN n.val : Nat) : Int) == 4) = isD (UInt8.ofNat n.val)) ∧ ((((clsN n.val : Nat) : Int) == 8) = one (UInt8.ofNat n.val)) ∧
    ((((clsN n.val : Nat) : Int) == 1) = decide (n.val = 32 ∨ n.val = 9 ∨ n.val = 10)) := by decide +kernel
theorem cls_b (b : UInt8) : ((bits BinOp.and IntKind.u8 (clsN b.toNat : Nat) 6 != 0) = isLD b) ∧ ((bits BinOp.and IntKind.u8 (clsN b.toNat : Nat) 4 != 0) = isD b) ∧
    ((((clsN b.toNat : Nat) : Int) == 2) = isL b) ∧ ((((clsN b.toNat : Nat) : Int) == 4) = isD b) ∧ ((((clsN b.toNat : Nat) : Int) == 8) = one b) ∧
    ((((clsN b.toNat : Nat) : Int) == 1) = decide (b.toNat = 32 ∨ b.toNat = 9 ∨ b.toNat = 10)) := by
  have := cls_all ⟨b.toNat, b.toNat_lt⟩
  simpa using this
theorem zero_table : Tryd.zeroCells41 = table fun _ => 0 := by kernel_rfl
end Go.Proofs.YtjepokoeljpflaaDoor
