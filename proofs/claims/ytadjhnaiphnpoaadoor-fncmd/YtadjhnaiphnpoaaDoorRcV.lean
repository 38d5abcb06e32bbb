/- A command read of a text: what both sides answer. -/
import Derived.Test.YtadjhnaiphnpoaaDoorRcC
import Derived.Test.YtadjhnaiphnpoaaDoorValU
namespace Go.Proofs.YtadjhnaiphnpoaaDoor
open Go.RowKit Go.Lib

def cmdV (s : ByteArray) (n : Int) (x : ByteArray) : Value := .agg #[.string s, .int .i64 n, .string x]
def cmdZ : Value := cmdV ⟨#[]⟩ 0 ⟨#[]⟩
def readN (s : ByteArray) : Int := if kindOf (wordOf s) = 2 then (numR (restOf s).data.toList).getD (-1) else 0
def readX (s : ByteArray) : ByteArray := if kindOf (wordOf s) = 3 then restOf s else ⟨#[]⟩
/-- What is answered where the command is W, n, x. -/
def readT (s W : ByteArray) (n : Int) (x : ByteArray) : Value :=
  if s.toList = [] then .tuple #[cmdZ, .bool false] else if (cmdT W n x).toList = s.toList then .tuple #[cmdV W n x, .bool true] else .tuple #[cmdZ, .bool false]
def readV (s : ByteArray) : Value := readT s (wordOf s) (readN s) (readX s)

theorem nilT : (⟨#[]⟩ : ByteArray).toList = [] := by rw [ByteArray.toList_eq]
theorem readV_form (s : ByteArray) : ∃ W n x ok, readV s = .tuple #[.agg #[.string W, .int .i64 n, .string x], .bool ok] := by
  unfold readV readT
  split
  · exact ⟨_, _, _, _, rfl⟩
  · split
    · exact ⟨_, _, _, _, rfl⟩
    · exact ⟨_, _, _, _, rfl⟩
theorem readV_plain {s : ByteArray} (h : kindOf (wordOf s) = 0 ∨ kindOf (wordOf s) = 1) : readV s = readT s (wordOf s) 0 ⟨#[]⟩ := by
  rw [readV, readN, readX, if_neg (by omega), if_neg (by omega)]
theorem readV_text {s : ByteArray} (h : kindOf (wordOf s) = 3) : readV s = readT s (wordOf s) 0 (restOf s) := by
  rw [readV, readN, readX, if_neg (by omega), if_pos h]
theorem readV_num {s : ByteArray} (h : kindOf (wordOf s) = 2) : readV s = readT s (wordOf s) ((numR (restOf s).data.toList).getD (-1)) ⟨#[]⟩ := by
  rw [readV, readN, readX, if_pos h, if_neg (by omega)]

/-- A text is its first word, a blank and the rest, or the word alone. -/
theorem parts (s : ByteArray) : (wordOf s).data.toList = s.data.toList.take (blankAt s.data.toList) ∧ (restOf s).data.toList = s.data.toList.drop (blankAt s.data.toList + 1) := by
  have hle := blank_le s
  have hz := Lib.size_eq s
  refine ⟨by rw [wordOf, ByteArray.data_extract]; simp, ?_⟩
  unfold restOf
  split
  · rw [ByteArray.data_extract, Array.toList_extract]
    rw [List.extract_eq_take_drop, List.take_of_length_le (by rw [List.length_drop]; omega)]
  · rw [List.drop_eq_nil_of_le (by omega)]
/-- Where a command with a number is told as s, the rest is the numeral. -/
theorem rest_num {s : ByteArray} {n : Int} (h : kindOf (wordOf s) = 2) (hn : 0 ≤ n ∧ n ≤ 999999) (he : (cmdT (wordOf s) n ⟨#[]⟩).toList = s.toList) : itoa n = (restOf s).data.toList := by
  obtain ⟨hw, hr⟩ := parts s
  rw [cmdT2 _ h hn, ByteArray.toList_eq, ByteArray.toList_eq] at he
  simp only [ByteArray.data_append, Array.toList_append, blankT, numT] at he
  have hwl : (wordOf s).data.toList.length = blankAt s.data.toList := by rw [← Lib.size_eq, word_size]
  generalize blankAt s.data.toList = k at *
  rw [hr, ← he, List.append_assoc, List.drop_append, hwl, List.drop_eq_nil_of_le (by rw [hwl]; omega), show k + 1 - k = 1 by omega]
  rfl
/-- Where the number read is the one that there is (if there is one), the answer is the same. -/
theorem readV_of {s : ByteArray} {n : Int} (h : kindOf (wordOf s) = 2) (hn : ∀ v, numR (restOf s).data.toList = some v → n = v) : readV s = readT s (wordOf s) n ⟨#[]⟩ := by
  rw [readV_num h]
  cases hc : numR (restOf s).data.toList with
  | some v => rw [hn v hc]; rfl
  | none =>
    unfold readT
    by_cases h0 : s.toList = []
    · rw [if_pos h0, if_pos h0]
    · rw [if_neg h0, if_neg h0]
      have e1 : ¬ (cmdT (wordOf s) (Option.getD none (-1)) ⟨#[]⟩).toList = s.toList := by
        rw [cmdT2' _ h (by decide)]; exact fun e => h0 (by rw [← e]; exact nilT)
      have e2 : ¬ (cmdT (wordOf s) n ⟨#[]⟩).toList = s.toList := by
        intro e
        by_cases hr : 0 ≤ n ∧ n ≤ 999999
        · have := numR_of hr.1 hr.2 (rest_num h hr e)
          rw [hc] at this; exact absurd this (by simp)
        · rw [cmdT2' _ h hr] at e
          exact h0 (by rw [← e]; exact nilT)
      rw [if_neg e1, if_neg e2]
/-- Where no number is read, nothing is. -/
theorem readV_none {s : ByteArray} (h : kindOf (wordOf s) = 2) (hn : numI (restOf s).data.toList = none) : readV s = .tuple #[cmdZ, .bool false] := by
  have hr : numR (restOf s).data.toList = none := by rw [numR, hn]
  rw [readV_num h, hr]
  unfold readT
  by_cases h0 : s.toList = []
  · rw [if_pos h0]
  · rw [if_neg h0, if_neg]
    rw [cmdT2' _ h (by decide)]; exact fun e => h0 (by rw [← e]; exact nilT)
theorem readV_some {s : ByteArray} {n : Int} (h : kindOf (wordOf s) = 2) (hn : numI (restOf s).data.toList = some n) : readV s = readT s (wordOf s) n ⟨#[]⟩ :=
  readV_of h fun v hv => by
    have := (numR_some hv).2.2.2
    rw [hn] at this; exact Option.some.inj this

/-- The specification's digits: up to seven, as far as they go. -/
theorem digits_read {l : List UInt8} {k m : Nat} (hd : decFrom 0 (l.take k) = some m) (hk : k ≤ l.length) (hend : k = l.length ∨ k = 7 ∨ ∃ b, l[k]? = some b ∧ digitVal b = none) : ∀ v, numR l = some v → (m : Int) = v := by
  intro v hv
  obtain ⟨v0, v1, hl, _⟩ := numR_some hv
  have hall : decFrom 0 l = some v.toNat := by rw [hl]; exact decFrom_digits _
  have hlen : l.length ≤ 6 := by rw [hl]; exact decDigits_lenR (by omega) (by decide)
  have hkl : k = l.length := by
    rcases hend with h | h | ⟨b, hb, hnone⟩
    · exact h
    · omega
    · obtain ⟨d, hd'⟩ := digit_of_decFrom _ _ _ hall k b hb
      rw [hnone] at hd'; exact absurd hd' (by simp)
  rw [hkl, List.take_length, hall] at hd
  have := Option.some.inj hd
  omega

/-- The variable c of both sides, and the cell of what is answered. -/
structure CV (w wr : World) (b : Nat) (W : ByteArray) (n : Int) (x : ByteArray) : Prop where
  var : wr.heap[b]? = some (.cells #[.string W, .int .i64 n, .string x] 35 (0, 0))
  res : wr.heap[w.heap.size]? = some (.cells #[.string ⟨#[]⟩, .int .i64 0, .string ⟨#[]⟩] 35 (0, 0))
  bel : Below w.heap.size w wr
  up : w.heap.size < b
variable {w wr : World} {b : Nat} {W x : ByteArray} {n : Int}
theorem CV.lt (h : CV w wr b W n x) : b < wr.heap.size := by
  by_cases hb : b < wr.heap.size
  · exact hb
  · have := h.var; rw [Array.getElem?_eq_none (by omega)] at this; simp at this
theorem CV.below {w2 : World} (h : CV w wr b W n x) (hb : Below wr.heap.size wr w2) : CV w w2 b W n x :=
  ⟨(hb.block _ h.lt).trans h.var, (hb.block _ (Nat.lt_trans h.up h.lt)).trans h.res, h.bel.trans (hb.mono h.bel.size), h.up⟩
theorem CV.setN (h : CV w wr b W n x) (m : Int) : CV w (wr.setCell ⟨b, 1, none⟩ (.int .i64 m)) b W m x :=
  ⟨by rw [heap_setCell_same _ _ _ _ _ _ h.var]; rfl, by rw [heap_setCell_other _ _ _ _ (by have := h.up; show w.heap.size ≠ b; omega)]; exact h.res, h.bel.setCell (Nat.le_of_lt h.up) _, h.up⟩
theorem CV.setX (h : CV w wr b W n x) (y : ByteArray) : CV w (wr.setCell ⟨b, 2, none⟩ (.string y)) b W n y :=
  ⟨by rw [heap_setCell_same _ _ _ _ _ _ h.var]; rfl, by rw [heap_setCell_other _ _ _ _ (by have := h.up; show w.heap.size ≠ b; omega)]; exact h.res, h.bel.setCell (Nat.le_of_lt h.up) _, h.up⟩
theorem CV.drewN (h : CV w wr b W n x) (k : Nat) : CV w (wr.drewN k) b W n x := ⟨h.var, h.res, ⟨h.bel.os, h.bel.tape, h.bel.output, h.bel.size, h.bel.block⟩, h.up⟩
theorem CV.cells (h : CV w wr b W n x) : wr.cell? ⟨b, 0, none⟩ = some (.string W) ∧ wr.cell? ⟨b, 1, none⟩ = some (.int .i64 n) ∧ wr.cell? ⟨b, 2, none⟩ = some (.string x) ∧ wr.frozen? ⟨b, 1, none⟩ = false ∧ wr.frozen? ⟨b, 2, none⟩ = false := by
  refine ⟨?_, ?_, ?_, frozen_of_row _ _ _ _ _ h.var, frozen_of_row _ _ _ _ _ h.var⟩
  · rw [cell_of_row _ _ 0 _ _ _ h.var]; rfl
  · rw [cell_of_row _ _ 1 _ _ _ h.var]; rfl
  · rw [cell_of_row _ _ 2 _ _ _ h.var]; rfl
theorem CV.resc (h : CV w wr b W n x) : wr.cell? ⟨w.heap.size, 0, none⟩ = some (.string ⟨#[]⟩) ∧ wr.cell? ⟨w.heap.size, 1, none⟩ = some (.int .i64 0) ∧ wr.cell? ⟨w.heap.size, 2, none⟩ = some (.string ⟨#[]⟩) ∧ wr.frozen? ⟨w.heap.size, 0, none⟩ = false ∧ wr.frozen? ⟨w.heap.size, 1, none⟩ = false ∧ wr.frozen? ⟨w.heap.size, 2, none⟩ = false := by
  refine ⟨?_, ?_, ?_, frozen_of_row _ _ _ _ _ h.res, frozen_of_row _ _ _ _ _ h.res, frozen_of_row _ _ _ _ _ h.res⟩
  · rw [cell_of_row _ _ 0 _ _ _ h.res]; rfl
  · rw [cell_of_row _ _ 1 _ _ _ h.res]; rfl
  · rw [cell_of_row _ _ 2 _ _ _ h.res]; rfl
end Go.Proofs.YtadjhnaiphnpoaaDoor
