/- Messages one behind the other: what both sides answer. No function of the program. -/
import Derived.Test.YtadjhnaiphnpoaaDoorNmP
namespace Go.Proofs.YtadjhnaiphnpoaaDoor
open Go.RowKit Go.Lib

def vParts : Value → ByteArray × Int × Int
  | .tuple a => match a.toList with
    | [.string b, .int _ n, .int _ k] => (b, n, k)
    | _ => (⟨#[]⟩, 0, 0)
  | _ => (⟨#[]⟩, 0, 0)
def nextT (s : ByteArray) : ByteArray × Int × Int := vParts (nextV s)
theorem nextV_nm (s : ByteArray) : nextV s = nmV (nextT s).1 (nextT s).2.1 (nextT s).2.2 := by
  have h : ∃ b n k, nextV s = nmV b n k := by
    unfold nextV
    simp only []
    repeat' split
    all_goals exact ⟨_, _, _, rfl⟩
  obtain ⟨b, n, k, h⟩ := h
  unfold nextT
  rw [h]; rfl
/-- A message takes some bytes, and no more than there are. -/
theorem next_ok {s : ByteArray} (h : (nextT s).2.2 = 0) : ∃ n : Nat, (nextT s).2.1 = n ∧ 0 < n ∧ n ≤ s.size := by
  unfold nextT at h ⊢
  unfold nextV at h ⊢
  simp only [] at h ⊢
  split at h
  · exact absurd h (by decide)
  · rename_i h1
    rw [if_neg h1]
    split at h
    · exact absurd h (by decide)
    · rename_i h2
      rw [if_neg h2]
      split at h
      · exact absurd h (by decide)
      · rename_i n h3
        split at h
        · exact absurd h (by decide)
        · rename_i h4
          rw [if_neg h4]
          split at h
          · exact absurd h (by decide)
          · rename_i h5
            rw [if_neg h5]
            exact ⟨_, rfl, by omega, by rw [Lib.size_eq]; omega⟩
theorem next_bounds (s : ByteArray) (hs : s.size ≤ 2097152) : 0 ≤ (nextT s).2.1 ∧ (nextT s).2.1 ≤ 2097152 ∧ 0 ≤ (nextT s).2.2 ∧ (nextT s).2.2 ≤ 2 := by
  unfold nextT nextV
  simp only []
  repeat' split
  all_goals simp only [nmV, vParts]
  all_goals first | decide | skip
  rename_i h5
  rw [← Lib.size_eq] at h5
  refine ⟨?_, ?_, ?_, ?_⟩ <;> simp <;> omega
theorem next_body (s : ByteArray) : (nextT s).1.size ≤ 5000 := by
  unfold nextT nextV
  simp only []
  repeat' split
  all_goals simp only [nmV, vParts]
  all_goals first | (show 0 ≤ _; omega) | skip
  rename_i n h3 _ _
  have := (szR_some h3).1
  rw [ByteArray.size_extract]; omega

/-- The messages from at on, no more than k: the bodies behind those that there are, where they end, and the code. -/
def msgR (s : ByteArray) : Nat → Nat → List ByteArray → List ByteArray × Nat × Int
  | 0, i, out => (out, i, 0)
  | k + 1, i, out => if s.size ≤ i then (out, i, 0) else if (nextT (s.extract i s.size)).2.2 = 0 then msgR s k (i + (nextT (s.extract i s.size)).2.1.toNat) (out ++ [(nextT (s.extract i s.size)).1]) else (out, i, (nextT (s.extract i s.size)).2.2)
theorem msgR_end {s : ByteArray} {k i : Nat} {out : List ByteArray} (h : s.size ≤ i ∨ k = 0) : msgR s k i out = (out, i, 0) := by
  cases k with
  | zero => rfl
  | succ k =>
    unfold msgR
    rw [if_pos (by omega)]
theorem msgR_more {s : ByteArray} {k i : Nat} {out : List ByteArray} (h : ¬ s.size ≤ i) (h0 : (nextT (s.extract i s.size)).2.2 = 0) : msgR s (k + 1) i out = msgR s k (i + (nextT (s.extract i s.size)).2.1.toNat) (out ++ [(nextT (s.extract i s.size)).1]) := by
  rw [msgR, if_neg h, if_pos h0]
theorem msgR_stop {s : ByteArray} {k i : Nat} {out : List ByteArray} (h : ¬ s.size ≤ i) (h0 : ¬ (nextT (s.extract i s.size)).2.2 = 0) : msgR s (k + 1) i out = (out, i, (nextT (s.extract i s.size)).2.2) := by
  rw [msgR, if_neg h, if_neg h0]
theorem msgR_len (s : ByteArray) : ∀ (k i : Nat) (out : List ByteArray), (msgR s k i out).1.length ≤ out.length + k
  | 0, _, _ => Nat.le_refl _
  | k + 1, i, out => by
    unfold msgR
    split
    · simp
    · split
      · have := msgR_len s k (i + (nextT (s.extract i s.size)).2.1.toNat) (out ++ [(nextT (s.extract i s.size)).1])
        simp only [List.length_append, List.length_singleton] at this
        omega
      · simp
def msgs (s : ByteArray) : List ByteArray × Nat × Int := msgR s 100 0 []
end Go.Proofs.YtadjhnaiphnpoaaDoor
