/- A command comes back from its text. -/
import Derived.Test.YtadjhnaiphnpoaaDoorRcV
namespace Go.Proofs.YtadjhnaiphnpoaaDoor
open Go.RowKit Go.Lib

theorem mem_of_has {L : List ByteArray} {s : ByteArray} (h : hasS L s = true) : ∃ t ∈ L, t.toList = s.toList := by
  obtain ⟨t, ht, e⟩ := List.any_eq_true.1 h
  exact ⟨t, ht, by simpa using e⟩
/-- A command's word holds no blank. -/
theorem no_blank {W : ByteArray} (h : kindOf W ≠ 0) : ∀ b ∈ W.data.toList, b ≠ 32 := by
  have key : ∃ t ∈ bareL ++ numL ++ textL, t.toList = W.toList := by
    unfold kindOf at h
    by_cases h1 : hasS bareL W = true
    · obtain ⟨t, ht, e⟩ := mem_of_has h1; exact ⟨t, by simp [ht], e⟩
    · rw [if_neg h1] at h
      by_cases h2 : hasS numL W = true
      · obtain ⟨t, ht, e⟩ := mem_of_has h2; exact ⟨t, by simp [ht], e⟩
      · rw [if_neg h2] at h
        by_cases h3 : hasS textL W = true
        · obtain ⟨t, ht, e⟩ := mem_of_has h3; exact ⟨t, by simp [ht], e⟩
        · rw [if_neg h3] at h; exact absurd rfl h
  obtain ⟨t, ht, e⟩ := key
  rw [ByteArray.toList_eq, ByteArray.toList_eq] at e
  rw [← e]
  have : ∀ t ∈ bareL ++ numL ++ textL, ∀ b ∈ t.data.toList, b ≠ 32 := by decide +kernel
  exact this t ht
theorem ba_ext {a b : ByteArray} (h : a.data.toList = b.data.toList) : a = b := ByteArray.ext (Array.ext' h)
theorem word_alone {W : ByteArray} (h : ∀ b ∈ W.data.toList, b ≠ 32) : wordOf W = W := by
  have hk : blankAt W.data.toList = W.data.toList.length := blankAt_eq _ _ (fun j b _ hb => h b (List.mem_of_getElem? hb)) (fun b hb => by rw [List.getElem?_eq_none (Nat.le_refl _)] at hb; exact absurd hb (by simp)) (Nat.le_refl _)
  apply ba_ext
  rw [(parts W).1, hk, List.take_length]
theorem word_rest {W : ByteArray} (R : ByteArray) (h : ∀ b ∈ W.data.toList, b ≠ 32) : wordOf ((W ++ blankT) ++ R) = W ∧ restOf ((W ++ blankT) ++ R) = R := by
  have hl : ((W ++ blankT) ++ R).data.toList = W.data.toList ++ 32 :: R.data.toList := by
    simp only [ByteArray.data_append, Array.toList_append, blankT, List.append_assoc]; rfl
  have hk : blankAt ((W ++ blankT) ++ R).data.toList = W.data.toList.length := by
    rw [hl]
    refine blankAt_eq _ _ (fun j b hj hb => ?_) (fun b hb => ?_) (by simp)
    · rw [List.getElem?_append_left hj] at hb; exact h b (List.mem_of_getElem? hb)
    · rw [List.getElem?_append_right (Nat.le_refl _)] at hb; simpa using hb.symm
  obtain ⟨h1, h2⟩ := parts ((W ++ blankT) ++ R)
  rw [hk, hl] at h1 h2
  refine ⟨ba_ext ?_, ba_ext ?_⟩
  · rw [h1, List.take_left]
  · rw [h2, List.drop_append, List.drop_eq_nil_of_le (by omega)]
    simp
theorem readT_yes {s W : ByteArray} {n : Int} {x : ByteArray} (h0 : s.toList ≠ []) (h : cmdT W n x = s) : readT s W n x = .tuple #[cmdV W n x, .bool true] := by
  rw [readT, if_neg h0, if_pos (by rw [h])]
theorem cmd_back (W : ByteArray) (n : Int) (x : ByteArray) (h0 : (cmdT W n x).toList ≠ []) : ∃ n' x', readV (cmdT W n x) = .tuple #[cmdV W n' x', .bool true] ∧ cmdT W n' x' = cmdT W n x ∧ -9223372036854775808 ≤ n' ∧ n' ≤ 9223372036854775807 ∧ x'.size ≤ x.size := by
  rcases kind_cases W with hk | hk | hk | hk
  · rw [cmdT0 n x hk] at h0; exact absurd nilT h0
  · have hb := no_blank (W := W) (by omega)
    have hw := word_alone hb
    have e := cmdT1 n x hk
    rw [e] at h0 ⊢
    refine ⟨0, ⟨#[]⟩, ?_, cmdT1 0 _ hk, by decide, by decide, Nat.zero_le _⟩
    rw [readV_plain (.inr (by rw [hw]; exact hk)), hw]
    exact readT_yes h0 (cmdT1 0 _ hk)
  · by_cases hn : 0 ≤ n ∧ n ≤ 999999
    · have hb := no_blank (W := W) (by omega)
      have e := cmdT2 x hk hn
      obtain ⟨hw, hr⟩ := word_rest (numT n) hb
      rw [e] at h0 ⊢
      have e2 : cmdT W n ⟨#[]⟩ = (W ++ blankT) ++ numT n := cmdT2 _ hk hn
      refine ⟨n, ⟨#[]⟩, ?_, e2, by omega, by omega, Nat.zero_le _⟩
      have hnr : numR (numT n).data.toList = some n := numR_of hn.1 hn.2 rfl
      rw [readV_num (by rw [hw]; exact hk), hw, hr, hnr]
      exact readT_yes h0 e2
    · rw [cmdT2' x hk hn] at h0; exact absurd nilT h0
  · have hb := no_blank (W := W) (by omega)
    have e := cmdT3 n x hk
    obtain ⟨hw, hr⟩ := word_rest x hb
    rw [e] at h0 ⊢
    have e2 : cmdT W 0 x = (W ++ blankT) ++ x := cmdT3 0 x hk
    refine ⟨0, x, ?_, e2, by decide, by decide, Nat.le_refl _⟩
    rw [readV_text (by rw [hw]; exact hk), hw, hr]
    exact readT_yes h0 e2
theorem readV_full (s : ByteArray) : ∃ W n x ok, readV s = .tuple #[.agg #[.string W, .int .i64 n, .string x], .bool ok] ∧ W.size ≤ s.size ∧ x.size ≤ s.size ∧ -9223372036854775808 ≤ n ∧ n ≤ 9223372036854775807 ∧ (ok = true → (cmdT W n x).toList = s.toList) := by
  have hw : (wordOf s).size ≤ s.size := by rw [word_size]; exact blank_le s
  have hx : (readX s).size ≤ s.size := by
    unfold readX; split
    · exact rest_size s
    · exact Nat.zero_le _
  have hn : -9223372036854775808 ≤ readN s ∧ readN s ≤ 9223372036854775807 := by
    unfold readN; split
    · cases h : numR (restOf s).data.toList with
      | none => exact ⟨by decide, by decide⟩
      | some v => have := numR_some h; exact ⟨by simp only [Option.getD_some]; omega, by simp only [Option.getD_some]; omega⟩
    · exact ⟨by decide, by decide⟩
  unfold readV readT
  split
  · exact ⟨_, _, _, _, rfl, Nat.zero_le _, Nat.zero_le _, by decide, by decide, fun h => absurd h (by decide)⟩
  · split
    · rename_i h; exact ⟨_, _, _, _, rfl, hw, hx, hn.1, hn.2, fun _ => h⟩
    · exact ⟨_, _, _, _, rfl, Nat.zero_le _, Nat.zero_le _, by decide, by decide, fun h => absurd h (by decide)⟩

/-- A command in a variable. -/
def CR (w : World) (b : Nat) (W : ByteArray) (n : Int) (x : ByteArray) : Prop := w.heap[b]? = some (.cells #[.string W, .int .i64 n, .string x] 35 (0, 0))
theorem CR.lt {w : World} {b : Nat} {W : ByteArray} {n : Int} {x : ByteArray} (h : CR w b W n x) : b < w.heap.size := (Array.getElem?_eq_some_iff.1 h).1
theorem CR.below {w w' : World} {b : Nat} {W : ByteArray} {n : Int} {x : ByteArray} (h : CR w b W n x) (hb : Below w.heap.size w w') : CR w' b W n x := (hb.block _ h.lt).trans h
theorem CR.alloc {w : World} {b : Nat} {W : ByteArray} {n : Int} {x : ByteArray} (h : CR w b W n x) (o : Obj) : CR (w.alloc o) b W n x := (Below.heap_alloc _ _ _ h.lt).trans h
theorem cr_new (w : World) (W : ByteArray) (n : Int) (x : ByteArray) : CR (w.alloc (.cells #[.string W, .int .i64 n, .string x] 35)) w.heap.size W n x := heap_alloc_new w _
theorem CR.cells {w : World} {b : Nat} {W : ByteArray} {n : Int} {x : ByteArray} (h : CR w b W n x) : w.cell? ⟨b, 0, none⟩ = some (.string W) ∧ w.cell? ⟨b, 1, none⟩ = some (.int .i64 n) ∧ w.cell? ⟨b, 2, none⟩ = some (.string x) := by
  refine ⟨?_, ?_, ?_⟩
  · rw [cell_of_row _ _ 0 _ _ _ h]; rfl
  · rw [cell_of_row _ _ 1 _ _ _ h]; rfl
  · rw [cell_of_row _ _ 2 _ _ _ h]; rfl
end Go.Proofs.YtadjhnaiphnpoaaDoor
