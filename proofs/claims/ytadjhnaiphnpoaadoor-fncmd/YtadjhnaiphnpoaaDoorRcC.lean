/- A text is cut at its first blank, by the library's Cut; and by the specification's own loop. -/
import Derived.Test.YtadjhnaiphnpoaaDoorRcP
import Derived.Test.YtadjhnaiphnpoaaDoorShelf
import Derived.BigQuiet
import Derived.Deep.QuietTactic
namespace Go.Proofs.YtadjhnaiphnpoaaDoor
open Go.RowKit Go.Lib

def wordOf (s : ByteArray) : ByteArray := s.extract 0 (blankAt s.data.toList)
def restOf (s : ByteArray) : ByteArray := if blankAt s.data.toList < s.size then s.extract (blankAt s.data.toList + 1) s.size else ⟨#[]⟩
theorem blank_le (s : ByteArray) : blankAt s.data.toList ≤ s.size := by
  have := blankAt_le s.data.toList
  rw [Lib.size_eq]; exact this
theorem word_size (s : ByteArray) : (wordOf s).size = blankAt s.data.toList := by
  have := blank_le s
  rw [wordOf, ByteArray.size_extract]; omega
theorem rest_size (s : ByteArray) : (restOf s).size ≤ s.size := by
  unfold restOf
  split
  · rw [ByteArray.size_extract]; omega
  · show 0 ≤ _; omega

set_option maxRecDepth 100000 in
set_option maxHeartbeats 1600000 in
theorem cut_lite (s : ByteArray) (w : World) (hs : s.size ≤ 2097152) :
    Calls Tryd.prog 64 #[.string s, .string ⟨#[32]⟩] w fun e w' => (∃ b : Bool, e = .returned (.tuple #[.string (wordOf s), .string (restOf s), .bool b])) ∧ Below w.heap.size w w' := by
  have C := Tryd.stringslite_Index_one s 32 w
  have hle := blank_le s
  have hi := index_blank s.data.toList
  rw [← Lib.size_eq] at hi
  rw [hi] at C
  by_cases hl : blankAt s.data.toList < s.size
  · rw [if_pos hl] at C
    have HW : Hid (wordOf s = s.extract 0 (blankAt s.data.toList)) := rfl
    have HR : Hid (restOf s = s.extract (blankAt s.data.toList + 1) s.size) := by show _ = _; rw [restOf, if_pos hl]
    clear hi
    generalize blankAt s.data.toList = k at *
    go_enter Tryd.func64, Tryd.ntmps64
    go_wp2_with fail
    refine C.mono ?_
    rintro e w1 ⟨rfl, rfl⟩
    go_wp2_with fail
    go_quiet (fail)
    go_wp2_with fail
    exact bodyPost_ret (v := .tuple #[.string (s.extract 0 k), .string (s.extract (k + 1) s.size), .bool true]) (by simp [results, Tryd.results64, go_sem, *]) rfl ⟨⟨true, by rw [HW.out, HR.out]⟩, ⟨rfl, rfl, rfl, Nat.le_refl _, fun _ _ => rfl⟩⟩
  · rw [if_neg hl] at C
    have hk : blankAt s.data.toList = s.size := by omega
    have HW : Hid (wordOf s = s) := by show _ = _; rw [wordOf, hk]; exact ByteArray.extract_zero_size
    have HR : Hid (restOf s = ⟨#[]⟩) := by show _ = _; rw [restOf, if_neg hl]
    clear hi hk
    go_enter Tryd.func64, Tryd.ntmps64
    go_wp2_with fail
    refine C.mono ?_
    rintro e w1 ⟨rfl, rfl⟩
    go_wp2_with fail
    exact bodyPost_ret (v := .tuple #[.string s, .string ⟨#[]⟩, .bool false]) (by simp [results, Tryd.results64, go_sem, *]) rfl ⟨⟨false, by rw [HW.out, HR.out]⟩, Below.refl _ _⟩
set_option maxRecDepth 100000 in
theorem cut_any (s : ByteArray) (w : World) (hs : s.size ≤ 2097152) :
    Calls Tryd.prog 48 #[.string s, .string ⟨#[32]⟩] w fun e w' => (∃ b : Bool, e = .returned (.tuple #[.string (wordOf s), .string (restOf s), .bool b])) ∧ Below w.heap.size w w' := by
  go_enter Tryd.func48, Tryd.ntmps48
  go_wp2_with fail
  refine (cut_lite s w hs).mono ?_
  rintro e w1 ⟨⟨b, rfl⟩, hb⟩
  go_wp2_with fail
  exact bodyPost_ret (v := .tuple #[.string (wordOf s), .string (restOf s), .bool b]) (by simp [results, Tryd.results48, go_sem, *]) rfl ⟨⟨b, rfl⟩, hb⟩
end Go.Proofs.YtadjhnaiphnpoaaDoor
