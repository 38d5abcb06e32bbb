/- Glyphs: both functions' walks, one count. -/
import Derived.Test.YtdaemdomlmpfmaaDoorGlyphU
import Derived.Test.YtdaemdomlmpfmaaDoorGlyphP
import Derived.Laws.RangeAny
namespace Go.Proofs.YtdaemdomlmpfmaaDoor
open Go.RowKit

theorem gl_step (s : ByteArray) (b pos : Nat) (h : pos < s.size) : gl s (b + 1) pos = gl s b (pos + wd s pos) + 1 := by simp [gl, h]
theorem wd_le4 (s : ByteArray) (pos : Nat) : wd s pos ≤ 4 := by
  unfold wd; rw [dec_wid]; unfold wid Lib.decodeN
  repeat' split
  all_goals simp

set_option maxHeartbeats 800000 in
theorem glyphs_spec (s : ByteArray) (w : World) (hs : s.size ≤ 1048576) :
    Calls Tryd.prog 21 #[.string s] w fun e w' => e = .returned (.int .i64 (glyphs s : Nat)) ∧ Below w.heap.size w w' := by
  go_enter Tryd.func21, Tryd.ntmps21
  go_wp2_with fail
  go_loopw [3, 4] (fun n i wr => ∃ pos b cnt : Nat, pos ≤ s.size ∧ i = .int .i64 pos ∧ n = .int .i64 cnt ∧ cnt ≤ pos ∧ cnt + gl s b pos = glyphs s ∧ s.size ≤ pos + b ∧ Below w.heap.size w wr) (fun _ i _ => s.size - (intOf i).toNat)
  case atStart => exact ⟨0, s.size, 0, Nat.zero_le _, rfl, rfl, Nat.le_refl _, by simp [glyphs], by omega, Below.refl _ _⟩
  case round =>
    obtain ⟨pos, b, cnt, hp, rfl, rfl, hcp, hc, hb, hbl⟩ := hrel
    by_cases hlt : pos < s.size
    · have hw1 := wd_pos s pos
      have hw2 := wd_le s pos hlt
      have HC : Hid (cnt + gl s b pos = glyphs s) := hc
      clear hc
      go_wp2_with fail
      refine (glyph_any s pos hlt _ hs).mono ?_
      rintro e w1 ⟨rfl, hb1⟩
      rw [show (Utf8.decode s pos).2 = wd s pos from rfl]
      go_wp2_with fail
      go_roundw
      case rel =>
        cases b with
        | zero => omega
        | succ b =>
          have := HC.out
          rw [gl_step s b pos hlt] at this
          exact ⟨pos + wd s pos, b, cnt + 1, by omega, by go_num, by go_num, by omega, by omega, by omega, hbl.trans (hb1.mono hbl.size)⟩
      case measure => simp [intOf]; omega
    · rw [gl_end s b pos hlt] at hc
      have HC : Hid (cnt = glyphs s) := hc
      clear hc
      go_wp2_with fail
      go_ret
      exact ⟨ret_int (by rw [HC.out]), hbl⟩

set_option maxHeartbeats 800000 in
theorem pre_any (s p : ByteArray) (w : World) :
    Calls Tryd.prog 38 #[.string s, .string p] w fun e w' => e = .returned (.bool (preB s p)) ∧ w = w' := by
  by_cases h : p.size ≤ s.size
  · have e : Hid (preB s p = ((s.extract 0 p.size).toList == p.toList)) := by show preB s p = _; simp [preB, h]
    go_enter Tryd.func38, Tryd.ntmps38
    go_wp2
    go_ret
    exact ⟨ret_bool e.out.symm, rfl⟩
  · have e : Hid (preB s p = false) := by show preB s p = _; simp [preB, h]
    go_enter Tryd.func38, Tryd.ntmps38
    go_wp2
    go_ret
    exact ⟨ret_bool e.out.symm, rfl⟩

set_option maxRecDepth 1000000 in
set_option maxHeartbeats 800000 in
theorem glyphs_impl (s : ByteArray) (w : World) (hs : s.size ≤ 1048576) :
    Calls Tryd.prog 19 #[.string s] w fun e w' => e = .returned (.int .i64 (glyphs s : Nat)) ∧ ∃ pos, w' = w.iter s pos := by
  go_enter Tryd.func19, Tryd.ntmps19
  go_wp2
  go_loopw [3, 4] (fun n l wr => ∃ pos b cnt pts left : Nat, wr = w.iter s pos ∧ pos ≤ s.size ∧ n = .int .i64 pts ∧ l = .int .i64 left ∧ pts ≤ cnt ∧ cnt ≤ pos ∧ pts + left = cnt + (s.size - pos) ∧ cnt + gl s b pos = glyphs s ∧ s.size ≤ pos + b) (fun _ _ wr => s.size - wr.iterPos w.heap.size)
  case atStart => exact ⟨0, s.size, 0, 0, s.size, rfl, Nat.zero_le _, rfl, rfl, Nat.le_refl _, Nat.le_refl _, by omega, by simp [glyphs], by omega⟩
  case round =>
    obtain ⟨pos, b, cnt, pts, left, rfl, hp, rfl, rfl, hpc, hcp, hsum, hc, hb⟩ := hrel
    by_cases hlt : pos < s.size
    · have hnx : ∀ ty, (Instr.next (.pointer (some ⟨w.heap.size, 0, none⟩)) true ty).run Tryd.prog (w.iter s pos) = _ := fun ty => run_next_any w s pos ty hlt
      have hw1 := wd_pos s pos
      have hw2 := wd_le s pos hlt
      have ho := own_bytes s pos hlt
      rw [← pre_list] at ho
      have HO : Hid _ := ho
      have HC : Hid (cnt + gl s b pos = glyphs s) := hc
      have HS : Hid (pts + left = cnt + (s.size - pos)) := hsum
      clear hc ho hsum
      go_wp2_with fail
      refine (pre_any _ _ _).mono ?_
      rintro e w1 ⟨rfl, rfl⟩
      have HO2 := HO.out
      unfold cp at HO2
      clear HO
      generalize Utf8.encode ((Utf8.decode s pos).fst : Nat) = own at HO2 ⊢
      rw [show (Utf8.decode s pos).2 = wd s pos from rfl]
      rcases HO2 with ⟨h1, h2⟩ | ⟨h1, h2⟩
      · rw [h1]
        have hle : wd s pos ≤ left := by have := HS.out; omega
        have hll : left ≤ s.size + s.size := by have := HS.out; omega
        go_wp2_with fail
        go_roundw
        case rel =>
          cases b with
          | zero => omega
          | succ b =>
            have h3 := HC.out
            have h4 := HS.out
            rw [gl_step s b pos hlt] at h3
            exact ⟨pos + wd s pos, b, cnt + 1, pts + 1, left - wd s pos, rfl, by omega, by go_num, by go_num, by omega, by omega, by omega, by omega, by omega⟩
        case measure => simp; omega
      · rw [h1]
        go_wp2_with fail
        go_roundw
        case rel =>
          cases b with
          | zero => omega
          | succ b =>
            have h3 := HC.out
            have h4 := HS.out
            rw [gl_step s b pos hlt, h2] at h3
            exact ⟨pos + 1, b, cnt + 1, pts, left, rfl, by omega, by go_num, by go_num, by omega, by omega, by omega, by omega, by omega⟩
        case measure => simp; omega
    · have hnx : ∀ ty, (Instr.next (.pointer (some ⟨w.heap.size, 0, none⟩)) true ty).run Tryd.prog (w.iter s pos) = _ := fun ty => run_next_end w s pos ty hlt
      rw [gl_end s b pos hlt] at hc
      have HC : Hid (pts + left = glyphs s) := by show pts + left = glyphs s; omega
      have hll : pts + left ≤ s.size + s.size := by omega
      clear hc hsum
      go_wp2_with fail
      go_ret
      exact ⟨ret_int (by have := HC.out; omega), pos, rfl⟩
end Go.Proofs.YtdaemdomlmpfmaaDoor
