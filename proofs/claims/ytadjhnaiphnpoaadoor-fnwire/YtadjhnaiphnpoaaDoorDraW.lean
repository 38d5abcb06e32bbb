/- The draw of a program's text. -/
import Derived.Test.YtadjhnaiphnpoaaDoorDraS
import Derived.Test.YtadjhnaiphnpoaaDoorCmP
import Derived.Test.YtadjhnaiphnpoaaDoorDecW
namespace Go.Proofs.YtadjhnaiphnpoaaDoor
open Go.RowKit

set_option maxRecDepth 100000 in
set_option maxHeartbeats 1600000 in
theorem source6_any (z : Int) (h1 : 0 ≤ z) (h2 : z ≤ 6) : TextDraw 81 z 45000 := by
  intro B c w hC
  have hd0 := Drawn.refl hC
  go_enter Tryd.func81, Tryd.ntmps81
  go_wp2_with fail
  go_loopw [5, 6] (fun s x wr => ∃ (u : ByteArray) (i : Nat), s = .string u ∧ x = .int .i64 i ∧ u.size ≤ 100 + 7006 * i ∧ (i : Int) ≤ z ∧ Drawn B c w wr) (fun _ x _ => z.toNat - (RowKit.intOf x).toNat)
  case atStart => exact ⟨_, 0, rfl, rfl, by decide, by omega, hd0⟩
  case round =>
    obtain ⟨u, i, rfl, rfl, hu, hi, hd⟩ := hrel
    by_cases hlt : (i : Int) < z
    · go_wp2_with fail
      refine (statText_any 2 (by omega) (by omega) B c _ hd.cur).mono ?_
      rintro e w1 ⟨s, rfl, hs, hd1⟩
      have hd1' := hd.trans hd1
      have hlt1 := cur_lt hd1'.cur
      go_wp2_with fail
      refine (pick_any B c enS w1.heap.size 4 _ (cur_alloc hd1'.cur _) (by omega) (by decide) (by decide) (has_lits w1 _ enS)).mono ?_
      rintro e w2 ⟨t, rfl, ht, hd2⟩
      have ht' := enS_le t ht
      clear ht
      have hd2' := (hd1'.alloc _).trans hd2
      go_wp2_with fail
      go_roundw
      case rel => exact ⟨_, i + 1, rfl, by go_num, by simp only [ByteArray.size_append]; omega, by omega, hd2'⟩
      case measure => simp [intOf]; omega
    · go_wp2_with fail
      go_ret
      exact ⟨_, rfl, by omega, hd⟩

set_option maxRecDepth 100000 in
set_option maxHeartbeats 6400000 in
theorem program_any (B c : Nat) (w : World) (hC : Cur w B c) : Calls Tryd.prog 67 #[.pointer (some ⟨c, 0, none⟩)] w fun e w' => ∃ s : ByteArray, e = .returned (.string s) ∧ s.size ≤ 50000 ∧ Drawn B c w w' := by
  have hd0 := Drawn.refl hC
  go_enter Tryd.func67, Tryd.ntmps67
  go_wp2_with fail
  refine (below_any B c 8 _ hd0.cur (by decide)).mono ?_
  rintro e w1 ⟨n, rfl, hn0, _, hn1, hd1⟩
  have hn := hn1 (by decide)
  clear hn1
  have hd1' := hd0.trans hd1
  clear hd0 hd1
  obtain rfl | rfl | rfl | rfl | rfl | h5 : n = 0 ∨ n = 1 ∨ n = 2 ∨ n = 3 ∨ n = 4 ∨ 5 ≤ n := by omega
  · go_wp2_with fail
    refine (below_any B c 8 _ hd1'.cur (by decide)).mono ?_
    rintro e u2 ⟨x2, rfl, hx2a, _, hx2c, hd2⟩
    have hx2b := hx2c (by decide)
    clear hx2c
    have hd2' := hd1'.trans hd2
    go_wp2_with fail
    refine (dec_spec x2 (by omega) (by omega) _).mono ?_
    rintro e v2 ⟨rfl, rfl⟩
    rw [show (⟨(Lib.itoa x2).toArray⟩ : ByteArray) = numT x2 from rfl]
    have hz2 := numT_size x2 (by omega) (by omega)
    generalize numT x2 = t2 at *
    go_wp2_with fail
    refine (below_any B c 40 _ hd2'.cur (by decide)).mono ?_
    rintro e u3 ⟨x3, rfl, hx3a, _, hx3c, hd3⟩
    have hx3b := hx3c (by decide)
    clear hx3c
    have hd3' := hd2'.trans hd3
    go_wp2_with fail
    refine (dec_spec x3 (by omega) (by omega) _).mono ?_
    rintro e v3 ⟨rfl, rfl⟩
    rw [show (⟨(Lib.itoa x3).toArray⟩ : ByteArray) = numT x3 from rfl]
    have hz3 := numT_size x3 (by omega) (by omega)
    generalize numT x3 = t3 at *
    go_wp2_with fail
    go_ret
    exact ⟨_, rfl, by simp only [ByteArray.size_append, szL, List.size_toArray, List.length_cons, List.length_nil]; omega, hd3'⟩
  · go_wp2_with fail
    refine (below_any B c 9 _ hd1'.cur (by decide)).mono ?_
    rintro e u2 ⟨x2, rfl, hx2a, _, hx2c, hd2⟩
    have hx2b := hx2c (by decide)
    clear hx2c
    have hd2' := hd1'.trans hd2
    go_wp2_with fail
    refine (dec_spec x2 (by omega) (by omega) _).mono ?_
    rintro e v2 ⟨rfl, rfl⟩
    rw [show (⟨(Lib.itoa x2).toArray⟩ : ByteArray) = numT x2 from rfl]
    have hz2 := numT_size x2 (by omega) (by omega)
    generalize numT x2 = t2 at *
    go_wp2_with fail
    refine (below_any B c 9 _ hd2'.cur (by decide)).mono ?_
    rintro e u3 ⟨x3, rfl, hx3a, _, hx3c, hd3⟩
    have hx3b := hx3c (by decide)
    clear hx3c
    have hd3' := hd2'.trans hd3
    go_wp2_with fail
    refine (dec_spec x3 (by omega) (by omega) _).mono ?_
    rintro e v3 ⟨rfl, rfl⟩
    rw [show (⟨(Lib.itoa x3).toArray⟩ : ByteArray) = numT x3 from rfl]
    have hz3 := numT_size x3 (by omega) (by omega)
    generalize numT x3 = t3 at *
    go_wp2_with fail
    go_ret
    exact ⟨_, rfl, by simp only [ByteArray.size_append, szL, List.size_toArray, List.length_cons, List.length_nil]; omega, hd3'⟩
  · go_wp2_with fail
    refine (expText_any 1 (by decide) (by decide) B c _ hd1'.cur).mono ?_
    rintro e w3 ⟨s, rfl, hs, hd3⟩
    go_wp2_with fail
    go_ret
    exact ⟨_, rfl, by simp only [ByteArray.size_append, szL, List.size_toArray, List.length_cons, List.length_nil]; omega, hd1'.trans hd3⟩
  · go_wp2_with fail
    refine (expText_any 1 (by decide) (by decide) B c _ hd1'.cur).mono ?_
    rintro e w3 ⟨s, rfl, hs, hd3⟩
    go_wp2_with fail
    go_ret
    exact ⟨_, rfl, by simp only [ByteArray.size_append, szL, List.size_toArray, List.length_cons, List.length_nil]; omega, hd1'.trans hd3⟩
  · go_wp2_with fail
    refine (below_any B c 4 _ hd1'.cur (by decide)).mono ?_
    rintro e u2 ⟨x2, rfl, hx2a, _, hx2c, hd2⟩
    have hx2b := hx2c (by decide)
    clear hx2c
    have hd2' := hd1'.trans hd2
    go_wp2_with fail
    refine (dec_spec x2 (by omega) (by omega) _).mono ?_
    rintro e v2 ⟨rfl, rfl⟩
    rw [show (⟨(Lib.itoa x2).toArray⟩ : ByteArray) = numT x2 from rfl]
    have hz2 := numT_size x2 (by omega) (by omega)
    generalize numT x2 = t2 at *
    go_wp2_with fail
    go_ret
    exact ⟨_, rfl, by simp only [ByteArray.size_append, szL, List.size_toArray, List.length_cons, List.length_nil]; omega, hd2'⟩
  · have n0 : ¬ n = 0 := by omega
    have n1 : ¬ n = 1 := by omega
    have n2 : ¬ n = 2 := by omega
    have n3 : ¬ n = 3 := by omega
    have n4 : ¬ n = 4 := by omega
    go_wp2_with fail
    refine (below_any B c 6 _ hd1'.cur (by decide)).mono ?_
    rintro e w2 ⟨x, rfl, hx0, _, hx1, hd2⟩
    have hx := hx1 (by decide)
    clear hx1
    have hd2' := hd1'.trans hd2
    go_wp2_with fail
    refine (source6_any (1 + x) (by omega) (by omega) B c _ hd2'.cur).mono ?_
    rintro e w3 ⟨s, rfl, hs, hd3⟩
    go_wp2_with fail
    go_ret
    exact ⟨_, rfl, by omega, hd2'.trans hd3⟩
end Go.Proofs.YtadjhnaiphnpoaaDoor
