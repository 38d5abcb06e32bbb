/- The lexer's words: signs. -/
import Derived.Test.YtjepokoeljpflaaDoorLxE
namespace Go.Proofs.YtjepokoeljpflaaDoor
open Go.RowKit

theorem pair_list (s : ByteArray) (i : Nat) (h : i + 2 ≤ s.size) : (s.extract i (i + 2)).toList = [s[i], s[i + 1]] := by
  rw [ByteArray.toList_eq]
  have e := Lib.extract_data s i (i + 2)
  rw [show i + 2 - i = 2 by omega, cons_at s i (by omega), List.take_succ_cons, cons_at s (i + 1) (by omega), List.take_succ_cons, List.take_zero] at e
  exact e
theorem signW_two (s : ByteArray) (i : Nat) (h : i + 2 ≤ s.size) : signW s i = if (twoL.any fun x => (s.extract i (i + 2)).toList == x) = true then 2 else if one s[i] = true then 1 else 0 := by
  rw [pair_list s i h]
  unfold signW two
  rw [dif_pos (by omega)]
  have e : (twoL.any fun t => t == [s[i], s[i + 1]]) = (twoL.any fun x => [s[i], s[i + 1]] == x) := by
    congr 1; funext x; exact BEq.comm
  rw [e]
theorem signW_last (s : ByteArray) (i : Nat) (hi : i < s.size) (h : ¬ i + 2 ≤ s.size) : signW s i = if one s[i] = true then 1 else 0 := by
  unfold signW
  rw [dif_neg (by omega), dif_pos hi]

set_option maxRecDepth 100000 in
set_option maxHeartbeats 4000000 in
theorem width_any (B c : Nat) (s : ByteArray) (i ln : Nat) (w : World) (hL : Lx w B c s i ln) (hi : i < s.size) (hs : s.size ≤ 1048576) :
    Calls Tryd.prog 50 #[.pointer (some ⟨c, 0, none⟩)] w fun e w' => e = .returned (.int .i64 (signW s i : Nat)) ∧ ∃ n, w' = w.drewN n := by
  have c0 := hL.c0
  have c1 := hL.c1
  have j5 : wrap64 ((i : Int) + 2) = (i : Int) + 2 := IntWalk.wrap64_in _ ⟨by omega, by omega⟩
  have j6 : IntKind.i64.wrap ((i : Int) + 2) = (i : Int) + 2 := wrap_k _ (by omega) (by omega)
  have j4 : ((i : Int) + 2).toNat = i + 2 := by omega
  have hclt := hL.lt
  go_enter Tryd.func50, Tryd.ntmps50
  have HL : Hid (Lx w B c s i ln) := hL
  have HB : Hid (((((clsN s[i].toNat : Nat) : Int) == 8) = one s[i])) := (cls_b s[i]).2.2.2.2.1
  clear hL
  by_cases h2 : i + 2 ≤ s.size
  · have k1 : (i : Int) + 2 ≤ s.size := by omega
    have k0 : (i : Int) ≤ (i : Int) + 2 := by omega
    have HS : Hid (signW s i = if (twoL.any fun x => (s.extract i (i + 2)).toList == x) = true then 2 else if one s[i] = true then 1 else 0) := signW_two s i h2
    go_wp2_with fail
    go_quiet (fail)
    go_wp2_with fail
    go_quiet (fail)
    generalize s.extract i (i + 2) = t at *
    have hc := HL.out.cls s[i]
    have hb := HB.out
    have hb256 : s[i].toNat < 256 := s[i].toNat_lt
    cases q0 : (t.toList == [61, 61])
    rotate_left
    · go_wp2_with fail
      go_ret
      exact ⟨ret_int (by rw [HS.out]; simp [twoL, *]), by first | exact ⟨_, rfl⟩ | exact ⟨_, drewN_drewN _ _ _⟩⟩
    cases q1 : (t.toList == [126, 61])
    rotate_left
    · go_wp2_with fail
      go_ret
      exact ⟨ret_int (by rw [HS.out]; simp [twoL, *]), by first | exact ⟨_, rfl⟩ | exact ⟨_, drewN_drewN _ _ _⟩⟩
    cases q2 : (t.toList == [60, 61])
    rotate_left
    · go_wp2_with fail
      go_ret
      exact ⟨ret_int (by rw [HS.out]; simp [twoL, *]), by first | exact ⟨_, rfl⟩ | exact ⟨_, drewN_drewN _ _ _⟩⟩
    cases q3 : (t.toList == [62, 61])
    rotate_left
    · go_wp2_with fail
      go_ret
      exact ⟨ret_int (by rw [HS.out]; simp [twoL, *]), by first | exact ⟨_, rfl⟩ | exact ⟨_, drewN_drewN _ _ _⟩⟩
    cases q4 : (t.toList == [47, 47])
    rotate_left
    · go_wp2_with fail
      go_ret
      exact ⟨ret_int (by rw [HS.out]; simp [twoL, *]), by first | exact ⟨_, rfl⟩ | exact ⟨_, drewN_drewN _ _ _⟩⟩
    cases q5 : (t.toList == [46, 46])
    rotate_left
    · go_wp2_with fail
      go_ret
      exact ⟨ret_int (by rw [HS.out]; simp [twoL, *]), by first | exact ⟨_, rfl⟩ | exact ⟨_, drewN_drewN _ _ _⟩⟩
    have HS1 : Hid (signW s i = if one s[i] = true then 1 else 0) := by show _ = _; rw [HS.out, if_neg (by simp [twoL, *])]
    clear HS
    cases ho : one s[i]
    · rw [ho] at hb
      rw [ho] at HS1
      clear ho
      go_wp2_with fail
      go_quiet (fail)
      go_wp2_with fail
      go_ret
      exact ⟨ret_int (by rw [HS1.out]; rfl), by first | exact ⟨_, rfl⟩ | exact ⟨_, drewN_drewN _ _ _⟩ | (rw [drewN_drewN]; exact ⟨_, drewN_drewN _ _ _⟩)⟩
    · rw [ho] at hb
      rw [ho] at HS1
      clear ho
      go_wp2_with fail
      go_quiet (fail)
      go_wp2_with fail
      go_ret
      exact ⟨ret_int (by rw [HS1.out]; rfl), by first | exact ⟨_, rfl⟩ | exact ⟨_, drewN_drewN _ _ _⟩ | (rw [drewN_drewN]; exact ⟨_, drewN_drewN _ _ _⟩)⟩
  · have k1 : ¬ ((i : Int) + 2 ≤ s.size) := by omega
    have HS : Hid (signW s i = if one s[i] = true then 1 else 0) := signW_last s i hi h2
    go_wp2_with fail
    go_quiet (fail)
    have hc := HL.out.cls s[i]
    have hb := HB.out
    have hb256 : s[i].toNat < 256 := s[i].toNat_lt
    cases ho : one s[i]
    · rw [ho] at hb
      rw [ho] at HS
      clear ho
      go_wp2_with fail
      go_quiet (fail)
      go_wp2_with fail
      go_ret
      exact ⟨ret_int (by rw [HS.out]; rfl), by first | exact ⟨_, rfl⟩ | exact ⟨_, drewN_drewN _ _ _⟩ | (rw [drewN_drewN]; exact ⟨_, drewN_drewN _ _ _⟩)⟩
    · rw [ho] at hb
      rw [ho] at HS
      clear ho
      go_wp2_with fail
      go_quiet (fail)
      go_wp2_with fail
      go_ret
      exact ⟨ret_int (by rw [HS.out]; rfl), by first | exact ⟨_, rfl⟩ | exact ⟨_, drewN_drewN _ _ _⟩ | (rw [drewN_drewN]; exact ⟨_, drewN_drewN _ _ _⟩)⟩
end Go.Proofs.YtjepokoeljpflaaDoor
