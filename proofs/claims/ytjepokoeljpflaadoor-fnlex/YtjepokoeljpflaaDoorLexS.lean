/- The model's own reading of words: letters, digits, what stands between words. -/
import Derived.Test.YtjepokoeljpflaaDoorLexP
import Derived.Test.YtjepokoeljpflaaDoorInW
namespace Go.Proofs.YtjepokoeljpflaaDoor
open Go.RowKit

set_option maxRecDepth 100000 in
set_option maxHeartbeats 800000 in
theorem letter_any (b : UInt8) (w : World) :
    Calls Tryd.prog 39 #[.int .u8 b.toNat] w fun e w' => e = .returned (.bool (isL b)) ∧ w = w' := by
  have hlt := b.toNat_lt
  have HL : Hid (isL b = (decide (97 ≤ b.toNat ∧ b.toNat ≤ 122) || decide (65 ≤ b.toNat ∧ b.toNat ≤ 90) || decide (b.toNat = 95))) := rfl
  by_cases h1 : 97 ≤ b.toNat ∧ b.toNat ≤ 122
  · have H : Hid (isL b = true) := by show isL b = true; rw [HL.out]; simp [h1]
    obtain ⟨a1, a2⟩ := h1
    go_enter Tryd.func39, Tryd.ntmps39
    go_wp2_with (first | (go_at_call 51; refine (in_yes _ _ _ _ (by omega)).mono ?_; rintro e w' ⟨rfl, rfl⟩) | (go_at_call 51; refine (in_no _ _ _ _ (by omega)).mono ?_; rintro e w' ⟨rfl, rfl⟩))
    go_ret
    exact ⟨ret_bool H.out.symm, rfl⟩
  · by_cases h2 : 65 ≤ b.toNat ∧ b.toNat ≤ 90
    · have H : Hid (isL b = true) := by show isL b = true; rw [HL.out]; simp [h2]
      obtain ⟨a1, a2⟩ := h2
      go_enter Tryd.func39, Tryd.ntmps39
      go_wp2_with (first | (go_at_call 51; refine (in_yes _ _ _ _ (by omega)).mono ?_; rintro e w' ⟨rfl, rfl⟩) | (go_at_call 51; refine (in_no _ _ _ _ (by omega)).mono ?_; rintro e w' ⟨rfl, rfl⟩))
      go_ret
      exact ⟨ret_bool H.out.symm, rfl⟩
    · by_cases h3 : b.toNat = 95
      · have H : Hid (isL b = true) := by show isL b = true; rw [HL.out]; simp [h3]
        go_enter Tryd.func39, Tryd.ntmps39
        go_wp2_with (first | (go_at_call 51; refine (in_yes _ _ _ _ (by omega)).mono ?_; rintro e w' ⟨rfl, rfl⟩) | (go_at_call 51; refine (in_no _ _ _ _ (by omega)).mono ?_; rintro e w' ⟨rfl, rfl⟩))
        go_ret
        exact ⟨ret_bool H.out.symm, rfl⟩
      · have H : Hid (isL b = false) := by show isL b = false; rw [HL.out]; simp [h1, h2, h3]
        go_enter Tryd.func39, Tryd.ntmps39
        go_wp2_with (first | (go_at_call 51; refine (in_yes _ _ _ _ (by omega)).mono ?_; rintro e w' ⟨rfl, rfl⟩) | (go_at_call 51; refine (in_no _ _ _ _ (by omega)).mono ?_; rintro e w' ⟨rfl, rfl⟩))
        go_ret
        exact ⟨ret_bool (by rw [H.out]; simp; omega), rfl⟩
theorem digit_any (b : UInt8) (w : World) :
    Calls Tryd.prog 40 #[.int .u8 b.toNat] w fun e w' => e = .returned (.bool (isD b)) ∧ w = w' := by
  have hlt := b.toNat_lt
  by_cases h1 : 48 ≤ b.toNat ∧ b.toNat ≤ 57
  · have H : Hid (isD b = true) := by show isD b = true; simp [isD, h1]
    go_enter Tryd.func40, Tryd.ntmps40
    go_wp2_with fail
    refine (in_yes _ _ _ _ (by omega)).mono ?_
    rintro e w' ⟨rfl, rfl⟩
    go_wp2_with fail
    go_ret
    exact ⟨ret_bool H.out.symm, rfl⟩
  · have H : Hid (isD b = false) := by show isD b = false; simp only [isD, decide_eq_false_iff_not]; exact h1
    go_enter Tryd.func40, Tryd.ntmps40
    go_wp2_with fail
    refine (in_no _ _ _ _ (by omega)).mono ?_
    rintro e w' ⟨rfl, rfl⟩
    go_wp2_with fail
    go_ret
    exact ⟨ret_bool H.out.symm, rfl⟩

theorem beq_no {a b : Int} (h : ¬ a = b) : (a == b) = false := by simp [h]

set_option maxRecDepth 100000 in
set_option maxHeartbeats 2000000 in
theorem skip_spec (s : ByteArray) (i ln : Nat) (w : World) (hs : s.size ≤ 1048576) (hi : i ≤ s.size) (hln : ln ≤ 1048577) :
    Calls Tryd.prog 27 #[.string s, .int .i64 i, .int .i64 ln] w fun e w' => e = .returned (.tuple #[.int .i64 ((skipAll s i ln).1 : Nat), .int .i64 ((skipAll s i ln).2 : Nat)]) ∧ w = w' := by
  go_enter Tryd.func27, Tryd.ntmps27
  go_wp2_with fail
  go_loop [1, 2] (fun a b => ∃ j m : Nat, a = .int .i64 j ∧ b = .int .i64 m ∧ j ≤ s.size ∧ m ≤ 1048577 + j ∧ skipAll s j m = skipAll s i ln) (fun a _ => s.size - (intOf a).toNat)
  case atStart => exact ⟨i, ln, rfl, rfl, hi, by omega, rfl⟩
  case round =>
    obtain ⟨j, m, rfl, rfl, hj, hm, he⟩ := hrel
    by_cases hlt : j < s.size
    · by_cases h10 : s[j].toNat = 10
      · have HE : Hid (skipAll s (j + 1) (m + 1) = skipAll s i ln) := (skip_nl hlt h10).trans he
        clear he
        go_wp2_with fail
        go_round
        case rel => exact ⟨j + 1, m + 1, by go_num, by go_num, by omega, by omega, HE.out⟩
        case measure => simp [intOf]; omega
      · by_cases h32 : s[j].toNat = 32
        · have HE : Hid (skipAll s (j + 1) m = skipAll s i ln) := (skip_bl hlt (.inl h32)).trans he
          clear he
          go_wp2_with fail
          go_round
          case rel => exact ⟨j + 1, m, by go_num, by go_num, by omega, by omega, HE.out⟩
          case measure => simp [intOf]; omega
        · by_cases h9 : s[j].toNat = 9
          · have HE : Hid (skipAll s (j + 1) m = skipAll s i ln) := (skip_bl hlt (.inr h9)).trans he
            clear he
            go_wp2_with fail
            go_round
            case rel => exact ⟨j + 1, m, by go_num, by go_num, by omega, by omega, HE.out⟩
            case measure => simp [intOf]; omega
          · by_cases h45 : s[j].toNat = 45
            · by_cases hl2 : j + 1 < s.size
              · by_cases h45b : s[j + 1].toNat = 45
                · have HE : Hid (skipAll s (endp ne10 s j) m = skipAll s i ln) := (skip_cm hl2 h45 h45b).trans he
                  have HD : Hid (j + 1 ≤ endp ne10 s j) := endp_dash hlt h45
                  clear he
                  go_wp2_with fail
                  go_loop [1] (fun a => ∃ k : Nat, a = .int .i64 k ∧ j ≤ k ∧ k ≤ s.size ∧ endp ne10 s k = endp ne10 s j) (fun a => s.size - (intOf a).toNat)
                  case atStart => exact ⟨j, rfl, Nat.le_refl _, hj, rfl⟩
                  case round =>
                    obtain ⟨k, rfl, hjk, hk, hek⟩ := hrel
                    have HK : Hid (endp ne10 s k = endp ne10 s j) := hek
                    clear hek
                    by_cases hkl : k < s.size
                    · by_cases hk10 : s[k].toNat = 10
                      · go_wp2_with fail
                        have e1 : endp ne10 s k = k := endp_no hkl (by simp [ne10, hk10])
                        have e2 := HK.out
                        have e3 := HD.out
                        have e4 := HE.out
                        rw [e1] at e2
                        rw [← e2] at e3 e4
                        go_round
                        case rel => exact ⟨k, m, rfl, rfl, hk, by omega, e4⟩
                        case measure => simp [intOf]; omega
                      · go_wp2_with fail
                        have e1 : endp ne10 s (k + 1) = endp ne10 s k := endp_lt hkl (by simp [ne10, hk10])
                        go_round
                        case rel => exact ⟨k + 1, by go_num, by omega, by omega, e1.trans HK.out⟩
                        case measure => simp [intOf]; omega
                    · go_wp2_with fail
                      have e1 : endp ne10 s k = k := endp_out hkl
                      have e2 := HK.out
                      have e3 := HD.out
                      have e4 := HE.out
                      rw [e1] at e2
                      rw [← e2] at e3 e4
                      go_round
                      case rel => exact ⟨k, m, rfl, rfl, hk, by omega, e4⟩
                      case measure => simp [intOf]; omega
                · have HE : Hid (skipAll s i ln = (j, m)) := he.symm.trans (skip_no hlt h10 (by omega) (fun _ => by omega))
                  clear he
                  go_wp2_with fail
                  go_ret2
                  exact ⟨by rw [HE.out]; rfl, rfl⟩
              · have HE : Hid (skipAll s i ln = (j, m)) := he.symm.trans (skip_no hlt h10 (by omega) (fun h => absurd h hl2))
                clear he
                go_wp2_with fail
                go_ret2
                exact ⟨by rw [HE.out]; rfl, rfl⟩
            · have HE : Hid (skipAll s i ln = (j, m)) := he.symm.trans (skip_no hlt h10 (by omega) (fun _ => by omega))
              have hb : ((s[j].toNat : Int) == 45) = false := beq_no (by omega)
              have hb9 : ((s[j].toNat : Int) == 9) = false := beq_no (by omega)
              have hb32 : ((s[j].toNat : Int) == 32) = false := beq_no (by omega)
              clear he
              go_wp2_with fail
              go_ret2
              exact ⟨by rw [HE.out]; rfl, rfl⟩
    · have HE : Hid (skipAll s i ln = (j, m)) := he.symm.trans (skip_end hlt)
      clear he
      go_wp2_with fail
      go_ret2
      exact ⟨by rw [HE.out]; rfl, rfl⟩
end Go.Proofs.YtjepokoeljpflaaDoor
