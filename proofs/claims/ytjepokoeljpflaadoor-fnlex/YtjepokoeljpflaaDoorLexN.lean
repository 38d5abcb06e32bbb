/- The model's own reading of a number and of a text in quotes. -/
import Derived.Test.YtjepokoeljpflaaDoorLexS
import Derived.Test.YtjepokoeljpflaaDoorLexQ
import Derived.Test.YtjepokoeljpflaaDoorQuoteW
namespace Go.Proofs.YtjepokoeljpflaaDoor
open Go.RowKit

def numV : Option (Nat × Nat) → Value
  | some (n, k) => .tuple #[.int .i64 n, .int .i64 k]
  | none => .tuple #[.int .i64 0, .int .i64 (-1)]
def strV : Option (List UInt8 × Nat) → Value
  | some (l, k) => .tuple #[.string ⟨l.toArray⟩, .int .i64 k]
  | none => .tuple #[.string ⟨#[]⟩, .int .i64 (-1)]

set_option maxRecDepth 100000 in
set_option maxHeartbeats 2000000 in
theorem number_any (s : ByteArray) (i : Nat) (w : World) (hs : s.size ≤ 1048576) (hi : i ≤ s.size) :
    Calls Tryd.prog 41 #[.string s, .int .i64 i] w fun e w' => e = .returned (numV (numAt s i)) ∧ w = w' := by
  go_enter Tryd.func41, Tryd.ntmps41
  go_wp2_with fail
  go_loop [6, 7] (fun a b => ∃ n k : Nat, a = .int .i64 n ∧ b = .int .i64 k ∧ i ≤ k ∧ k ≤ s.size ∧ k ≤ i + 18 ∧ n < 10 ^ (k - i) ∧ n = numVal (cut s i k) ∧ endp isD s k = endp isD s i) (fun _ b => s.size - (intOf b).toNat)
  case atStart => exact ⟨0, i, rfl, rfl, Nat.le_refl _, hi, by omega, by simp, by rw [cut_self]; rfl, rfl⟩
  case round =>
    obtain ⟨n, k, rfl, rfl, hik, hk, hk18, hn, hv, he⟩ := hrel
    have hn18 : n < 1000000000000000000 := Nat.lt_of_lt_of_le hn (Nat.le_trans (Nat.pow_le_pow_right (by omega) (show k - i ≤ 18 by omega)) (by decide))
    by_cases hlt : k < s.size
    · cases hd : isD s[k]
      · have e1 : endp isD s k = k := endp_no hlt hd
        have HN : Hid (numAt s i = if 999999999999 < n then none else some (n, k)) := by
          show numAt s i = _
          unfold numAt
          rw [← he, e1, if_neg (by omega), ← hv]
        clear hv he e1 hn
        by_cases hbig : 999999999999 < n
        · go_wp2_with fail
          refine (digit_any s[k] _).mono ?_
          rintro e w1 ⟨rfl, rfl⟩
          rw [hd]
          go_wp2_with fail
          go_ret2
          exact ⟨by rw [HN.out, if_pos hbig]; rfl, rfl⟩
        · have hb' : n ≤ 999999999999 := by omega
          go_wp2_with fail
          refine (digit_any s[k] _).mono ?_
          rintro e w1 ⟨rfl, rfl⟩
          rw [hd]
          go_wp2_with fail
          go_ret2
          exact ⟨by rw [HN.out, if_neg hbig]; rfl, rfl⟩
      · have e1 : endp isD s (k + 1) = endp isD s k := endp_lt hlt hd
        have hdd : 48 ≤ s[k].toNat ∧ s[k].toNat ≤ 57 := by simpa [isD] using hd
        by_cases h18 : k = i + 18
        · have HN : Hid (numAt s i = none) := by
            show numAt s i = none
            unfold numAt
            have := endp_ge isD s (k + 1)
            rw [if_pos (by omega)]
          have h18' : i + 18 ≤ k := by omega
          clear hv he e1 hn h18
          go_wp2_with fail
          refine (digit_any s[k] _).mono ?_
          rintro e w1 ⟨rfl, rfl⟩
          rw [hd]
          go_wp2_with fail
          go_ret2
          exact ⟨by rw [HN.out]; rfl, rfl⟩
        · have h18' : k < i + 18 := by omega
          have hn17 : n < 100000000000000000 := Nat.lt_of_lt_of_le hn (Nat.le_trans (Nat.pow_le_pow_right (by omega) (show k - i ≤ 17 by omega)) (by decide))
          have HV : Hid (10 * n + (s[k].toNat - 48) = numVal (cut s i (k + 1))) := by
            show _ = _
            rw [cut_succ s i k hik hlt, numVal_snoc, ← hv]
          have HE : Hid (endp isD s (k + 1) = endp isD s i) := e1.trans he
          have HN : Hid (10 * n + (s[k].toNat - 48) < 10 ^ (k + 1 - i)) := by
            show _ < _
            rw [show k + 1 - i = (k - i) + 1 by omega, Nat.pow_succ]; omega
          obtain ⟨hd1, hd2⟩ := hdd
          clear hv he e1 hn h18
          go_wp2_with fail
          refine (digit_any s[k] _).mono ?_
          rintro e w1 ⟨rfl, rfl⟩
          rw [hd]
          go_wp2_with fail
          go_round
          case rel => exact ⟨10 * n + (s[k].toNat - 48), k + 1, by go_num, by go_num, by omega, by omega, by omega, HN.out, HV.out, HE.out⟩
          case measure => simp [intOf]; omega
    · have e1 : endp isD s k = k := endp_out hlt
      have HN : Hid (numAt s i = if 999999999999 < n then none else some (n, k)) := by
        show numAt s i = _
        unfold numAt
        rw [← he, e1, if_neg (by omega), ← hv]
      clear hv he e1 hn
      by_cases hbig : 999999999999 < n
      · go_wp2_with fail
        go_ret2
        exact ⟨by rw [HN.out, if_pos hbig]; rfl, rfl⟩
      · have hb' : n ≤ 999999999999 := by omega
        go_wp2_with fail
        go_ret2
        exact ⟨by rw [HN.out, if_neg hbig]; rfl, rfl⟩
end Go.Proofs.YtjepokoeljpflaaDoor
