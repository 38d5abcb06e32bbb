/- The widths of code points, reckoned by four tests on the first byte; decimal digits from the right. No program in this text. -/
import Derived.Test.YtlmmomffanakiaaRows
import Derived.Lib.DecodeN
import Derived.Lib.ItoaNum
import Derived.Test.YtlmmomffanakiaaKit
import Derived.Test.YtlmmomffanakiaaJmB
namespace Go.Proofs.Ytlmmomffanakiaa
open Go.Lib
set_option linter.unusedVariables false
/-- the widths told by the draft's own road (four tests on the first byte) -/
def wid (n b0 b1 b2 b3 : Nat) : Nat := (decodeN n b0 b1 b2 b3).2

theorem wid_ascii (n b0 b1 b2 b3 : Nat) (h : b0 < 128) : wid n b0 b1 b2 b3 = 1 := by
  simp [wid, decodeN, h]

theorem wid_low (n b0 b1 b2 b3 : Nat) (h : b0 < 192) : wid n b0 b1 b2 b3 = 1 := by
  unfold wid decodeN
  repeat' split
  all_goals first | rfl | (exfalso; omega)

theorem wid_high (n b0 b1 b2 b3 : Nat) (h : 248 ≤ b0) (h' : b0 < 256) : wid n b0 b1 b2 b3 = 1 := by
  unfold wid decodeN
  repeat' split
  all_goals first | rfl | (exfalso; omega)

theorem wid_two (n b0 b1 b2 b3 : Nat) (h : 192 ≤ b0) (h' : b0 < 224) (h1 : b1 < 256) :
    wid n b0 b1 b2 b3 = if n < 2 then 1 else if ¬ (128 ≤ b1 ∧ b1 ≤ 191) then 1 else if 64 * (b0 - 192) + b1 - 128 < 128 then 1 else 2 := by
  unfold wid decodeN
  repeat' split
  all_goals first | rfl | (exfalso; omega)
theorem wid_three (n b0 b1 b2 b3 : Nat) (h : 224 ≤ b0) (h' : b0 < 240) (h1 : b1 < 256) (h2 : b2 < 256) :
    wid n b0 b1 b2 b3 = if n < 3 then 1 else if ¬ (128 ≤ b1 ∧ b1 ≤ 191) then 1 else if ¬ (128 ≤ b2 ∧ b2 ≤ 191) then 1 else
      if 64 * (64 * (b0 - 224) + b1 - 128) + b2 - 128 < 2048 ∨ (55296 ≤ 64 * (64 * (b0 - 224) + b1 - 128) + b2 - 128 ∧ 64 * (64 * (b0 - 224) + b1 - 128) + b2 - 128 ≤ 57343) then 1 else 3 := by
  unfold wid decodeN
  repeat' split
  all_goals first | rfl | (exfalso; omega)
theorem wid_four (n b0 b1 b2 b3 : Nat) (h : 240 ≤ b0) (h' : b0 < 248) (h1 : b1 < 256) (h2 : b2 < 256) (h3 : b3 < 256) :
    wid n b0 b1 b2 b3 = if n < 4 then 1 else if ¬ (128 ≤ b1 ∧ b1 ≤ 191) then 1 else if ¬ (128 ≤ b2 ∧ b2 ≤ 191) then 1 else if ¬ (128 ≤ b3 ∧ b3 ≤ 191) then 1 else
      if 64 * (64 * (64 * (b0 - 240) + b1 - 128) + b2 - 128) + b3 - 128 < 65536 ∨ 1114111 < 64 * (64 * (64 * (b0 - 240) + b1 - 128) + b2 - 128) + b3 - 128 then 1 else 4 := by
  unfold wid decodeN
  repeat' split
  all_goals first | rfl | (exfalso; omega)

/-- decimal digits: one step of the reckoning from the right. -/
theorem decDigits_step (U u : Nat) (out : List UInt8) (h : u ≠ 0) (hU : decDigits U = decDigits u ++ out) :
    (u / 10 ≠ 0 ∧ decDigits U = decDigits (u / 10) ++ (UInt8.ofNat (48 + u % 10) :: out)) ∨ (u / 10 = 0 ∧ decDigits U = UInt8.ofNat (48 + u % 10) :: out) := by
  by_cases h10 : u < 10
  · right
    refine ⟨by omega, ?_⟩
    rw [hU, decDigits, dif_pos h10, Nat.mod_eq_of_lt h10]; rfl
  · left
    refine ⟨by omega, ?_⟩
    rw [hU, decDigits, dif_neg h10]; simp
theorem decDigits_len (u : Nat) : ∀ k, u < 10 ^ (k + 1) → (decDigits u).length ≤ k + 1 := by
  intro k
  induction k generalizing u with
  | zero => intro h; rw [decDigits, dif_pos (by simpa using h)]; simp
  | succ k ih =>
    intro h
    by_cases h10 : u < 10
    · rw [decDigits, dif_pos h10]; simp
    · rw [decDigits, dif_neg h10]
      have := ih (u / 10) (by rw [Nat.pow_succ] at h; omega)
      simp; omega

theorem get_byte (s : ByteArray) (p : Nat) (h : p < s.size) : s.get! p = s[p] := by
  simp [ByteArray.get!, getElem!_pos, h]
  rfl
theorem dec_wid (s : ByteArray) (i : Nat) : (Utf8.decode s i).2 = wid (s.size - i) (s.get! i).toNat (s.get! (i + 1)).toNat (s.get! (i + 2)).toNat (s.get! (i + 3)).toNat := by
  rw [decode_at]; rfl
end Go.Proofs.Ytlmmomffanakiaa
namespace Go.Proofs.Ytlmmomffanakiaa
open Go.RowKit Go.Lib

/-- What is left of the number, and the digits that are told, at every round. -/
structure DecAt (U u : Nat) (out : List UInt8) : Prop where
  rest : u = U / 10 ^ out.length
  len : out.length ≤ 19
  said : (u ≠ 0 ∧ decDigits U = decDigits u ++ out) ∨ (u = 0 ∧ decDigits U = out)
theorem DecAt.start (U : Nat) (h : U ≠ 0) : DecAt U U [] := ⟨by simp, by simp, .inl ⟨h, by simp⟩⟩
theorem DecAt.step {U u : Nat} {out : List UInt8} (h : DecAt U u out) (hU : U < 10 ^ 19) (hu : u ≠ 0) : DecAt U (u / 10) (UInt8.ofNat (48 + u % 10) :: out) := by
  have hl : out.length < 19 := by
    have hr := h.rest
    by_cases e : out.length = 19
    · rw [e, Nat.div_eq_of_lt hU] at hr; exact absurd hr hu
    · have := h.len; omega
  refine ⟨?_, by simp; omega, ?_⟩
  · rw [List.length_cons, Nat.pow_succ, ← Nat.div_div_eq_div_mul, ← h.rest]
  · rcases h.said with ⟨_, hs⟩ | ⟨h0, _⟩
    · exact decDigits_step U u out hu hs
    · exact absurd h0 hu
def digs : ByteArray := ⟨#[48, 49, 50, 51, 52, 53, 54, 55, 56, 57]⟩
theorem dig_cons (d : Nat) (hd : d < 10) (out : List UInt8) : digs.extract d (d + 1) ++ ⟨out.toArray⟩ = ⟨(UInt8.ofNat (48 + d) :: out).toArray⟩ := by
  have : digs.extract d (d + 1) = ⟨[UInt8.ofNat (48 + d)].toArray⟩ := by
    revert d; intro d hd
    match d, hd with
    | 0, _ => rfl
    | 1, _ => rfl
    | 2, _ => rfl
    | 3, _ => rfl
    | 4, _ => rfl
    | 5, _ => rfl
    | 6, _ => rfl
    | 7, _ => rfl
    | 8, _ => rfl
    | 9, _ => rfl
  rw [this, ByteArray.mk_append_mk]; rfl
theorem minus_cons (out : List UInt8) : (⟨#[45]⟩ : ByteArray) ++ ⟨out.toArray⟩ = ⟨(45 :: out).toArray⟩ := by
  rw [show (⟨#[45]⟩ : ByteArray) = ⟨[45].toArray⟩ from rfl, ByteArray.mk_append_mk]; rfl
theorem str_eq {a b : ByteArray} (h : a = b) : Value.string a = .string b := by rw [h]
theorem ret_str {a b : ByteArray} (h : a = b) : Ending.returned (.string a) = .returned (.string b) := by rw [h]

set_option maxRecDepth 100000 in
set_option maxHeartbeats 1600000 in
theorem dec_spec (n : Int) (h0 : -9223372036854775808 ≤ n) (h1 : n ≤ 9223372036854775807) (w : World) :
    Calls Try.prog 69 #[.int .i64 n] w fun e w' => e = .returned (.string ⟨(itoa n).toArray⟩) ∧ w = w' := by
  rcases Int.lt_trichotomy n 0 with hn | hn | hn
  · have hz : (n == 0) = false := by simp; omega
    have hU : n.natAbs < 10 ^ 19 := by omega
    go_enter Try.func69, Try.ntmps69
    go_wp2
    go_loop [3, 4] (fun o m => ∃ (u : Nat) (out : List UInt8), m = .int .i64 (-(u : Int)) ∧ o = .string ⟨out.toArray⟩ ∧ u ≤ n.natAbs ∧ DecAt n.natAbs u out) (fun _ m => (intOf m).natAbs)
    case atStart => exact ⟨n.natAbs, [], by go_num, rfl, Nat.le_refl _, DecAt.start _ (by omega)⟩
    case round =>
      obtain ⟨u, out, rfl, rfl, hu, hd⟩ := hrel
      by_cases h10 : u = 0
      · have he : Hid (decDigits n.natAbs = out) := by
          rcases hd.said with ⟨h2, _⟩ | ⟨_, h2⟩
          · exact absurd h10 h2
          · exact h2
        have hl := hd.len
        subst h10
        clear hd
        go_wp2
        go_ret
        exact ⟨ret_str (by rw [itoa, if_pos (by omega), he.out]; exact minus_cons _), rfl⟩
      · have hs : Hid (DecAt n.natAbs (u / 10) (UInt8.ofNat (48 + u % 10) :: out)) := hd.step hU h10
        have hl := hd.len
        have hub : u ≤ 9223372036854775808 := by omega
        have hup : 0 < u := by omega
        have hm : (-(u : Int)).tmod 10 = -((u % 10 : Nat) : Int) := by rw [Int.neg_tmod, Int.tmod_eq_emod_of_nonneg (by omega)]; omega
        have hq : (-(u : Int)).tdiv 10 = -((u / 10 : Nat) : Int) := by rw [Int.neg_tdiv, Int.tdiv_eq_ediv_of_nonneg (by omega)]; omega
        clear hd
        by_cases hr : u % 10 = 0
        · have hm0 : Hid (u % 10 = 0) := hr
          rw [hr] at hm
          clear hr
          go_wp2
          go_round
          case rel => exact ⟨u / 10, _, by go_num, str_eq (by have h := dig_cons (u % 10) (by omega) out; simp only [hm0.out] at h ⊢; exact h), by omega, by have := hs.out; rw [hm0.out] at this; exact this⟩
          case measure => simp [intOf]; omega
        · go_wp2
          go_round
          case rel => exact ⟨u / 10, _, by go_num, str_eq (dig_cons (u % 10) (by omega) out), by omega, hs.out⟩
          case measure => simp [intOf]; omega
  · subst hn
    go_enter Try.func69, Try.ntmps69
    go_wp2
    go_ret
    exact ⟨ret_str (by simp [itoa, decDigits]), rfl⟩
  · have hz : (n == 0) = false := by simp; omega
    have hU : n.natAbs < 10 ^ 19 := by omega
    go_enter Try.func69, Try.ntmps69
    go_wp2
    go_loop [3, 4] (fun o m => ∃ (u : Nat) (out : List UInt8), m = .int .i64 u ∧ o = .string ⟨out.toArray⟩ ∧ u ≤ n.natAbs ∧ DecAt n.natAbs u out) (fun _ m => (intOf m).toNat)
    case atStart => exact ⟨n.natAbs, [], by go_num, rfl, Nat.le_refl _, DecAt.start _ (by omega)⟩
    case round =>
      obtain ⟨u, out, rfl, rfl, hu, hd⟩ := hrel
      by_cases h10 : u = 0
      · have he : Hid (decDigits n.natAbs = out) := by
          rcases hd.said with ⟨h2, _⟩ | ⟨_, h2⟩
          · exact absurd h10 h2
          · exact h2
        subst h10
        clear hd
        go_wp2
        go_ret
        exact ⟨ret_str (by rw [itoa, if_neg (by omega), show n.toNat = n.natAbs by omega, he.out]), rfl⟩
      · have hs : Hid (DecAt n.natAbs (u / 10) (UInt8.ofNat (48 + u % 10) :: out)) := hd.step hU h10
        have hl := hd.len
        have hub : u ≤ 9223372036854775807 := by omega
        have hup : 0 < u := by omega
        clear hd
        go_wp2
        go_round
        case rel => exact ⟨u / 10, _, by go_num, str_eq (dig_cons (u % 10) (by omega) out), by omega, hs.out⟩
        case measure => simp [intOf]; omega
end Go.Proofs.Ytlmmomffanakiaa
namespace Go.Proofs.Ytlmmomffanakiaa
open Go.RowKit

set_option maxRecDepth 100000 in
set_option maxHeartbeats 1600000 in
theorem quote_spec (s : ByteArray) (w : World) (hs : s.size ≤ 1048576) :
    Calls Try.prog 70 #[.string s] w fun e w' => e = .returned (.string ⟨(qb s.data.toList ++ [34]).toArray⟩) ∧ Below w.heap.size w w' := by
  obtain ⟨i0, hi, hz0, hz1, hz2⟩ := info_parts Try.info5
  go_enter Try.func70, Try.ntmps70
  go_wp2
  go_loopw [3, 4] (fun v i wr => ∃ k : Nat, k ≤ s.size ∧ i = .int .i64 k ∧ wr.ownsRow w.heap.size 5 1 v (qb (s.data.toList.take k)).length (bc (qb (s.data.toList.take k))) ∧ Below w.heap.size w wr) (fun _ i _ => s.size - (intOf i).toNat)
  case atStart => exact ⟨0, Nat.zero_le _, rfl, owns_lit1 w _ 34 _ rfl, (Below.refl _ _).alloc (Nat.le_refl _) _⟩
  case round =>
    obtain ⟨k, hk, rfl, hown, hb⟩ := hrel
    have hql := qb_take_len s k hk
    have hsz := hb.size
    by_cases hlt : k < s.size
    · have hqs := qb_step s k hlt
      have HQ : Hid (qb (s.data.toList.take (k + 1)) = qb (s.data.toList.take k) ++ esc s[k]) := hqs
      clear hqs
      by_cases h10 : s[k] = 10
      · have he : Hid (esc s[k] = [92, 110]) := esc_nl h10
        go_wp2_with (at_builtin; go_must (refine wpList_append_own _ rfl _ _ 22 rfl w.heap.size 5 i0 (.int .u8 0) 1 1 Try.underlying22 hi hz0 hz1 hz2 rfl (by decide) _ _ _ rfl (hown.alloc _) ⟨wr.heap.size, 0, none⟩ 2 2 (bc [92, 110]) rfl rfl ?c1 ?c2 ?c3 ?c4 ?c5 ?_))
        case c1 => exact lit_cells wr _ [92, 110]
        case c2 => exact bc_oneCell _
        case c3 => unfold maxLen; omega
        case c4 => omega
        case c5 => simp; omega
        intro v' w1 hown' hgrow _
        have hb' := below_app hb hsz hown hgrow
        have ho' := own_step hown' (HQ.out.trans (by rw [he.out])) rfl
        clear hown' hgrow he
        go_wp2
        go_roundw
        case rel => exact ⟨k + 1, by omega, by go_num, ho', hb'⟩
        case measure => simp [intOf]; omega
      · by_cases h34 : s[k] = 34
        · have he : Hid (esc s[k] = [92, s[k]]) := esc_q h10 (.inl h34)
          have h92 : ¬ s[k] = 92 := by rw [h34]; decide
          go_wp2_with (at_builtin; go_must (refine wpList_append_own _ rfl _ _ 22 rfl w.heap.size 5 i0 (.int .u8 0) 1 1 Try.underlying22 hi hz0 hz1 hz2 rfl (by decide) _ _ _ rfl (hown.alloc _) ⟨wr.heap.size, 0, none⟩ 2 2 (bc [92, 34]) rfl rfl ?c1 ?c2 ?c3 ?c4 ?c5 ?_))
          case c1 => exact lit_cells wr _ [92, 34]
          case c2 => exact bc_oneCell _
          case c3 => unfold maxLen; omega
          case c4 => omega
          case c5 => simp; omega
          intro v' w1 hown' hgrow _
          have hb' := below_app hb hsz hown hgrow
          have ho' := own_step hown' (HQ.out.trans (by rw [he.out, h34])) rfl
          clear hown' hgrow he
          go_wp2
          go_roundw
          case rel => exact ⟨k + 1, by omega, by go_num, ho', hb'⟩
          case measure => simp [intOf]; omega
        · by_cases h92 : s[k] = 92
          · have he : Hid (esc s[k] = [92, s[k]]) := esc_q h10 (.inr h92)
            go_wp2_with (at_builtin; go_must (refine wpList_append_own _ rfl _ _ 22 rfl w.heap.size 5 i0 (.int .u8 0) 1 1 Try.underlying22 hi hz0 hz1 hz2 rfl (by decide) _ _ _ rfl (hown.alloc _) ⟨wr.heap.size, 0, none⟩ 2 2 (bc [92, 92]) rfl rfl ?c1 ?c2 ?c3 ?c4 ?c5 ?_))
            case c1 => exact lit_cells wr _ [92, 92]
            case c2 => exact bc_oneCell _
            case c3 => unfold maxLen; omega
            case c4 => omega
            case c5 => simp; omega
            intro v' w1 hown' hgrow _
            have hb' := below_app hb hsz hown hgrow
            have ho' := own_step hown' (HQ.out.trans (by rw [he.out, h92])) rfl
            clear hown' hgrow he
            go_wp2
            go_roundw
            case rel => exact ⟨k + 1, by omega, by go_num, ho', hb'⟩
            case measure => simp [intOf]; omega
          · have he : Hid (esc s[k] = [s[k]]) := esc_o h10 (by simp [h34, h92])
            have n10 := u8_ne (n := 10) h10 rfl
            have n34 := u8_ne (n := 34) h34 rfl
            have n92 := u8_ne (n := 92) h92 rfl
            go_wp2_with (at_builtin; go_must (refine wpList_append_own _ rfl _ _ 22 rfl w.heap.size 5 i0 (.int .u8 0) 1 1 Try.underlying22 hi hz0 hz1 hz2 rfl (by decide) _ _ _ rfl (hown.alloc _) ⟨wr.heap.size, 0, none⟩ 1 1 (bc [s[k]]) rfl rfl ?c1 ?c2 ?c3 ?c4 ?c5 ?_))
            case c1 => exact lit_cells wr _ [s[k]]
            case c2 => exact bc_oneCell _
            case c3 => unfold maxLen; omega
            case c4 => omega
            case c5 => simp; omega
            intro v' w1 hown' hgrow _
            have hb' := below_app hb hsz hown hgrow
            have ho' := own_step hown' (HQ.out.trans (by rw [he.out])) rfl
            clear hown' hgrow he
            go_wp2
            go_roundw
            case rel => exact ⟨k + 1, by omega, by go_num, ho', hb'⟩
            case measure => simp [intOf]; omega
    · rw [take_all s k hlt] at hown hql
      go_wp2_with (at_builtin; go_must (refine wpList_append_own _ rfl _ _ 22 rfl w.heap.size 5 i0 (.int .u8 0) 1 1 Try.underlying22 hi hz0 hz1 hz2 rfl (by decide) _ _ _ rfl (hown.alloc _) ⟨wr.heap.size, 0, none⟩ 1 1 (bc [34]) rfl rfl ?c1 ?c2 ?c3 ?c4 ?c5 ?_))
      case c1 => exact lit_cells wr _ [34]
      case c2 => exact bc_oneCell _
      case c3 => unfold maxLen; omega
      case c4 => omega
      case c5 => simp; omega
      intro v' w1 hown' hgrow _
      have hb' := below_app hb hsz hown hgrow
      have ho' := own_step hown' rfl rfl
      have hcv := run_own_string (P := Try.prog) 22 9 5 Try.underlying22 Try.underlying5 Try.underlying9 ho'
      clear hown' hgrow
      go_wp2
      go_ret
      exact ⟨rfl, hb'⟩

end Go.Proofs.Ytlmmomffanakiaa
