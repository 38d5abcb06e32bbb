/- spec.DecText: its walk: the decimal numeral. -/
import Derived.Test.YtadjhnaiphnpoaaDoorKit
import Derived.Test.YtadjhnaiphnpoaaDoorWidP
namespace Go.Proofs.YtadjhnaiphnpoaaDoor
open Go.RowKit Go.Lib

/-- What is left of the number, and the digits that are told, at every round. -/
structure DecAt (U u : Nat) (out : List UInt8) : Prop where
  rest : u = U / 10 ^ out.length
  len : out.length ≤ 19
  said : (u ≠ 0 ∧ decDigits U = decDigits u ++ out) ∨ (u = 0 ∧ decDigits U = out)
theorem DecAt.start (U : Nat) (h : U ≠ 0) : DecAt U U [] := ⟨by simp, by simp, .inl ⟨h, by simp⟩⟩
theorem DecAt.step {U u : Nat} {out : List UInt8} (h : DecAt U u out) (hU : U < 10 ^ 19) (hu : u ≠ 0) : DecAt U (u / 10) (UInt8.ofNat (48 + u % 10) :: out) := by
  have hl : out.length < 19 := by
    have hr := h.rest
    by_cases e : out.length = 19
    · rw [e, Nat.div_eq_of_lt hU] at hr; exact absurd hr hu
    · have := h.len; omega
  refine ⟨?_, by simp; omega, ?_⟩
  · rw [List.length_cons, Nat.pow_succ, ← Nat.div_div_eq_div_mul, ← h.rest]
  · rcases h.said with ⟨_, hs⟩ | ⟨h0, _⟩
    · exact decDigits_step U u out hu hs
    · exact absurd h0 hu
def digs : ByteArray := ⟨#[48, 49, 50, 51, 52, 53, 54, 55, 56, 57]⟩
theorem dig_cons (d : Nat) (hd : d < 10) (out : List UInt8) : digs.extract d (d + 1) ++ ⟨out.toArray⟩ = ⟨(UInt8.ofNat (48 + d) :: out).toArray⟩ := by
  have : digs.extract d (d + 1) = ⟨[UInt8.ofNat (48 + d)].toArray⟩ := by
    revert d; intro d hd
    match d, hd with
    | 0, _ => rfl
    | 1, _ => rfl
    | 2, _ => rfl
    | 3, _ => rfl
    | 4, _ => rfl
    | 5, _ => rfl
    | 6, _ => rfl
    | 7, _ => rfl
    | 8, _ => rfl
    | 9, _ => rfl
  rw [this, ByteArray.mk_append_mk]; rfl
theorem minus_cons (out : List UInt8) : (⟨#[45]⟩ : ByteArray) ++ ⟨out.toArray⟩ = ⟨(45 :: out).toArray⟩ := by
  rw [show (⟨#[45]⟩ : ByteArray) = ⟨[45].toArray⟩ from rfl, ByteArray.mk_append_mk]; rfl
theorem str_eq {a b : ByteArray} (h : a = b) : Value.string a = .string b := by rw [h]
theorem ret_str {a b : ByteArray} (h : a = b) : Ending.returned (.string a) = .returned (.string b) := by rw [h]

set_option maxRecDepth 100000 in
set_option maxHeartbeats 1600000 in
theorem dec_spec (n : Int) (h0 : -9223372036854775808 ≤ n) (h1 : n ≤ 9223372036854775807) (w : World) :
    Calls Tryd.prog 34 #[.int .i64 n] w fun e w' => e = .returned (.string ⟨(itoa n).toArray⟩) ∧ w = w' := by
  rcases Int.lt_trichotomy n 0 with hn | hn | hn
  · have hz : (n == 0) = false := by simp; omega
    have hU : n.natAbs < 10 ^ 19 := by omega
    go_enter Tryd.func34, Tryd.ntmps34
    go_wp2
    go_loop [3, 4] (fun o m => ∃ (u : Nat) (out : List UInt8), m = .int .i64 (-(u : Int)) ∧ o = .string ⟨out.toArray⟩ ∧ u ≤ n.natAbs ∧ DecAt n.natAbs u out) (fun _ m => (intOf m).natAbs)
    case atStart => exact ⟨n.natAbs, [], by go_num, rfl, Nat.le_refl _, DecAt.start _ (by omega)⟩
    case round =>
      obtain ⟨u, out, rfl, rfl, hu, hd⟩ := hrel
      by_cases h10 : u = 0
      · have he : Hid (decDigits n.natAbs = out) := by
          rcases hd.said with ⟨h2, _⟩ | ⟨_, h2⟩
          · exact absurd h10 h2
          · exact h2
        have hl := hd.len
        subst h10
        clear hd
        go_wp2
        go_ret
        exact ⟨ret_str (by rw [itoa, if_pos (by omega), he.out]; exact minus_cons _), rfl⟩
      · have hs : Hid (DecAt n.natAbs (u / 10) (UInt8.ofNat (48 + u % 10) :: out)) := hd.step hU h10
        have hl := hd.len
        have hub : u ≤ 9223372036854775808 := by omega
        have hup : 0 < u := by omega
        have hm : (-(u : Int)).tmod 10 = -((u % 10 : Nat) : Int) := by rw [Int.neg_tmod, Int.tmod_eq_emod_of_nonneg (by omega)]; omega
        have hq : (-(u : Int)).tdiv 10 = -((u / 10 : Nat) : Int) := by rw [Int.neg_tdiv, Int.tdiv_eq_ediv_of_nonneg (by omega)]; omega
        clear hd
        by_cases hr : u % 10 = 0
        · have hm0 : Hid (u % 10 = 0) := hr
          rw [hr] at hm
          clear hr
          go_wp2
          go_round
          case rel => exact ⟨u / 10, _, by go_num, str_eq (by have h := dig_cons (u % 10) (by omega) out; simp only [hm0.out] at h ⊢; exact h), by omega, by have := hs.out; rw [hm0.out] at this; exact this⟩
          case measure => simp [intOf]; omega
        · go_wp2
          go_round
          case rel => exact ⟨u / 10, _, by go_num, str_eq (dig_cons (u % 10) (by omega) out), by omega, hs.out⟩
          case measure => simp [intOf]; omega
  · subst hn
    go_enter Tryd.func34, Tryd.ntmps34
    go_wp2
    go_ret
    exact ⟨ret_str (by simp [itoa, decDigits]), rfl⟩
  · have hz : (n == 0) = false := by simp; omega
    have hU : n.natAbs < 10 ^ 19 := by omega
    go_enter Tryd.func34, Tryd.ntmps34
    go_wp2
    go_loop [3, 4] (fun o m => ∃ (u : Nat) (out : List UInt8), m = .int .i64 u ∧ o = .string ⟨out.toArray⟩ ∧ u ≤ n.natAbs ∧ DecAt n.natAbs u out) (fun _ m => (intOf m).toNat)
    case atStart => exact ⟨n.natAbs, [], by go_num, rfl, Nat.le_refl _, DecAt.start _ (by omega)⟩
    case round =>
      obtain ⟨u, out, rfl, rfl, hu, hd⟩ := hrel
      by_cases h10 : u = 0
      · have he : Hid (decDigits n.natAbs = out) := by
          rcases hd.said with ⟨h2, _⟩ | ⟨_, h2⟩
          · exact absurd h10 h2
          · exact h2
        subst h10
        clear hd
        go_wp2
        go_ret
        exact ⟨ret_str (by rw [itoa, if_neg (by omega), show n.toNat = n.natAbs by omega, he.out]), rfl⟩
      · have hs : Hid (DecAt n.natAbs (u / 10) (UInt8.ofNat (48 + u % 10) :: out)) := hd.step hU h10
        have hl := hd.len
        have hub : u ≤ 9223372036854775807 := by omega
        have hup : 0 < u := by omega
        clear hd
        go_wp2
        go_round
        case rel => exact ⟨u / 10, _, by go_num, str_eq (dig_cons (u % 10) (by omega) out), by omega, hs.out⟩
        case measure => simp [intOf]; omega
end Go.Proofs.YtadjhnaiphnpoaaDoor
