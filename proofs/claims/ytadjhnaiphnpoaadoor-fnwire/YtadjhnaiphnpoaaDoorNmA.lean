/- NextMessage of the specification. -/
import Derived.Test.YtadjhnaiphnpoaaDoorNmP
import Derived.Test.YtadjhnaiphnpoaaDoorDgA
import Derived.Test.YtadjhnaiphnpoaaDoorDecW
namespace Go.Proofs.YtadjhnaiphnpoaaDoor
open Go.RowKit Go.Lib

set_option maxRecDepth 100000 in
set_option maxHeartbeats 1600000 in
theorem starts_any (s p : ByteArray) (w : World) (hs : s.size ≤ 2097152) :
    Calls Tryd.prog 36 #[.string s, .string p] w fun e w' => e = .returned (.bool (st3 s.data.toList p.data.toList != 2)) ∧ Below w.heap.size w w' := by
  go_enter Tryd.func36, Tryd.ntmps36
  go_wp2_with fail
  go_loopw [5] (fun a wr => ∃ i : Nat, i ≤ s.size ∧ i ≤ p.size ∧ a = .int .i64 i ∧ (∀ (j : Nat) (x y : UInt8), j < i → s.data.toList[j]? = some x → p.data.toList[j]? = some y → x = y) ∧ Below w.heap.size w wr) (fun a _ => s.size - (RowKit.intOf a).toNat)
  case atStart => exact ⟨0, Nat.zero_le _, Nat.zero_le _, rfl, fun j x y h => absurd h (Nat.not_lt_zero _), Below.refl _ _⟩
  case round =>
    obtain ⟨i, hi, hip, rfl, hag, hbr⟩ := hrel
    by_cases hlt : i < s.size
    · by_cases hlp : i < p.size
      · have hx := byte_at s i hlt
        have hy := byte_at p i hlp
        by_cases he : s[i] = p[i]
        · have hag' : Hid (∀ (j : Nat) (x y : UInt8), j < i + 1 → s.data.toList[j]? = some x → p.data.toList[j]? = some y → x = y) := by
            intro j x y hj h1 h2
            by_cases e : j = i
            · subst e; rw [hx] at h1; rw [hy] at h2; rw [← Option.some.inj h1, ← Option.some.inj h2]; exact he
            · exact hag j x y (by omega) h1 h2
          clear hag hx hy
          have he1 : s[i].toNat = p[i].toNat := by rw [he]
          clear he
          go_wp2_with fail
          go_region
          all_goals
            go_wp2_with fail
            first
              | exact ⟨⟨i + 1, by omega, by omega, by go_num, hag'.out, hbr.drew⟩, by simp [RowKit.intOf]; omega⟩
              | (go_roundw
                 case rel => exact ⟨i + 1, by omega, by omega, by go_num, hag'.out, hbr.drew⟩
                 case measure => simp [RowKit.intOf]; omega)
        · have HF : Hid ((st3 s.data.toList p.data.toList != 2) = false) := by show _ = _; rw [st3_part hx hy he]; rfl
          have he1 : ¬ s[i].toNat = p[i].toNat := fun e => he (UInt8.toNat_inj.1 e)
          clear hag hx hy he
          go_wp2_with fail
          go_region
          all_goals
            go_wp2_with fail
            go_ret
            exact ⟨by rw [HF.out]; rfl, hbr.drew⟩
      · have HF : Hid ((st3 s.data.toList p.data.toList != 2) = true) := by
          show _ = _
          simpa using st3_agree s.data.toList p.data.toList (fun j x y hx hy => hag j x y (by have := (List.getElem?_eq_some_iff.1 hy).1; rw [← Lib.size_eq] at this; omega) hx hy)
        clear hag
        go_wp2_with fail
        go_ret
        exact ⟨by rw [HF.out]; rfl, hbr⟩
    · have HF : Hid ((st3 s.data.toList p.data.toList != 2) = true) := by
        show _ = _
        simpa using st3_agree s.data.toList p.data.toList (fun j x y hx hy => hag j x y (by have := (List.getElem?_eq_some_iff.1 hx).1; rw [← Lib.size_eq] at this; omega) hx hy)
      clear hag
      go_wp2_with fail
      go_ret
      exact ⟨by rw [HF.out]; rfl, hbr⟩

def szI (l : List UInt8) : Int := match szR l with | some n => n | none => -1
theorem szI_none {l : List UInt8} (h : szR l = none) : szI l = -1 := by rw [szI, h]
theorem szI_some {l : List UInt8} {n : Nat} (h : szR l = some n) : szI l = n := by rw [szI, h]
/-- No size where a byte is no digit. -/
theorem szR_part {l : List UInt8} {k : Nat} {b : UInt8} (hb : l[k]? = some b) (hd : isDg b = false) : szR l = none := by
  cases h : szR l with
  | none => rfl
  | some n =>
    obtain ⟨_, hl, _⟩ := szR_some h
    have hall : decFrom 0 l = some n := by rw [hl]; exact decFrom_digits n
    obtain ⟨d, hd'⟩ := digit_of_decFrom _ _ _ hall k b hb
    rw [isDg, hd'] at hd; exact absurd hd (by simp)
/-- Nor where what is read is more than 5000. -/
theorem szR_over {l : List UInt8} {k m : Nat} (h : decFrom 0 (l.take k) = some m) (hm : 5000 < m) : szR l = none := by
  cases h2 : szR l with
  | none => rfl
  | some n =>
    obtain ⟨hn, hl, _⟩ := szR_some h2
    have hall : decFrom 0 l = some n := by rw [hl]; exact decFrom_digits n
    rw [← List.take_append_drop k l, decFrom_append _ _ _ _ h] at hall
    have := decFrom_ge _ _ _ hall
    omega
/-- Nor where the numeral is another text. -/
theorem szR_other {l : List UInt8} {m : Nat} (h : decFrom 0 l = some m) (hm : ¬ decDigits m = l) : szR l = none := by
  cases h2 : szR l with
  | none => rfl
  | some n =>
    obtain ⟨hn, hl, _⟩ := szR_some h2
    have hall : decFrom 0 l = some n := by rw [hl]; exact decFrom_digits n
    rw [h] at hall
    exact absurd (by rw [Option.some.inj hall]; exact hl.symm) hm
theorem szR_yes {l : List UInt8} {m : Nat} (h : m ≤ 5000) (hm : decDigits m = l) : szR l = some m := by rw [← hm]; exact szR_of h
theorem szR_nil : szR [] = none := by
  cases h : szR [] with
  | none => rfl
  | some n => exact absurd (szR_some h).2.1.symm (decDigits_ne n)

set_option maxRecDepth 100000 in
set_option maxHeartbeats 1600000 in
theorem size_spec (s : ByteArray) (w : World) (hs : s.size ≤ 2097152) :
    Calls Tryd.prog 38 #[.string s] w fun e w' => e = .returned (.int .i64 (szI s.data.toList)) ∧ w = w' := by
  go_enter Tryd.func38, Tryd.ntmps38
  go_wp2_with fail
  go_loop [3, 4] (fun a b => ∃ (i m : Nat), i ≤ s.size ∧ a = .int .i64 m ∧ b = .int .i64 i ∧ m ≤ 50009 ∧ decFrom 0 (s.data.toList.take i) = some m) (fun _ b => s.size - (RowKit.intOf b).toNat)
  case atStart => exact ⟨0, 0, Nat.zero_le _, rfl, rfl, by decide, by simp [decFrom]⟩
  case round =>
    obtain ⟨i, m, hi, rfl, rfl, hm, hd⟩ := hrel
    by_cases hlt : i < s.size
    · have hb := byte_at s i hlt
      have hbt := s[i].toNat_lt
      cases hdg : digitVal s[i] with
      | none =>
        have HD : Hid (isDg s[i] = false) := by show _ = _; rw [isDg, hdg]; rfl
        have HF : Hid _ := szI_none (szR_part hb HD.out)
        clear hd hb hdg
        go_wp2_with fail
        refine (dg_spec _ _).mono ?_
        rintro e w2 ⟨rfl, rfl⟩
        rw [HD.out]
        go_wp2_with fail
        go_ret
        exact ⟨by rw [HF.out]; rfl, rfl⟩
      | some d =>
        have HD : Hid (isDg s[i] = true) := by show _ = _; rw [isDg, hdg]; rfl
        obtain ⟨hv0, hv1, hv⟩ := digitVal_eq hdg
        by_cases h5 : 5000 < m
        · have HF : Hid _ := szI_none (szR_over hd h5)
          clear hd hb hdg
          go_wp2_with fail
          refine (dg_spec _ _).mono ?_
          rintro e w2 ⟨rfl, rfl⟩
          rw [HD.out]
          go_wp2_with fail
          go_ret
          exact ⟨by rw [HF.out]; rfl, rfl⟩
        · have HN : Hid (decFrom 0 (s.data.toList.take (i + 1)) = some (m * 10 + d)) := decFrom_take _ _ _ _ _ _ hd hb hdg
          clear hd hb hdg
          go_wp2_with fail
          refine (dg_spec _ _).mono ?_
          rintro e w2 ⟨rfl, rfl⟩
          rw [HD.out]
          go_wp2_with fail
          go_round
          case rel => exact ⟨i + 1, m * 10 + d, by omega, by congr 1; omega, by go_num, by omega, HN.out⟩
          case measure => simp [RowKit.intOf]; omega
    · have hie : i = s.size := by omega
      subst hie
      rw [Lib.size_eq, List.take_length] at hd
      by_cases h0 : s.toList = []
      · have hs1 : (s.toList == []) = true := by rw [h0]; rfl
        have HF : Hid _ := szI_none (l := s.data.toList) (by rw [← ByteArray.toList_eq, h0]; exact szR_nil)
        clear hd
        go_wp2_with fail
        go_ret
        exact ⟨by rw [HF.out]; rfl, rfl⟩
      · have hs1 : (s.toList == []) = false := by simpa using h0
        by_cases h5 : 5000 < m
        · have HF : Hid _ := szI_none (l := s.data.toList) (szR_over (k := s.data.toList.length) (by rw [List.take_length]; exact hd) h5)
          clear hd h0
          go_wp2_with fail
          go_ret
          exact ⟨by rw [HF.out]; rfl, rfl⟩
        · by_cases he : decDigits m = s.data.toList
          · have HF : Hid _ := szI_some (szR_yes (by omega) he)
            have HI : Hid (((numT m).toList == s.toList) = true) := by show _ = _; rw [ByteArray.toList_eq, ByteArray.toList_eq]; simpa [numT, itoa_pos] using he
            clear hd h0 he
            go_wp2_with fail
            refine (dec_spec m (by omega) (by omega) _).mono ?_
            rintro e w2 ⟨rfl, rfl⟩
            rw [show (⟨(itoa (m : Int)).toArray⟩ : ByteArray) = numT m from rfl]
            have hq := HI.out
            generalize numT m = t at *
            go_wp2_with fail
            go_ret
            exact ⟨by rw [HF.out]; rfl, rfl⟩
          · have HF : Hid _ := szI_none (szR_other hd he)
            have HI : Hid (((numT m).toList == s.toList) = false) := by show _ = _; rw [ByteArray.toList_eq, ByteArray.toList_eq]; simpa [numT, itoa_pos] using he
            clear hd h0 he
            go_wp2_with fail
            refine (dec_spec m (by omega) (by omega) _).mono ?_
            rintro e w2 ⟨rfl, rfl⟩
            rw [show (⟨(itoa (m : Int)).toArray⟩ : ByteArray) = numT m from rfl]
            have hq := HI.out
            generalize numT m = t at *
            go_wp2_with fail
            go_ret
            exact ⟨by rw [HF.out]; rfl, rfl⟩
end Go.Proofs.YtadjhnaiphnpoaaDoor
