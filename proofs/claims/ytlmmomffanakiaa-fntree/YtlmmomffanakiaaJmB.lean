/- Whether a number is within two: yes, and no. -/
import Derived.Test.YtlmmomffanakiaaKit
import Derived.BigQuiet
import Derived.Deep.QuietTactic
import Derived.Test.YtlmmomffanakiaaJmA
namespace Go.Proofs.Ytlmmomffanakiaa
open Go.RowKit

set_option maxRecDepth 100000 in
theorem in_yes (x a b : Int) (w : World) (h : a ≤ x ∧ x ≤ b) : Calls Try.prog 61 #[.int .i64 x, .int .i64 a, .int .i64 b] w fun e w' => e = .returned (.bool true) ∧ w = w' := by
  obtain ⟨h1, h2⟩ := h
  go_enter Try.func61, Try.ntmps61
  go_wp2
  go_ret
  exact ⟨rfl, rfl⟩
set_option maxRecDepth 100000 in
theorem in_no (x a b : Int) (w : World) (h : x < a ∨ b < x) : Calls Try.prog 61 #[.int .i64 x, .int .i64 a, .int .i64 b] w fun e w' => e = .returned (.bool false) ∧ w = w' := by
  by_cases h1 : x < a
  · clear h
    go_enter Try.func61, Try.ntmps61
    go_wp2
    go_ret
    exact ⟨rfl, rfl⟩
  · have h2 : b < x := by omega
    have h1' : a ≤ x := by omega
    clear h h1
    go_enter Try.func61, Try.ntmps61
    go_wp2
    go_ret
    exact ⟨ret_bool (decide_eq_false (by omega)), rfl⟩

end Go.Proofs.Ytlmmomffanakiaa
namespace Go.Proofs.Ytlmmomffanakiaa
open Go.RowKit

set_option maxRecDepth 100000 in
set_option maxHeartbeats 800000 in
theorem letter_any (b : UInt8) (w : World) :
    Calls Try.prog 49 #[.int .u8 b.toNat] w fun e w' => e = .returned (.bool (isL b)) ∧ w = w' := by
  have hlt := b.toNat_lt
  have HL : Hid (isL b = (decide (97 ≤ b.toNat ∧ b.toNat ≤ 122) || decide (65 ≤ b.toNat ∧ b.toNat ≤ 90) || decide (b.toNat = 95))) := rfl
  by_cases h1 : 97 ≤ b.toNat ∧ b.toNat ≤ 122
  · have H : Hid (isL b = true) := by show isL b = true; rw [HL.out]; simp [h1]
    obtain ⟨a1, a2⟩ := h1
    go_enter Try.func49, Try.ntmps49
    go_wp2_with (first | (go_at_call 61; refine (in_yes _ _ _ _ (by omega)).mono ?_; rintro e w' ⟨rfl, rfl⟩) | (go_at_call 61; refine (in_no _ _ _ _ (by omega)).mono ?_; rintro e w' ⟨rfl, rfl⟩))
    go_ret
    exact ⟨ret_bool H.out.symm, rfl⟩
  · by_cases h2 : 65 ≤ b.toNat ∧ b.toNat ≤ 90
    · have H : Hid (isL b = true) := by show isL b = true; rw [HL.out]; simp [h2]
      obtain ⟨a1, a2⟩ := h2
      go_enter Try.func49, Try.ntmps49
      go_wp2_with (first | (go_at_call 61; refine (in_yes _ _ _ _ (by omega)).mono ?_; rintro e w' ⟨rfl, rfl⟩) | (go_at_call 61; refine (in_no _ _ _ _ (by omega)).mono ?_; rintro e w' ⟨rfl, rfl⟩))
      go_ret
      exact ⟨ret_bool H.out.symm, rfl⟩
    · by_cases h3 : b.toNat = 95
      · have H : Hid (isL b = true) := by show isL b = true; rw [HL.out]; simp [h3]
        go_enter Try.func49, Try.ntmps49
        go_wp2_with (first | (go_at_call 61; refine (in_yes _ _ _ _ (by omega)).mono ?_; rintro e w' ⟨rfl, rfl⟩) | (go_at_call 61; refine (in_no _ _ _ _ (by omega)).mono ?_; rintro e w' ⟨rfl, rfl⟩))
        go_ret
        exact ⟨ret_bool H.out.symm, rfl⟩
      · have H : Hid (isL b = false) := by show isL b = false; rw [HL.out]; simp [h1, h2, h3]
        go_enter Try.func49, Try.ntmps49
        go_wp2_with (first | (go_at_call 61; refine (in_yes _ _ _ _ (by omega)).mono ?_; rintro e w' ⟨rfl, rfl⟩) | (go_at_call 61; refine (in_no _ _ _ _ (by omega)).mono ?_; rintro e w' ⟨rfl, rfl⟩))
        go_ret
        exact ⟨ret_bool (by rw [H.out]; simp; omega), rfl⟩
theorem digit_any (b : UInt8) (w : World) :
    Calls Try.prog 50 #[.int .u8 b.toNat] w fun e w' => e = .returned (.bool (isD b)) ∧ w = w' := by
  have hlt := b.toNat_lt
  by_cases h1 : 48 ≤ b.toNat ∧ b.toNat ≤ 57
  · have H : Hid (isD b = true) := by show isD b = true; simp [isD, h1]
    go_enter Try.func50, Try.ntmps50
    go_wp2_with fail
    refine (in_yes _ _ _ _ (by omega)).mono ?_
    rintro e w' ⟨rfl, rfl⟩
    go_wp2_with fail
    go_ret
    exact ⟨ret_bool H.out.symm, rfl⟩
  · have H : Hid (isD b = false) := by show isD b = false; simp only [isD, decide_eq_false_iff_not]; exact h1
    go_enter Try.func50, Try.ntmps50
    go_wp2_with fail
    refine (in_no _ _ _ _ (by omega)).mono ?_
    rintro e w' ⟨rfl, rfl⟩
    go_wp2_with fail
    go_ret
    exact ⟨ret_bool H.out.symm, rfl⟩

theorem beq_no {a b : Int} (h : ¬ a = b) : (a == b) = false := by simp [h]

set_option maxRecDepth 100000 in
set_option maxHeartbeats 2000000 in
theorem skip_spec (s : ByteArray) (i ln : Nat) (w : World) (hs : s.size ≤ 1048576) (hi : i ≤ s.size) (hln : ln ≤ 1048577) :
    Calls Try.prog 42 #[.string s, .int .i64 i, .int .i64 ln] w fun e w' => e = .returned (.tuple #[.int .i64 ((skipAll s i ln).1 : Nat), .int .i64 ((skipAll s i ln).2 : Nat)]) ∧ w = w' := by
  go_enter Try.func42, Try.ntmps42
  go_wp2_with fail
  go_loop [1, 2] (fun a b => ∃ j m : Nat, a = .int .i64 j ∧ b = .int .i64 m ∧ j ≤ s.size ∧ m ≤ 1048577 + j ∧ skipAll s j m = skipAll s i ln) (fun a _ => s.size - (intOf a).toNat)
  case atStart => exact ⟨i, ln, rfl, rfl, hi, by omega, rfl⟩
  case round =>
    obtain ⟨j, m, rfl, rfl, hj, hm, he⟩ := hrel
    by_cases hlt : j < s.size
    · by_cases h10 : s[j].toNat = 10
      · have HE : Hid (skipAll s (j + 1) (m + 1) = skipAll s i ln) := (skip_nl hlt h10).trans he
        clear he
        go_wp2_with fail
        go_round
        case rel => exact ⟨j + 1, m + 1, by go_num, by go_num, by omega, by omega, HE.out⟩
        case measure => simp [intOf]; omega
      · by_cases h32 : s[j].toNat = 32
        · have HE : Hid (skipAll s (j + 1) m = skipAll s i ln) := (skip_bl hlt (.inl h32)).trans he
          clear he
          go_wp2_with fail
          go_round
          case rel => exact ⟨j + 1, m, by go_num, by go_num, by omega, by omega, HE.out⟩
          case measure => simp [intOf]; omega
        · by_cases h9 : s[j].toNat = 9
          · have HE : Hid (skipAll s (j + 1) m = skipAll s i ln) := (skip_bl hlt (.inr h9)).trans he
            clear he
            go_wp2_with fail
            go_round
            case rel => exact ⟨j + 1, m, by go_num, by go_num, by omega, by omega, HE.out⟩
            case measure => simp [intOf]; omega
          · by_cases h45 : s[j].toNat = 45
            · by_cases hl2 : j + 1 < s.size
              · by_cases h45b : s[j + 1].toNat = 45
                · have HE : Hid (skipAll s (endp ne10 s j) m = skipAll s i ln) := (skip_cm hl2 h45 h45b).trans he
                  have HD : Hid (j + 1 ≤ endp ne10 s j) := endp_dash hlt h45
                  clear he
                  go_wp2_with fail
                  go_loop [1] (fun a => ∃ k : Nat, a = .int .i64 k ∧ j ≤ k ∧ k ≤ s.size ∧ endp ne10 s k = endp ne10 s j) (fun a => s.size - (intOf a).toNat)
                  case atStart => exact ⟨j, rfl, Nat.le_refl _, hj, rfl⟩
                  case round =>
                    obtain ⟨k, rfl, hjk, hk, hek⟩ := hrel
                    have HK : Hid (endp ne10 s k = endp ne10 s j) := hek
                    clear hek
                    by_cases hkl : k < s.size
                    · by_cases hk10 : s[k].toNat = 10
                      · go_wp2_with fail
                        have e1 : endp ne10 s k = k := endp_no hkl (by simp [ne10, hk10])
                        have e2 := HK.out
                        have e3 := HD.out
                        have e4 := HE.out
                        rw [e1] at e2
                        rw [← e2] at e3 e4
                        go_round
                        case rel => exact ⟨k, m, rfl, rfl, hk, by omega, e4⟩
                        case measure => simp [intOf]; omega
                      · go_wp2_with fail
                        have e1 : endp ne10 s (k + 1) = endp ne10 s k := endp_lt hkl (by simp [ne10, hk10])
                        go_round
                        case rel => exact ⟨k + 1, by go_num, by omega, by omega, e1.trans HK.out⟩
                        case measure => simp [intOf]; omega
                    · go_wp2_with fail
                      have e1 : endp ne10 s k = k := endp_out hkl
                      have e2 := HK.out
                      have e3 := HD.out
                      have e4 := HE.out
                      rw [e1] at e2
                      rw [← e2] at e3 e4
                      go_round
                      case rel => exact ⟨k, m, rfl, rfl, hk, by omega, e4⟩
                      case measure => simp [intOf]; omega
                · have HE : Hid (skipAll s i ln = (j, m)) := he.symm.trans (skip_no hlt h10 (by omega) (fun _ => by omega))
                  clear he
                  go_wp2_with fail
                  go_ret2
                  exact ⟨by rw [HE.out]; rfl, rfl⟩
              · have HE : Hid (skipAll s i ln = (j, m)) := he.symm.trans (skip_no hlt h10 (by omega) (fun h => absurd h hl2))
                clear he
                go_wp2_with fail
                go_ret2
                exact ⟨by rw [HE.out]; rfl, rfl⟩
            · have HE : Hid (skipAll s i ln = (j, m)) := he.symm.trans (skip_no hlt h10 (by omega) (fun _ => by omega))
              have hb : ((s[j].toNat : Int) == 45) = false := beq_no (by omega)
              have hb9 : ((s[j].toNat : Int) == 9) = false := beq_no (by omega)
              have hb32 : ((s[j].toNat : Int) == 32) = false := beq_no (by omega)
              clear he
              go_wp2_with fail
              go_ret2
              exact ⟨by rw [HE.out]; rfl, rfl⟩
    · have HE : Hid (skipAll s i ln = (j, m)) := he.symm.trans (skip_end hlt)
      clear he
      go_wp2_with fail
      go_ret2
      exact ⟨by rw [HE.out]; rfl, rfl⟩
end Go.Proofs.Ytlmmomffanakiaa
namespace Go.Proofs.Ytlmmomffanakiaa
open Go.RowKit

def esc (b : UInt8) : List UInt8 := if b = 10 then [92, 110] else if b = 34 ∨ b = 92 then [92, b] else [b]
def qb (l : List UInt8) : List UInt8 := 34 :: l.flatMap esc
theorem qb_nil : qb [] = [34] := rfl
theorem qb_snoc (l : List UInt8) (b : UInt8) : qb (l ++ [b]) = qb l ++ esc b := by simp [qb]
theorem esc_len (b : UInt8) : (esc b).length ≤ 2 := by unfold esc; split <;> (try split) <;> simp
theorem qb_len (l : List UInt8) : (qb l).length ≤ 1 + 2 * l.length := by
  induction l with
  | nil => simp [qb]
  | cons b l ih => simp only [qb, List.flatMap_cons, List.length_cons, List.length_append] at *; have := esc_len b; omega
theorem Try.info5 : (Try.prog.info? 5).map (fun i => (i.zero, i.size, i.bytes)) = some (some (.int .u8 0), 1, 1) := by kernel_rfl
theorem take_snoc (s : ByteArray) (k : Nat) (h : k < s.size) : s.data.toList.take (k + 1) = s.data.toList.take k ++ [s[k]] := by
  rw [List.take_succ_eq_append_getElem (by simpa using h)]; rfl
theorem qb_step (s : ByteArray) (k : Nat) (h : k < s.size) : qb (s.data.toList.take (k + 1)) = qb (s.data.toList.take k) ++ esc s[k] := by
  rw [take_snoc s k h, qb_snoc]
theorem qb_take_len (s : ByteArray) (k : Nat) (h : k ≤ s.size) : (qb (s.data.toList.take k)).length ≤ 1 + 2 * s.size := by
  have := qb_len (s.data.toList.take k); have h2 : (s.data.toList.take k).length ≤ k := List.length_take_le _ _; omega
theorem owns_lit (w : World) (e : TypeId) (l : List UInt8) (hl : l.length ≤ 1000) : (w.alloc (.cells (bc l).toArray e)).ownsRow w.heap.size e 1 (.slice (some ⟨w.heap.size, 0, none⟩) l.length l.length) l.length (bc l) :=
  ⟨by simp [bc_length], .inr ⟨w.heap.size, l.length, _, rfl, Nat.le_refl _, heap_alloc_new w _, Nat.le_refl _, by unfold maxLen; omega, by simp [bc_length], by rw [List.take_of_length_le]; simp [bc_length]⟩⟩
theorem lit_cells (wx : World) (e : TypeId) (l : List UInt8) : ∀ j u, (bc l)[j]? = some u → (wx.alloc (.cells (bc l).toArray e)).cell? ((⟨wx.heap.size, 0, none⟩ : Addr).add j) = some u := by
  intro j u hu
  have hadd : (⟨wx.heap.size, 0, none⟩ : Addr).add j = ⟨wx.heap.size, j, none⟩ := by unfold Addr.add; split <;> simp_all
  rw [hadd, cell_of_row _ wx.heap.size j _ e (0, 0) (heap_alloc_new wx _)]
  simpa using hu
theorem bc_oneCell (l : List UInt8) : ∀ u ∈ bc l, u.oneCell' = true := by
  intro u hu; simp only [bc, List.mem_map] at hu; obtain ⟨b, _, rfl⟩ := hu; rfl

theorem owns_lit1 (w : World) (e : TypeId) (b : UInt8) (x : Value) (hx : x = .int .u8 b.toNat) : (w.alloc (.cells #[x] e)).ownsRow w.heap.size e 1 (.slice (some ⟨w.heap.size, 0, none⟩) 1 1) 1 (bc [b]) := by
  subst hx; exact owns_lit w e [b] (by simp)
theorem below_app {B : Nat} {w wr w1 : World} {o : Obj} {e : TypeId} {sz n : Nat} {v : Value} {xs : List Value} (hb : Below B w wr) (hB : B ≤ wr.heap.size) (hown : wr.ownsRow B e sz v n xs)
    (hg : (wr.alloc o).grownBy w1 v.ownBlock) : Below B w w1 :=
  (hb.alloc hB o).grown hg (by simp; omega) (fun k hk => (hown.lt k hk).1)
theorem own_step {w1 : World} {B : Nat} {e : TypeId} {v' : Value} {m : Nat} {l l' news : List UInt8} (h : w1.ownsRow B e 1 v' (l.length + m) (bc l ++ bc news)) (hl : l' = l ++ news) (hm : news.length = m) :
    w1.ownsRow B e 1 v' l'.length (bc l') := by
  subst hl hm; rw [List.length_append, bc_append]; exact h
theorem esc_nl {b : UInt8} (h : b = 10) : esc b = [92, 110] := by simp [esc, h]
theorem esc_q {b : UInt8} (h10 : ¬ b = 10) (h : b = 34 ∨ b = 92) : esc b = [92, b] := by simp [esc, h10, h]
theorem esc_o {b : UInt8} (h10 : ¬ b = 10) (h : ¬ (b = 34 ∨ b = 92)) : esc b = [b] := by simp [esc, h10, h]
theorem u8_ne {b c : UInt8} {n : Int} (h : ¬ b = c) (hn : n = (c.toNat : Int)) : ¬ (b.toNat : Int) = n := fun e => h (UInt8.toNat_inj.1 (by omega))
theorem take_all (s : ByteArray) (k : Nat) (h : ¬ k < s.size) : s.data.toList.take k = s.data.toList := List.take_of_length_le (by simp; exact Nat.le_of_not_lt h)

end Go.Proofs.Ytlmmomffanakiaa
namespace Go.Proofs.Ytlmmomffanakiaa
open Go.RowKit

def numV : Option (Nat × Nat) → Value
  | some (n, k) => .tuple #[.int .i64 n, .int .i64 k]
  | none => .tuple #[.int .i64 0, .int .i64 (-1)]
def strV : Option (List UInt8 × Nat) → Value
  | some (l, k) => .tuple #[.string ⟨l.toArray⟩, .int .i64 k]
  | none => .tuple #[.string ⟨#[]⟩, .int .i64 (-1)]

set_option maxRecDepth 100000 in
set_option maxHeartbeats 2000000 in
theorem number_any (s : ByteArray) (i : Nat) (w : World) (hs : s.size ≤ 1048576) (hi : i ≤ s.size) :
    Calls Try.prog 52 #[.string s, .int .i64 i] w fun e w' => e = .returned (numV (numAt s i)) ∧ w = w' := by
  go_enter Try.func52, Try.ntmps52
  go_wp2_with fail
  go_loop [6, 7] (fun a b => ∃ n k : Nat, a = .int .i64 n ∧ b = .int .i64 k ∧ i ≤ k ∧ k ≤ s.size ∧ k ≤ i + 18 ∧ n < 10 ^ (k - i) ∧ n = numVal (cut s i k) ∧ endp isD s k = endp isD s i) (fun _ b => s.size - (intOf b).toNat)
  case atStart => exact ⟨0, i, rfl, rfl, Nat.le_refl _, hi, by omega, by simp, by rw [cut_self]; rfl, rfl⟩
  case round =>
    obtain ⟨n, k, rfl, rfl, hik, hk, hk18, hn, hv, he⟩ := hrel
    have hn18 : n < 1000000000000000000 := Nat.lt_of_lt_of_le hn (Nat.le_trans (Nat.pow_le_pow_right (by omega) (show k - i ≤ 18 by omega)) (by decide))
    by_cases hlt : k < s.size
    · cases hd : isD s[k]
      · have e1 : endp isD s k = k := endp_no hlt hd
        have HN : Hid (numAt s i = if 999999999999 < n then none else some (n, k)) := by
          show numAt s i = _
          unfold numAt
          rw [← he, e1, if_neg (by omega), ← hv]
        clear hv he e1 hn
        by_cases hbig : 999999999999 < n
        · go_wp2_with fail
          refine (digit_any s[k] _).mono ?_
          rintro e w1 ⟨rfl, rfl⟩
          rw [hd]
          go_wp2_with fail
          go_ret2
          exact ⟨by rw [HN.out, if_pos hbig]; rfl, rfl⟩
        · have hb' : n ≤ 999999999999 := by omega
          go_wp2_with fail
          refine (digit_any s[k] _).mono ?_
          rintro e w1 ⟨rfl, rfl⟩
          rw [hd]
          go_wp2_with fail
          go_ret2
          exact ⟨by rw [HN.out, if_neg hbig]; rfl, rfl⟩
      · have e1 : endp isD s (k + 1) = endp isD s k := endp_lt hlt hd
        have hdd : 48 ≤ s[k].toNat ∧ s[k].toNat ≤ 57 := by simpa [isD] using hd
        by_cases h18 : k = i + 18
        · have HN : Hid (numAt s i = none) := by
            show numAt s i = none
            unfold numAt
            have := endp_ge isD s (k + 1)
            rw [if_pos (by omega)]
          have h18' : i + 18 ≤ k := by omega
          clear hv he e1 hn h18
          go_wp2_with fail
          refine (digit_any s[k] _).mono ?_
          rintro e w1 ⟨rfl, rfl⟩
          rw [hd]
          go_wp2_with fail
          go_ret2
          exact ⟨by rw [HN.out]; rfl, rfl⟩
        · have h18' : k < i + 18 := by omega
          have hn17 : n < 100000000000000000 := Nat.lt_of_lt_of_le hn (Nat.le_trans (Nat.pow_le_pow_right (by omega) (show k - i ≤ 17 by omega)) (by decide))
          have HV : Hid (10 * n + (s[k].toNat - 48) = numVal (cut s i (k + 1))) := by
            show _ = _
            rw [cut_succ s i k hik hlt, numVal_snoc, ← hv]
          have HE : Hid (endp isD s (k + 1) = endp isD s i) := e1.trans he
          have HN : Hid (10 * n + (s[k].toNat - 48) < 10 ^ (k + 1 - i)) := by
            show _ < _
            rw [show k + 1 - i = (k - i) + 1 by omega, Nat.pow_succ]; omega
          obtain ⟨hd1, hd2⟩ := hdd
          clear hv he e1 hn h18
          go_wp2_with fail
          refine (digit_any s[k] _).mono ?_
          rintro e w1 ⟨rfl, rfl⟩
          rw [hd]
          go_wp2_with fail
          go_round
          case rel => exact ⟨10 * n + (s[k].toNat - 48), k + 1, by go_num, by go_num, by omega, by omega, by omega, HN.out, HV.out, HE.out⟩
          case measure => simp [intOf]; omega
    · have e1 : endp isD s k = k := endp_out hlt
      have HN : Hid (numAt s i = if 999999999999 < n then none else some (n, k)) := by
        show numAt s i = _
        unfold numAt
        rw [← he, e1, if_neg (by omega), ← hv]
      clear hv he e1 hn
      by_cases hbig : 999999999999 < n
      · go_wp2_with fail
        go_ret2
        exact ⟨by rw [HN.out, if_pos hbig]; rfl, rfl⟩
      · have hb' : n ≤ 999999999999 := by omega
        go_wp2_with fail
        go_ret2
        exact ⟨by rw [HN.out, if_neg hbig]; rfl, rfl⟩
end Go.Proofs.Ytlmmomffanakiaa
namespace Go.Proofs.Ytlmmomffanakiaa
open Go.RowKit

theorem owns_empty (w : World) (e : TypeId) : (w.alloc (.cells #[] e)).ownsRow w.heap.size e 1 (.slice (some ⟨w.heap.size, 0, none⟩) 0 0) 0 (bc []) :=
  ⟨rfl, .inr ⟨w.heap.size, 0, _, rfl, Nat.le_refl _, heap_alloc_new w _, Nat.le_refl _, by unfold maxLen; omega, rfl, rfl⟩⟩

set_option maxRecDepth 100000 in
set_option maxHeartbeats 4000000 in
theorem string_any (s : ByteArray) (i : Nat) (w : World) (hs : s.size ≤ 1048576) (hi : i < s.size) :
    Calls Try.prog 53 #[.string s, .int .i64 i] w fun e w' => e = .returned (strV (strAll s (i + 1) [])) ∧ Below w.heap.size w w' := by
  obtain ⟨i0, hi0, hz0, hz1, hz2⟩ := info_parts Try.info5
  go_enter Try.func53, Try.ntmps53
  go_wp2_with fail
  go_loopw [6, 7] (fun v b wr => ∃ (k : Nat) (acc : List UInt8), b = .int .i64 k ∧ i + 1 ≤ k ∧ k ≤ s.size ∧ acc.length ≤ k ∧ wr.ownsRow w.heap.size 5 1 v acc.length (bc acc) ∧ Below w.heap.size w wr ∧ strAll s k acc = strAll s (i + 1) []) (fun _ b _ => s.size - (intOf b).toNat)
  case atStart => exact ⟨i + 1, [], by go_num, Nat.le_refl _, by omega, by simp, owns_empty w _, (Below.refl _ _).alloc (Nat.le_refl _) _, rfl⟩
  case round =>
    obtain ⟨k, acc, rfl, hik, hk, hal, hown, hb, he⟩ := hrel
    have hsz := hb.size
    by_cases hlt : k < s.size
    · by_cases h10 : s[k].toNat = 10
      · have HE : Hid (strAll s (i + 1) [] = none) := he.symm.trans (str_nl hlt h10)
        clear he
        go_wp2_with fail
        go_ret2
        exact ⟨by rw [HE.out]; rfl, hb⟩
      · have b10 : ((s[k].toNat : Int) == 10) = false := beq_no (by omega)
        by_cases h34 : s[k].toNat = 34
        · have HE : Hid (strAll s (i + 1) [] = some (acc, k + 1)) := he.symm.trans (str_q hlt h34)
          have hcv := run_own_string (P := Try.prog) 22 9 5 Try.underlying22 Try.underlying5 Try.underlying9 hown
          clear he
          go_wp2_with fail
          go_ret2
          exact ⟨by rw [HE.out]; rfl, hb⟩
        · have b34 : ((s[k].toNat : Int) == 34) = false := beq_no (by omega)
          by_cases h92 : s[k].toNat = 92
          · by_cases hl2 : k + 1 < s.size
            · by_cases c110 : s[k + 1].toNat = 110
              · have HE : Hid (strAll s (k + 2) (acc ++ [10]) = strAll s (i + 1) []) := (str_n hl2 h92 c110).trans he
                clear he
                go_wp2_with (at_builtin; go_must (refine wpList_append_own _ rfl _ _ 22 rfl w.heap.size 5 i0 (.int .u8 0) 1 1 Try.underlying22 hi0 hz0 hz1 hz2 rfl (by decide) _ _ _ rfl (hown.alloc _) ⟨wr.heap.size, 0, none⟩ 1 1 (bc [10]) rfl rfl ?c1 ?c2 ?c3 ?c4 ?c5 ?_))
                case c1 => exact lit_cells wr _ [10]
                case c2 => exact bc_oneCell _
                case c3 => unfold maxLen; omega
                case c4 => omega
                case c5 => simp; omega
                intro v' w1 hown' hgrow _
                have hb' := below_app hb hsz hown hgrow
                have ho' := own_step (l' := acc ++ [10]) hown' rfl rfl
                clear hown' hgrow
                go_wp2_with fail
                go_roundw
                case rel => exact ⟨k + 2, acc ++ [10], by go_num, by omega, by omega, by simp; omega, ho', hb', HE.out⟩
                case measure => simp [intOf]; omega
              · have b110 : ((s[k + 1].toNat : Int) == 110) = false := beq_no (by omega)
                by_cases c92 : s[k + 1].toNat = 92
                · have HE : Hid (strAll s (k + 2) (acc ++ [s[k + 1]]) = strAll s (i + 1) []) := (str_e hl2 h92 (.inl c92)).trans he
                  have hc : Hid (s[k + 1] = 92) := UInt8.toNat_inj.1 c92
                  rw [hc.out] at HE
                  clear he
                  go_wp2_with (at_builtin; go_must (refine wpList_append_own _ rfl _ _ 22 rfl w.heap.size 5 i0 (.int .u8 0) 1 1 Try.underlying22 hi0 hz0 hz1 hz2 rfl (by decide) _ _ _ rfl (hown.alloc _) ⟨wr.heap.size, 0, none⟩ 1 1 (bc [92]) rfl rfl ?c1 ?c2 ?c3 ?c4 ?c5 ?_))
                  case c1 => exact lit_cells wr _ [92]
                  case c2 => exact bc_oneCell _
                  case c3 => unfold maxLen; omega
                  case c4 => omega
                  case c5 => simp; omega
                  intro v' w1 hown' hgrow _
                  have hb' := below_app hb hsz hown hgrow
                  have ho' := own_step (l' := acc ++ [92]) hown' rfl rfl
                  clear hown' hgrow
                  go_wp2_with fail
                  go_roundw
                  case rel => exact ⟨k + 2, acc ++ [92], by go_num, by omega, by omega, by simp; omega, ho', hb', HE.out⟩
                  case measure => simp [intOf]; omega
                · have b92 : ((s[k + 1].toNat : Int) == 92) = false := beq_no (by omega)
                  by_cases c34 : s[k + 1].toNat = 34
                  · have HE : Hid (strAll s (k + 2) (acc ++ [s[k + 1]]) = strAll s (i + 1) []) := (str_e hl2 h92 (.inr c34)).trans he
                    have hc : Hid (s[k + 1] = 34) := UInt8.toNat_inj.1 c34
                    rw [hc.out] at HE
                    clear he
                    go_wp2_with (at_builtin; go_must (refine wpList_append_own _ rfl _ _ 22 rfl w.heap.size 5 i0 (.int .u8 0) 1 1 Try.underlying22 hi0 hz0 hz1 hz2 rfl (by decide) _ _ _ rfl (hown.alloc _) ⟨wr.heap.size, 0, none⟩ 1 1 (bc [34]) rfl rfl ?c1 ?c2 ?c3 ?c4 ?c5 ?_))
                    case c1 => exact lit_cells wr _ [34]
                    case c2 => exact bc_oneCell _
                    case c3 => unfold maxLen; omega
                    case c4 => omega
                    case c5 => simp; omega
                    intro v' w1 hown' hgrow _
                    have hb' := below_app hb hsz hown hgrow
                    have ho' := own_step (l' := acc ++ [34]) hown' rfl rfl
                    clear hown' hgrow
                    go_wp2_with fail
                    go_roundw
                    case rel => exact ⟨k + 2, acc ++ [34], by go_num, by omega, by omega, by simp; omega, ho', hb', HE.out⟩
                    case measure => simp [intOf]; omega
                  · have b34b : ((s[k + 1].toNat : Int) == 34) = false := beq_no (by omega)
                    have HE : Hid (strAll s (i + 1) [] = none) := he.symm.trans (str_bad hlt h92 (fun _ => ⟨c110, c92, c34⟩))
                    clear he
                    go_wp2_with fail
                    go_ret2
                    exact ⟨by rw [HE.out]; rfl, hb⟩
            · have HE : Hid (strAll s (i + 1) [] = none) := he.symm.trans (str_bad hlt h92 (fun h => absurd h hl2))
              clear he
              go_wp2_with fail
              go_ret2
              exact ⟨by rw [HE.out]; rfl, hb⟩
          · have b92 : ((s[k].toNat : Int) == 92) = false := beq_no (by omega)
            have HE : Hid (strAll s (k + 1) (acc ++ [s[k]]) = strAll s (i + 1) []) := (str_plain hlt h10 h34 h92).trans he
            clear he
            go_wp2_with (at_builtin; go_must (refine wpList_append_own _ rfl _ _ 22 rfl w.heap.size 5 i0 (.int .u8 0) 1 1 Try.underlying22 hi0 hz0 hz1 hz2 rfl (by decide) _ _ _ rfl (hown.alloc _) ⟨wr.heap.size, 0, none⟩ 1 1 (bc [s[k]]) rfl rfl ?c1 ?c2 ?c3 ?c4 ?c5 ?_))
            case c1 => exact lit_cells wr _ [s[k]]
            case c2 => exact bc_oneCell _
            case c3 => unfold maxLen; omega
            case c4 => omega
            case c5 => simp; omega
            intro v' w1 hown' hgrow _
            have hb' := below_app hb hsz hown hgrow
            have ho' := own_step (l' := acc ++ [s[k]]) hown' rfl rfl
            clear hown' hgrow
            go_wp2_with fail
            go_roundw
            case rel => exact ⟨k + 1, acc ++ [s[k]], by go_num, by omega, by omega, by simp; omega, ho', hb', HE.out⟩
            case measure => simp [intOf]; omega
    · have HE : Hid (strAll s (i + 1) [] = none) := he.symm.trans (str_out hlt)
      clear he
      go_wp2_with fail
      go_ret2
      exact ⟨by rw [HE.out]; rfl, hb⟩
end Go.Proofs.Ytlmmomffanakiaa
namespace Go.Proofs.Ytlmmomffanakiaa
open Go.RowKit

theorem has_two (t : ByteArray) (w : World) (b : Bool) (hb : hasS twoS t = b) :
    Calls Try.prog 62 #[.slice (some ⟨w.heap.size, 0, none⟩) 6 6, .string t] (w.alloc (.cells (twoS.map Value.string).toArray 9)) fun e w' => e = .returned (.bool b) ∧ (w.alloc (.cells (twoS.map Value.string).toArray 9)) = w' := by
  have := has_any twoS t w.heap.size 6 (w.alloc (.cells (twoS.map Value.string).toArray 9)) (by decide) (has_lits w _ twoS)
  rw [hb] at this
  exact this
theorem has_one (t : ByteArray) (w : World) (b : Bool) (nb : Nat) (hn : nb = w.heap.size) (hb : hasS oneS t = b) :
    Calls Try.prog 62 #[.slice (some ⟨nb, 0, none⟩) 17 17, .string t] (w.alloc (.cells (oneS.map Value.string).toArray 9)) fun e w' => e = .returned (.bool b) ∧ (w.alloc (.cells (oneS.map Value.string).toArray 9)) = w' := by
  subst hn
  have := has_any oneS t w.heap.size 17 (w.alloc (.cells (oneS.map Value.string).toArray 9)) (by decide) (has_lits w _ oneS)
  rw [hb] at this
  exact this
theorem below_two (w : World) (o p : Obj) : Below w.heap.size w ((w.alloc o).alloc p) := ((Below.refl _ w).alloc (Nat.le_refl _) o).alloc (by simp) p
theorem below_one (w : World) (o : Obj) : Below w.heap.size w (w.alloc o) := (Below.refl _ w).alloc (Nat.le_refl _) o

set_option maxRecDepth 100000 in
set_option maxHeartbeats 1000000 in
theorem sign_any (s : ByteArray) (i : Nat) (w : World) (hs : s.size ≤ 1048576) (hi : i < s.size) :
    Calls Try.prog 54 #[.string s, .int .i64 i] w fun e w' => e = .returned (.string (signT s i)) ∧ Below w.heap.size w w' := by
  by_cases hl2 : i + 1 < s.size
  · cases h2 : two s[i] s[i + 1]
    · have G2 : Hid (hasS twoS (s.extract i (i + 2)) = false) := by show _ = _; rw [two_has, ext2 s i hl2]; exact h2
      cases h1 : one s[i]
      · have G1 : Hid (hasS oneS (s.extract i (i + 1)) = false) := by show _ = _; rw [one_has, ext1 s i hi]; exact h1
        have HE : Hid (signT s i = ⟨#[]⟩) := by show _ = _; simp [signT, signW, hl2, h1, h2]
        clear h1 h2
        go_enter Try.func54, Try.ntmps54
        go_wp2_with fail
        refine (has_two (s.extract i (i + 2)) w false G2.out).mono ?_
        rintro e w1 ⟨rfl, rfl⟩
        go_wp2_with fail
        refine (has_one (s.extract i (i + 1)) (w.alloc (.cells (twoS.map Value.string).toArray 9)) false (w.heap.size + 1) (by simp) G1.out).mono ?_
        rintro e w1 ⟨rfl, rfl⟩
        go_wp2_with fail
        go_ret
        exact ⟨by rw [HE.out]; rfl, below_two _ _ _⟩
      · have G1 : Hid (hasS oneS (s.extract i (i + 1)) = true) := by show _ = _; rw [one_has, ext1 s i hi]; exact h1
        have HE : Hid (signT s i = s.extract i (i + 1)) := by show _ = _; simp [signT, signW, hl2, h1, h2]
        clear h1 h2
        go_enter Try.func54, Try.ntmps54
        go_wp2_with fail
        refine (has_two (s.extract i (i + 2)) w false G2.out).mono ?_
        rintro e w1 ⟨rfl, rfl⟩
        go_wp2_with fail
        refine (has_one (s.extract i (i + 1)) (w.alloc (.cells (twoS.map Value.string).toArray 9)) true (w.heap.size + 1) (by simp) G1.out).mono ?_
        rintro e w1 ⟨rfl, rfl⟩
        go_wp2_with fail
        go_ret
        exact ⟨by rw [HE.out]; rfl, below_two _ _ _⟩
    · have G2 : Hid (hasS twoS (s.extract i (i + 2)) = true) := by show _ = _; rw [two_has, ext2 s i hl2]; exact h2
      have HE : Hid (signT s i = s.extract i (i + 2)) := by show _ = _; simp [signT, signW, hl2, h2]
      clear h2
      go_enter Try.func54, Try.ntmps54
      go_wp2_with fail
      refine (has_two (s.extract i (i + 2)) w true G2.out).mono ?_
      rintro e w1 ⟨rfl, rfl⟩
      go_wp2_with fail
      go_ret
      exact ⟨by rw [HE.out]; rfl, below_one _ _⟩
  · cases h1 : one s[i]
    · have G1 : Hid (hasS oneS (s.extract i (i + 1)) = false) := by show _ = _; rw [one_has, ext1 s i hi]; exact h1
      have HE : Hid (signT s i = ⟨#[]⟩) := by show _ = _; simp [signT, signW, hl2, hi, h1]
      clear h1
      go_enter Try.func54, Try.ntmps54
      go_wp2_with fail
      refine (has_one (s.extract i (i + 1)) w false w.heap.size rfl G1.out).mono ?_
      rintro e w1 ⟨rfl, rfl⟩
      go_wp2_with fail
      go_ret
      exact ⟨by rw [HE.out]; rfl, below_one _ _⟩
    · have G1 : Hid (hasS oneS (s.extract i (i + 1)) = true) := by show _ = _; rw [one_has, ext1 s i hi]; exact h1
      have HE : Hid (signT s i = s.extract i (i + 1)) := by show _ = _; simp [signT, signW, hl2, hi, h1]
      clear h1
      go_enter Try.func54, Try.ntmps54
      go_wp2_with fail
      refine (has_one (s.extract i (i + 1)) w true w.heap.size rfl G1.out).mono ?_
      rintro e w1 ⟨rfl, rfl⟩
      go_wp2_with fail
      go_ret
      exact ⟨by rw [HE.out]; rfl, below_one _ _⟩
end Go.Proofs.Ytlmmomffanakiaa
