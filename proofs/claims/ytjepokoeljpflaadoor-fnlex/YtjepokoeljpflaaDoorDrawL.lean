/- What FnLex draws: a keyword or none, a text to be quoted, a text to be read. -/
import Derived.Test.YtjepokoeljpflaaDoorDrawK
import Derived.Test.YtjepokoeljpflaaDoorHasW
namespace Go.Proofs.YtjepokoeljpflaaDoor
open Go.RowKit

def w1S : List ByteArray := [⟨#[120]⟩, ⟨#[121]⟩, ⟨#[102]⟩, ⟨#[108, 111, 99, 97, 108]⟩, ⟨#[101, 110, 100]⟩, ⟨#[105, 102]⟩, ⟨#[61, 61]⟩, ⟨#[61]⟩, ⟨#[46, 46]⟩, ⟨#[46]⟩, ⟨#[43]⟩, ⟨#[45, 45]⟩, ⟨#[10]⟩, ⟨#[32]⟩, ⟨#[49, 50]⟩, ⟨#[48, 48, 55]⟩, ⟨#[34, 97, 92, 110, 34]⟩, ⟨#[34, 92, 34, 34]⟩, ⟨#[40]⟩, ⟨#[41]⟩, ⟨#[123]⟩, ⟨#[125]⟩, ⟨#[47, 47]⟩, ⟨#[126, 61]⟩, ⟨#[95, 97, 49]⟩]
def kdS : List ByteArray := [⟨#[97, 110, 100]⟩, ⟨#[98, 114, 101, 97, 107]⟩, ⟨#[100, 111]⟩, ⟨#[101, 108, 115, 101]⟩, ⟨#[101, 110, 100]⟩, ⟨#[102, 97, 108, 115, 101]⟩, ⟨#[102, 117, 110, 99, 116, 105, 111, 110]⟩, ⟨#[105, 102]⟩, ⟨#[108, 111, 99, 97, 108]⟩, ⟨#[110, 105, 108]⟩, ⟨#[110, 111, 116]⟩, ⟨#[111, 114]⟩, ⟨#[114, 101, 116, 117, 114, 110]⟩, ⟨#[116, 104, 101, 110]⟩, ⟨#[116, 114, 117, 101]⟩, ⟨#[119, 104, 105, 108, 101]⟩, ⟨#[120]⟩, ⟨#[]⟩, ⟨#[65, 110, 100]⟩, ⟨#[101, 108, 115, 101, 105, 102]⟩]
def bdS : List ByteArray := [⟨#[126]⟩, ⟨#[34, 97]⟩, ⟨#[34, 92, 120, 34]⟩, ⟨#[49, 48, 48, 48, 48, 48, 48, 48, 48, 48, 48, 48, 48]⟩, ⟨#[57, 57, 57, 57, 57, 57, 57, 57, 57, 57, 57, 57]⟩, ⟨#[48, 48, 48, 48, 48, 48, 48, 48, 48, 48, 48, 48, 48, 48, 48, 48, 48, 48, 49]⟩, ⟨#[33]⟩, ⟨#[34, 97, 10, 98, 34]⟩, ⟨#[0]⟩]
def qtS : List ByteArray := [⟨#[97]⟩, ⟨#[10]⟩, ⟨#[34]⟩, ⟨#[92]⟩, ⟨#[110]⟩, ⟨#[0]⟩, ⟨#[195, 169]⟩]
def szOf : Value → Nat
  | .string s => s.size
  | _ => 0
theorem w1S_le (t : ByteArray) (h : t ∈ w1S) : t.size ≤ 5 := (show ∀ t ∈ w1S, t.size ≤ 5 by decide) t h
theorem kdS_le (t : ByteArray) (h : t ∈ kdS) : t.size ≤ 8 := (show ∀ t ∈ kdS, t.size ≤ 8 by decide) t h
theorem bdS_le (t : ByteArray) (h : t ∈ bdS) : t.size ≤ 19 := (show ∀ t ∈ bdS, t.size ≤ 19 by decide) t h
theorem qtS_le (t : ByteArray) (h : t ∈ qtS) : t.size ≤ 2 := (show ∀ t ∈ qtS, t.size ≤ 2 by decide) t h

set_option maxRecDepth 100000 in
set_option maxHeartbeats 800000 in
theorem drawKw_any (a : Option Addr) (len cap : Nat) (w : World) (hc : IsCode w w.heap.size a len cap) :
    Calls Tryd.prog 10 #[.slice a len cap] w fun e w' => ∃ s : ByteArray, e = .returned (.string s) ∧ s.size ≤ 8 ∧ Below w.heap.size w w' := by
  go_enter Tryd.func10, Tryd.ntmps10
  go_wp2_with fail
  refine (new_any w.heap.size a len cap w hc (Nat.le_refl _)).mono ?_
  rintro e w1 ⟨rfl, hC1, hb1⟩
  have hlt := cur_lt hC1
  go_wp2_with fail
  refine (pick_any w.heap.size w.heap.size kdS w1.heap.size 20 _ (cur_alloc hC1 _) (by omega) (by decide) (by decide) (has_lits w1 _ kdS)).mono ?_
  rintro e w3 ⟨t, rfl, ht, hd3⟩
  have ht4 := kdS_le t ht
  clear ht
  go_wp2_with fail
  go_ret
  exact ⟨t, rfl, ht4, (hb1.alloc hb1.size _).trans (hd3.below (by simp; have := hb1.size; omega))⟩

set_option maxRecDepth 100000 in
set_option maxHeartbeats 800000 in
theorem drawQt_any (a : Option Addr) (len cap : Nat) (w : World) (hc : IsCode w w.heap.size a len cap) :
    Calls Tryd.prog 9 #[.slice a len cap] w fun e w' => ∃ s : ByteArray, e = .returned (.string s) ∧ s.size ≤ 16 ∧ Below w.heap.size w w' := by
  go_enter Tryd.func9, Tryd.ntmps9
  go_wp2_with fail
  refine (new_any w.heap.size a len cap w hc (Nat.le_refl _)).mono ?_
  rintro e w1 ⟨rfl, hC1, hb1⟩
  go_wp2_with fail
  refine (below_any w.heap.size w.heap.size 8 w1 hC1 (by omega)).mono ?_
  rintro e w2 ⟨n, rfl, hn0, _, hn1, hd2⟩
  have hn7 : n < 8 := hn1 (by omega)
  have hb2 : Below w.heap.size w w2 := hb1.trans (hd2.below hb1.size)
  have hC2 := hd2.cur
  clear hn1
  go_wp2_with fail
  go_loopw [4, 6] (fun v i wr => ∃ (k : Nat) (s : ByteArray), k ≤ 8 ∧ i = .int .i64 k ∧ v = .string s ∧ s.size ≤ 2 * k ∧ Cur wr w.heap.size w.heap.size ∧ Below w.heap.size w wr) (fun _ i _ => 8 - (intOf i).toNat)
  case atStart => exact ⟨0, ⟨#[]⟩, by omega, rfl, rfl, by decide, hC2, hb2⟩
  case round =>
    obtain ⟨k, s, hk, rfl, rfl, hs, hC, hb⟩ := hrel
    have hlt := cur_lt hC
    by_cases hkn : (k : Int) < n
    · go_wp2_with fail
      refine (pick_any w.heap.size w.heap.size qtS wr.heap.size 7 _ (cur_alloc hC _) (by omega) (by decide) (by decide) (has_lits wr _ qtS)).mono ?_
      rintro e w3 ⟨t, rfl, ht, hd3⟩
      have ht4 := qtS_le t ht
      clear ht
      go_wp2_with fail
      go_roundw
      case rel => exact ⟨k + 1, s ++ t, by omega, by go_num, rfl, by rw [ByteArray.size_append]; omega, hd3.cur, (hb.alloc hb.size _).trans (hd3.below (by simp; have := hb.size; omega))⟩
      case measure => simp [intOf]; omega
    · have hkn' : n ≤ k := by omega
      go_wp2_with fail
      go_ret
      exact ⟨s, rfl, by omega, hb⟩

set_option maxRecDepth 100000 in
set_option maxHeartbeats 800000 in
theorem word1_any (B c : Nat) (w : World) (hC : Cur w B c) :
    Calls Tryd.prog 21 #[.pointer (some ⟨c, 0, none⟩)] w fun e w' => ∃ s : ByteArray, e = .returned (.string s) ∧ s.size ≤ 5 ∧ Drawn B c w w' := by
  have hlt := cur_lt hC
  go_enter Tryd.func21, Tryd.ntmps21
  go_wp2_with fail
  refine (pick_any B c w1S w.heap.size 25 _ (cur_alloc hC _) (by omega) (by decide) (by decide) (has_lits w _ w1S)).mono ?_
  rintro e w3 ⟨t, rfl, ht, hd3⟩
  have ht4 := w1S_le t ht
  clear ht
  go_wp2_with fail
  go_ret
  exact ⟨t, rfl, ht4, ((Drawn.refl hC).alloc _).trans hd3⟩

set_option maxRecDepth 100000 in
set_option maxHeartbeats 800000 in
theorem drawLex_any (a : Option Addr) (len cap : Nat) (w : World) (hc : IsCode w w.heap.size a len cap) :
    Calls Tryd.prog 6 #[.slice a len cap] w fun e w' => ∃ s : ByteArray, e = .returned (.string s) ∧ s.size ≤ 5000 ∧ Below w.heap.size w w' := by
  go_enter Tryd.func6, Tryd.ntmps6
  go_wp2_with fail
  refine (new_any w.heap.size a len cap w hc (Nat.le_refl _)).mono ?_
  rintro e w1 ⟨rfl, hC1, hb1⟩
  go_wp2_with fail
  refine (below_any w.heap.size w.heap.size 12 w1 hC1 (by omega)).mono ?_
  rintro e w2 ⟨n, rfl, hn0, _, hn1, hd2⟩
  have hn7 : n < 12 := hn1 (by omega)
  have hb2 : Below w.heap.size w w2 := hb1.trans (hd2.below hb1.size)
  have hC2 := hd2.cur
  clear hn1
  go_wp2_with fail
  go_loopw [4, 6] (fun v i wr => ∃ (k : Nat) (s : ByteArray), k ≤ 12 ∧ i = .int .i64 k ∧ v = .string s ∧ s.size ≤ 6 * k ∧ Cur wr w.heap.size w.heap.size ∧ Below w.heap.size w wr) (fun _ i _ => 12 - (intOf i).toNat)
  case atStart => exact ⟨0, ⟨#[]⟩, by omega, rfl, rfl, by decide, hC2, hb2⟩
  case round =>
    obtain ⟨k, s, hk, rfl, rfl, hs, hC, hb⟩ := hrel
    have hlt := cur_lt hC
    by_cases hkn : (k : Int) < n
    · go_wp2_with fail
      refine (word1_any w.heap.size w.heap.size _ hC).mono ?_
      rintro e w3 ⟨t, rfl, ht, hd3⟩
      have hb3 := hb.trans (hd3.below hb.size)
      have hC3 := hd3.cur
      have hst : (s ++ t).size ≤ 6 * k + 5 := by rw [ByteArray.size_append]; omega
      go_wp2_with fail
      refine (once_any w.heap.size w.heap.size 2 _ hC3 (by omega)).mono ?_
      rintro e w4 ⟨x, rfl, hd4⟩
      have hb4 := hb3.trans (hd4.below hb3.size)
      have hC4 := hd4.cur
      cases x
      · go_wp2_with fail
        go_roundw
        case rel => exact ⟨k + 1, s ++ t, by omega, by go_num, rfl, by omega, hC4, hb4⟩
        case measure => simp [intOf]; omega
      · go_wp2_with fail
        go_roundw
        case rel => exact ⟨k + 1, s ++ t ++ ⟨#[32]⟩, by omega, by go_num, rfl, by rw [ByteArray.size_append]; show (s ++ t).size + 1 ≤ _; omega, hC4, hb4⟩
        case measure => simp [intOf]; omega
    · have hkn' : n ≤ k := by omega
      go_wp2_with fail
      refine (below_any w.heap.size w.heap.size 14 _ hC (by omega)).mono ?_
      rintro e w3 ⟨x, rfl, hx0, _, hx1, hd3⟩
      have hx14 : x < 14 := hx1 (by omega)
      clear hx1
      have hb3 := hb.trans (hd3.below hb.size)
      have hC3 := hd3.cur
      have hlt3 := cur_lt hC3
      by_cases h0 : x = 0
      · subst h0
        go_wp2_with fail
        refine (pick_any w.heap.size w.heap.size bdS w3.heap.size 9 _ (cur_alloc hC3 _) (by omega) (by decide) (by decide) (has_lits w3 _ bdS)).mono ?_
        rintro e w4 ⟨t, rfl, ht, hd4⟩
        have ht4 := bdS_le t ht
        clear ht
        have hb4 := (hb3.alloc hb3.size _).trans (hd4.below (by simp; have := hb3.size; omega))
        go_wp2_with fail
        go_ret
        exact ⟨s ++ t, rfl, by rw [ByteArray.size_append]; omega, hb4⟩
      · by_cases h1 : x = 1
        · subst h1
          go_wp2_with fail
          go_loopw [4] (fun v wr => ∃ s : ByteArray, v = .string s ∧ s.size ≤ 4001 ∧ Cur wr w.heap.size w.heap.size ∧ Below w.heap.size w wr) (fun v _ => 4001 - szOf v)
          case atStart => exact ⟨s, rfl, by omega, hC3, hb3⟩
          case round =>
            clear hC hC3 hb3 hd3
            obtain ⟨s, rfl, hs, hC, hb⟩ := hrel
            go_wp2_with fail
            refine (below_any w.heap.size w.heap.size 2 _ hC (by omega)).mono ?_
            rintro e w5 ⟨y, rfl, hy0, _, hy1, hd5⟩
            have hy2 : y < 2 := hy1 (by omega)
            clear hy1
            have hb5 := hb.trans (hd5.below hb.size)
            have hC5 := hd5.cur
            by_cases hlt4 : (s.size : Int) < 4000 + y
            · go_wp2_with fail
              go_roundw
              case rel => exact ⟨s ++ ⟨#[32]⟩, rfl, by rw [ByteArray.size_append]; show s.size + 1 ≤ _; omega, hC5, hb5⟩
              case measure => simp only [szOf, ByteArray.size_append]; show 4001 - (s.size + 1) < 4001 - s.size; omega
            · go_wp2_with fail
              go_ret
              exact ⟨s, rfl, by omega, hb5⟩
        · go_wp2_with fail
          go_ret
          exact ⟨s, rfl, by omega, hb3⟩
end Go.Proofs.YtjepokoeljpflaaDoor
