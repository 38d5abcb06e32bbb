/- Marked rows of flat things are found marked. -/
import Derived.Test.YtgibejgemokljaaOwM
import Derived.Deep.RegionHeld
namespace Go.Proofs.Ytgibejgemokljaa
open Go.RowKit

theorem IntF_cells {w : World} {S : Nat → Prop} {K n : Nat} {a : Option Addr} (h : RowD 1 IntOwn w S (mkF Intmk 1 K n) a) : n = 0 ∨ ∃ g, a = some ⟨g, 0, none⟩ ∧ g < w.heap.size ∧ ∀ m, m < n → w.cell? ⟨g, m, none⟩ = some (Intmc K m) := by
  rcases h with h | ⟨g, cs, T, rfl, h2, h3, h4, U, h5, h6⟩
  · left; have := congrArg List.length h; rwa [mkF_len] at this
  · refine .inr ⟨g, rfl, (Array.getElem?_eq_some_iff.1 h3).1, fun m hm => ?_⟩
    have hi : m / 1 < (mkF Intmk 1 K n).length := by rw [mkF_len]; omega
    obtain ⟨l, hO, _, hc⟩ := h6 (m / 1) hi
    rw [mkF_get] at hO
    obtain ⟨_, rfl⟩ := hO
    have h7 := hc (m % 1) (Nat.mod_lt _ (by decide))
    have h8 := Intmk_cell K (m / 1) (m % 1) (Nat.mod_lt _ (by decide))
    rw [show 1 * (m / 1) + m % 1 = m from Nat.div_add_mod m 1] at h7 h8
    rw [cell_of_row _ _ _ _ _ _ h3, h7, h8]
set_option maxRecDepth 100000 in
set_option maxHeartbeats 4000000 in
theorem hdIntS_any (n : Nat) (a : Option Addr) (cap K : Nat) (z : Int) (S : Nat → Prop) (w : World) (hR : RowD 1 IntOwn w S (mkF Intmk 1 K n) a) (hz : z = K) (hK : 0 < K) (hn : K + 1 * n ≤ 1099511627776) :
    Calls Try.prog 118 #[.slice a n cap, .int .i64 z] w fun e w' => e = .returned (.int .i64 ((K + 1 * n : Nat) : Int)) ∧ Below w.heap.size w w' := by
  subst hz
  have hx := IntF_cells hR
  clear hR
  go_enter Try.func118, Try.ntmps118
  go_wp2_with fail
  go_loopw [1, 5] (fun kk aa wr => ∃ i : Nat, kk = .int .i64 ((K + i : Nat) : Int) ∧ aa = .int .i64 i ∧ i ≤ n ∧ Below w.heap.size w wr) (fun _ aa _ => n - (intOf aa).toNat)
  case atStart => exact ⟨0, by simp, rfl, Nat.zero_le _, Below.refl _ _⟩
  case round =>
    obtain ⟨i, rfl, rfl, hi, hb⟩ := hrel
    by_cases hlt : i < n
    · obtain ⟨g, rfl, hg, fx⟩ : ∃ g, a = some ⟨g, 0, none⟩ ∧ g < w.heap.size ∧ ∀ m, m < n → w.cell? ⟨g, m, none⟩ = some (Intmc K m) := by rcases hx with h | h; omega; exact h
      have kx : g < wr.heap.size := Nat.lt_of_lt_of_le hg hb.size
      have x0 : wr.cell? ⟨g, i, none⟩ = some (.int .i64 ((K + (i) : Nat) : Int)) := ((hb.cell (p := ⟨g, i, none⟩) hg).trans (fx (i) (by omega))).trans (congrArg some (Intmc0 K i))
      clear hx fx
      go_wp2_with fail
      go_roundw
      case rel => exact ⟨i + 1, by go_num, by go_num, by omega, hb⟩
      case measure => simp [intOf]; omega
    · obtain rfl : i = n := by omega
      clear hx
      go_wp2_with fail
      go_ret
      exact ⟨by rw [Nat.one_mul]; rfl, hb⟩
theorem StringF_cells {w : World} {S : Nat → Prop} {K n : Nat} {a : Option Addr} (h : RowD 1 StrOwn w S (mkF Stringmk 1 K n) a) : n = 0 ∨ ∃ g, a = some ⟨g, 0, none⟩ ∧ g < w.heap.size ∧ ∀ m, m < n → w.cell? ⟨g, m, none⟩ = some (Stringmc K m) := by
  rcases h with h | ⟨g, cs, T, rfl, h2, h3, h4, U, h5, h6⟩
  · left; have := congrArg List.length h; rwa [mkF_len] at this
  · refine .inr ⟨g, rfl, (Array.getElem?_eq_some_iff.1 h3).1, fun m hm => ?_⟩
    have hi : m / 1 < (mkF Stringmk 1 K n).length := by rw [mkF_len]; omega
    obtain ⟨l, hO, _, hc⟩ := h6 (m / 1) hi
    rw [mkF_get] at hO
    obtain ⟨_, rfl⟩ := hO
    have h7 := hc (m % 1) (Nat.mod_lt _ (by decide))
    have h8 := Stringmk_cell K (m / 1) (m % 1) (Nat.mod_lt _ (by decide))
    rw [show 1 * (m / 1) + m % 1 = m from Nat.div_add_mod m 1] at h7 h8
    rw [cell_of_row _ _ _ _ _ _ h3, h7, h8]
set_option maxRecDepth 100000 in
set_option maxHeartbeats 4000000 in
theorem hdStringS_any (n : Nat) (a : Option Addr) (cap K : Nat) (z : Int) (S : Nat → Prop) (w : World) (hR : RowD 1 StrOwn w S (mkF Stringmk 1 K n) a) (hz : z = K) (hK : 0 < K) (hn : K + 1 * n ≤ 1099511627776) :
    Calls Try.prog 82 #[.slice a n cap, .int .i64 z] w fun e w' => e = .returned (.int .i64 ((K + 1 * n : Nat) : Int)) ∧ Below w.heap.size w w' := by
  subst hz
  have hx := StringF_cells hR
  clear hR
  go_enter Try.func82, Try.ntmps82
  go_wp2_with fail
  go_loopw [1, 5] (fun kk aa wr => ∃ i : Nat, kk = .int .i64 ((K + i : Nat) : Int) ∧ aa = .int .i64 i ∧ i ≤ n ∧ Below w.heap.size w wr) (fun _ aa _ => n - (intOf aa).toNat)
  case atStart => exact ⟨0, by simp, rfl, Nat.zero_le _, Below.refl _ _⟩
  case round =>
    obtain ⟨i, rfl, rfl, hi, hb⟩ := hrel
    by_cases hlt : i < n
    · obtain ⟨g, rfl, hg, fx⟩ : ∃ g, a = some ⟨g, 0, none⟩ ∧ g < w.heap.size ∧ ∀ m, m < n → w.cell? ⟨g, m, none⟩ = some (Stringmc K m) := by rcases hx with h | h; omega; exact h
      have kx : g < wr.heap.size := Nat.lt_of_lt_of_le hg hb.size
      obtain ⟨t0, ht0⟩ : ∃ t, t = (⟨(markB (K + (i))).toArray⟩ : ByteArray) := ⟨_, rfl⟩
      have x0 : wr.cell? ⟨g, i, none⟩ = some (.string t0) := ((hb.cell (p := ⟨g, i, none⟩) hg).trans (fx (i) (by omega))).trans (congrArg some ((Stringmc0 K i).trans (by rw [ht0])))
      have HT0 : Hid (t0 = (⟨(markB (K + (i))).toArray⟩ : ByteArray)) := ht0
      clear hx fx ht0
      go_wp2_with fail
      go_region_held (fun w' => w'.cell? ⟨g, i, none⟩ = some (.string t0)) (go_keep) (first | (go_at_call 108; refine (mark_at _ (K + (i)) _ (by push_cast; omega) (by omega) (by omega)).mono ?_; rintro e w1 ⟨rfl, hb1⟩; rw [← HT0.out]; have q10 := (hb1.cell (p := ⟨g, i, none⟩) kx).trans x0))
      have B1 : Below w.heap.size w w1 := hb.drew.trans (hb1.mono hb.size)
      have kx1 : g < w1.heap.size := Nat.lt_of_lt_of_le kx hb1.size
      go_wp2_with fail
      go_roundw
      case rel => exact ⟨i + 1, by go_num, by go_num, by omega, B1⟩
      case measure => simp [intOf]; omega
    · obtain rfl : i = n := by omega
      clear hx
      go_wp2_with fail
      go_ret
      exact ⟨by rw [Nat.one_mul]; rfl, hb⟩
theorem ValueF_cells {w : World} {S : Nat → Prop} {K n : Nat} {a : Option Addr} (h : RowD 3 ValOwn w S (mkF Valuemk 3 K n) a) : n = 0 ∨ ∃ g, a = some ⟨g, 0, none⟩ ∧ g < w.heap.size ∧ ∀ m, m < 3 * n → w.cell? ⟨g, m, none⟩ = some (Valuemc K m) := by
  rcases h with h | ⟨g, cs, T, rfl, h2, h3, h4, U, h5, h6⟩
  · left; have := congrArg List.length h; rwa [mkF_len] at this
  · refine .inr ⟨g, rfl, (Array.getElem?_eq_some_iff.1 h3).1, fun m hm => ?_⟩
    have hi : m / 3 < (mkF Valuemk 3 K n).length := by rw [mkF_len]; omega
    obtain ⟨l, hO, _, hc⟩ := h6 (m / 3) hi
    rw [mkF_get] at hO
    obtain ⟨_, rfl⟩ := hO
    have h7 := hc (m % 3) (Nat.mod_lt _ (by decide))
    have h8 := Valuemk_cell K (m / 3) (m % 3) (Nat.mod_lt _ (by decide))
    rw [show 3 * (m / 3) + m % 3 = m from Nat.div_add_mod m 3] at h7 h8
    rw [cell_of_row _ _ _ _ _ _ h3, h7, h8]
set_option maxRecDepth 100000 in
set_option maxHeartbeats 4000000 in
theorem hdValueS_any (n : Nat) (a : Option Addr) (cap K : Nat) (z : Int) (S : Nat → Prop) (w : World) (hR : RowD 3 ValOwn w S (mkF Valuemk 3 K n) a) (hz : z = K) (hK : 0 < K) (hn : K + 3 * n ≤ 1099511627776) :
    Calls Try.prog 115 #[.slice a n cap, .int .i64 z] w fun e w' => e = .returned (.int .i64 ((K + 3 * n : Nat) : Int)) ∧ Below w.heap.size w w' := by
  subst hz
  have hx := ValueF_cells hR
  clear hR
  go_enter Try.func115, Try.ntmps115
  go_wp2_with fail
  go_loopw [1, 5] (fun kk aa wr => ∃ i : Nat, kk = .int .i64 ((K + 3 * i : Nat) : Int) ∧ aa = .int .i64 i ∧ i ≤ n ∧ Below w.heap.size w wr) (fun _ aa _ => n - (intOf aa).toNat)
  case atStart => exact ⟨0, by simp, rfl, Nat.zero_le _, Below.refl _ _⟩
  case round =>
    obtain ⟨i, rfl, rfl, hi, hb⟩ := hrel
    by_cases hlt : i < n
    · obtain ⟨g, rfl, hg, fx⟩ : ∃ g, a = some ⟨g, 0, none⟩ ∧ g < w.heap.size ∧ ∀ m, m < 3 * n → w.cell? ⟨g, m, none⟩ = some (Valuemc K m) := by rcases hx with h | h; omega; exact h
      have kx : g < wr.heap.size := Nat.lt_of_lt_of_le hg hb.size
      have mW : i * 3 = 3 * i := Nat.mul_comm _ _
      obtain ⟨t2, ht2⟩ : ∃ t, t = (⟨(markB (K + (3 * i + 2))).toArray⟩ : ByteArray) := ⟨_, rfl⟩
      have x0 : wr.cell? ⟨g, 3 * i, none⟩ = some (.int .i64 ((K + (3 * i) : Nat) : Int)) := ((hb.cell (p := ⟨g, 3 * i, none⟩) hg).trans (fx (3 * i) (by omega))).trans (congrArg some (Valuemc0 K i))
      have x1 : wr.cell? ⟨g, 3 * i + 1, none⟩ = some (.int .i64 ((K + (3 * i + 1) : Nat) : Int)) := ((hb.cell (p := ⟨g, 3 * i + 1, none⟩) hg).trans (fx (3 * i + 1) (by omega))).trans (congrArg some (Valuemc1 K i))
      have x2 : wr.cell? ⟨g, 3 * i + 2, none⟩ = some (.string t2) := ((hb.cell (p := ⟨g, 3 * i + 2, none⟩) hg).trans (fx (3 * i + 2) (by omega))).trans (congrArg some ((Valuemc2 K i).trans (by rw [ht2])))
      have HT2 : Hid (t2 = (⟨(markB (K + (3 * i + 2))).toArray⟩ : ByteArray)) := ht2
      clear hx fx ht2
      go_wp2_with fail
      go_region_held (fun w' => w'.cell? ⟨g, 3 * i + 2, none⟩ = some (.string t2)) (go_keep) (first | (go_at_call 108; refine (mark_at _ (K + (3 * i + 2)) _ (by push_cast; omega) (by omega) (by omega)).mono ?_; rintro e w1 ⟨rfl, hb1⟩; rw [← HT2.out]; have q12 := (hb1.cell (p := ⟨g, 3 * i + 2, none⟩) kx).trans x2))
      have B1 : Below w.heap.size w w1 := hb.drew.trans (hb1.mono hb.size)
      have kx1 : g < w1.heap.size := Nat.lt_of_lt_of_le kx hb1.size
      go_wp2_with fail
      go_roundw
      case rel => exact ⟨i + 1, by go_num, by go_num, by omega, B1⟩
      case measure => simp [intOf]; omega
    · obtain rfl : i = n := by omega
      clear hx
      go_wp2_with fail
      go_ret
      exact ⟨rfl, hb⟩
theorem PairF_cells {w : World} {S : Nat → Prop} {K n : Nat} {a : Option Addr} (h : RowD 6 PairOwn w S (mkF Pairmk 6 K n) a) : n = 0 ∨ ∃ g, a = some ⟨g, 0, none⟩ ∧ g < w.heap.size ∧ ∀ m, m < 6 * n → w.cell? ⟨g, m, none⟩ = some (Pairmc K m) := by
  rcases h with h | ⟨g, cs, T, rfl, h2, h3, h4, U, h5, h6⟩
  · left; have := congrArg List.length h; rwa [mkF_len] at this
  · refine .inr ⟨g, rfl, (Array.getElem?_eq_some_iff.1 h3).1, fun m hm => ?_⟩
    have hi : m / 6 < (mkF Pairmk 6 K n).length := by rw [mkF_len]; omega
    obtain ⟨l, hO, _, hc⟩ := h6 (m / 6) hi
    rw [mkF_get] at hO
    obtain ⟨_, rfl⟩ := hO
    have h7 := hc (m % 6) (Nat.mod_lt _ (by decide))
    have h8 := Pairmk_cell K (m / 6) (m % 6) (Nat.mod_lt _ (by decide))
    rw [show 6 * (m / 6) + m % 6 = m from Nat.div_add_mod m 6] at h7 h8
    rw [cell_of_row _ _ _ _ _ _ h3, h7, h8]
set_option maxRecDepth 100000 in
set_option maxHeartbeats 4000000 in
theorem hdPairS_any (n : Nat) (a : Option Addr) (cap K : Nat) (z : Int) (S : Nat → Prop) (w : World) (hR : RowD 6 PairOwn w S (mkF Pairmk 6 K n) a) (hz : z = K) (hK : 0 < K) (hn : K + 6 * n ≤ 1099511627776) :
    Calls Try.prog 136 #[.slice a n cap, .int .i64 z] w fun e w' => e = .returned (.int .i64 ((K + 6 * n : Nat) : Int)) ∧ Below w.heap.size w w' := by
  subst hz
  have hx := PairF_cells hR
  clear hR
  go_enter Try.func136, Try.ntmps136
  go_wp2_with fail
  go_loopw [1, 5] (fun kk aa wr => ∃ i : Nat, kk = .int .i64 ((K + 6 * i : Nat) : Int) ∧ aa = .int .i64 i ∧ i ≤ n ∧ Below w.heap.size w wr) (fun _ aa _ => n - (intOf aa).toNat)
  case atStart => exact ⟨0, by simp, rfl, Nat.zero_le _, Below.refl _ _⟩
  case round =>
    obtain ⟨i, rfl, rfl, hi, hb⟩ := hrel
    by_cases hlt : i < n
    · obtain ⟨g, rfl, hg, fx⟩ : ∃ g, a = some ⟨g, 0, none⟩ ∧ g < w.heap.size ∧ ∀ m, m < 6 * n → w.cell? ⟨g, m, none⟩ = some (Pairmc K m) := by rcases hx with h | h; omega; exact h
      have kx : g < wr.heap.size := Nat.lt_of_lt_of_le hg hb.size
      have mW : i * 6 = 6 * i := Nat.mul_comm _ _
      obtain ⟨t2, ht2⟩ : ∃ t, t = (⟨(markB (K + (6 * i + 2))).toArray⟩ : ByteArray) := ⟨_, rfl⟩
      obtain ⟨t5, ht5⟩ : ∃ t, t = (⟨(markB (K + (6 * i + 5))).toArray⟩ : ByteArray) := ⟨_, rfl⟩
      have x0 : wr.cell? ⟨g, 6 * i, none⟩ = some (.int .i64 ((K + (6 * i) : Nat) : Int)) := ((hb.cell (p := ⟨g, 6 * i, none⟩) hg).trans (fx (6 * i) (by omega))).trans (congrArg some (Pairmc0 K i))
      have x1 : wr.cell? ⟨g, 6 * i + 1, none⟩ = some (.int .i64 ((K + (6 * i + 1) : Nat) : Int)) := ((hb.cell (p := ⟨g, 6 * i + 1, none⟩) hg).trans (fx (6 * i + 1) (by omega))).trans (congrArg some (Pairmc1 K i))
      have x2 : wr.cell? ⟨g, 6 * i + 2, none⟩ = some (.string t2) := ((hb.cell (p := ⟨g, 6 * i + 2, none⟩) hg).trans (fx (6 * i + 2) (by omega))).trans (congrArg some ((Pairmc2 K i).trans (by rw [ht2])))
      have x3 : wr.cell? ⟨g, 6 * i + 3, none⟩ = some (.int .i64 ((K + (6 * i + 3) : Nat) : Int)) := ((hb.cell (p := ⟨g, 6 * i + 3, none⟩) hg).trans (fx (6 * i + 3) (by omega))).trans (congrArg some (Pairmc3 K i))
      have x4 : wr.cell? ⟨g, 6 * i + 4, none⟩ = some (.int .i64 ((K + (6 * i + 4) : Nat) : Int)) := ((hb.cell (p := ⟨g, 6 * i + 4, none⟩) hg).trans (fx (6 * i + 4) (by omega))).trans (congrArg some (Pairmc4 K i))
      have x5 : wr.cell? ⟨g, 6 * i + 5, none⟩ = some (.string t5) := ((hb.cell (p := ⟨g, 6 * i + 5, none⟩) hg).trans (fx (6 * i + 5) (by omega))).trans (congrArg some ((Pairmc5 K i).trans (by rw [ht5])))
      have HT2 : Hid (t2 = (⟨(markB (K + (6 * i + 2))).toArray⟩ : ByteArray)) := ht2
      have HT5 : Hid (t5 = (⟨(markB (K + (6 * i + 5))).toArray⟩ : ByteArray)) := ht5
      clear hx fx ht2 ht5
      go_wp2_with fail
      go_region_held (fun w' => w'.cell? ⟨g, 6 * i + 2, none⟩ = some (.string t2) ∧ w'.cell? ⟨g, 6 * i + 3, none⟩ = some (.int .i64 ((K + (6 * i + 3) : Nat) : Int)) ∧ w'.cell? ⟨g, 6 * i + 4, none⟩ = some (.int .i64 ((K + (6 * i + 4) : Nat) : Int)) ∧ w'.cell? ⟨g, 6 * i + 5, none⟩ = some (.string t5)) (go_keep) (first | (go_at_call 108; refine (mark_at _ (K + (6 * i + 2)) _ (by push_cast; omega) (by omega) (by omega)).mono ?_; rintro e w1 ⟨rfl, hb1⟩; rw [← HT2.out]; have q12 := (hb1.cell (p := ⟨g, 6 * i + 2, none⟩) kx).trans x2; have q13 := (hb1.cell (p := ⟨g, 6 * i + 3, none⟩) kx).trans x3; have q14 := (hb1.cell (p := ⟨g, 6 * i + 4, none⟩) kx).trans x4; have q15 := (hb1.cell (p := ⟨g, 6 * i + 5, none⟩) kx).trans x5))
      have B1 : Below w.heap.size w w1 := hb.drew.trans (hb1.mono hb.size)
      have kx1 : g < w1.heap.size := Nat.lt_of_lt_of_le kx hb1.size
      go_wp2_with fail
      go_region_held (fun w' => w'.cell? ⟨g, 6 * i + 5, none⟩ = some (.string t5)) (go_keep) (first | (go_at_call 108; refine (mark_at _ (K + (6 * i + 5)) _ (by push_cast; omega) (by omega) (by omega)).mono ?_; rintro e w2 ⟨rfl, hb2⟩; rw [← HT5.out]; have q25 := (hb2.cell (p := ⟨g, 6 * i + 5, none⟩) kx1).trans q15))
      have B2 : Below w.heap.size w w2 := B1.drew.trans (hb2.mono B1.size)
      have kx2 : g < w2.heap.size := Nat.lt_of_lt_of_le kx1 hb2.size
      go_wp2_with fail
      go_roundw
      case rel => exact ⟨i + 1, by go_num, by go_num, by omega, B2⟩
      case measure => simp [intOf]; omega
    · obtain rfl : i = n := by omega
      clear hx
      go_wp2_with fail
      go_ret
      exact ⟨rfl, hb⟩
end Go.Proofs.Ytgibejgemokljaa
