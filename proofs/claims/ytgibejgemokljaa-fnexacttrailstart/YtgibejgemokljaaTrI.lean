/- Code is found marked. -/
import Derived.Test.YtgibejgemokljaaOwM
import Derived.Test.YtgibejgemokljaaOwH
import Derived.Test.YtgibejgemokljaaOwQ
import Derived.Deep.RegionHeld
namespace Go.Proofs.Ytgibejgemokljaa
open Go.RowKit

theorem UpF_cells {w : World} {S : Nat → Prop} {K n : Nat} {a : Option Addr} (h : RowD 2 UpOwn w S (mkF Upmk 2 K n) a) : n = 0 ∨ ∃ g, a = some ⟨g, 0, none⟩ ∧ g < w.heap.size ∧ ∀ m, m < 2 * n → w.cell? ⟨g, m, none⟩ = some (Upmc K m) := by
  rcases h with h | ⟨g, cs, T, rfl, h2, h3, h4, U, h5, h6⟩
  · left; have := congrArg List.length h; rwa [mkF_len] at this
  · refine .inr ⟨g, rfl, (Array.getElem?_eq_some_iff.1 h3).1, fun m hm => ?_⟩
    have hi : m / 2 < (mkF Upmk 2 K n).length := by rw [mkF_len]; omega
    obtain ⟨l, hO, _, hc⟩ := h6 (m / 2) hi
    rw [mkF_get] at hO
    obtain ⟨_, rfl⟩ := hO
    have h7 := hc (m % 2) (Nat.mod_lt _ (by decide))
    have h8 := Upmk_cell K (m / 2) (m % 2) (Nat.mod_lt _ (by decide))
    rw [show 2 * (m / 2) + m % 2 = m from Nat.div_add_mod m 2] at h7 h8
    rw [cell_of_row _ _ _ _ _ _ h3, h7, h8]
set_option maxRecDepth 100000 in
set_option maxHeartbeats 4000000 in
theorem hdUpS_any (n : Nat) (a : Option Addr) (cap K : Nat) (z : Int) (S : Nat → Prop) (w : World) (hR : RowD 2 UpOwn w S (mkF Upmk 2 K n) a) (hz : z = K) (hK : 0 < K) (hn : K + 2 * n ≤ 1099511627776) :
    Calls Try.prog 111 #[.slice a n cap, .int .i64 z] w fun e w' => e = .returned (.int .i64 ((K + 2 * n : Nat) : Int)) ∧ Below w.heap.size w w' := by
  subst hz
  have hx := UpF_cells hR
  clear hR
  go_enter Try.func111, Try.ntmps111
  go_wp2_with fail
  go_loopw [1, 5] (fun kk aa wr => ∃ i : Nat, kk = .int .i64 ((K + 2 * i : Nat) : Int) ∧ aa = .int .i64 i ∧ i ≤ n ∧ Below w.heap.size w wr) (fun _ aa _ => n - (intOf aa).toNat)
  case atStart => exact ⟨0, by simp, rfl, Nat.zero_le _, Below.refl _ _⟩
  case round =>
    obtain ⟨i, rfl, rfl, hi, hb⟩ := hrel
    by_cases hlt : i < n
    · obtain ⟨g, rfl, hg, fx⟩ : ∃ g, a = some ⟨g, 0, none⟩ ∧ g < w.heap.size ∧ ∀ m, m < 2 * n → w.cell? ⟨g, m, none⟩ = some (Upmc K m) := by rcases hx with h | h; omega; exact h
      have kx : g < wr.heap.size := Nat.lt_of_lt_of_le hg hb.size
      have mW : i * 2 = 2 * i := Nat.mul_comm _ _
      have x0 : wr.cell? ⟨g, 2 * i, none⟩ = some (.bool (((K : Int) + 2 * (i : Int)) % 3 == 0)) := ((hb.cell (p := ⟨g, 2 * i, none⟩) hg).trans (fx (2 * i) (by omega))).trans (congrArg some ((Upmc0 K i).trans (congrArg Value.bool (by rw [Bool.eq_iff_iff]; simp only [decide_eq_true_eq, beq_iff_eq]; omega))))
      have x1 : wr.cell? ⟨g, 2 * i + 1, none⟩ = some (.int .i64 ((K + (2 * i + 1) : Nat) : Int)) := ((hb.cell (p := ⟨g, 2 * i + 1, none⟩) hg).trans (fx (2 * i + 1) (by omega))).trans (congrArg some (Upmc1 K i))
      clear hx fx
      go_wp2_with fail
      go_roundw
      case rel => exact ⟨i + 1, by go_num, by go_num, by omega, hb⟩
      case measure => simp [intOf]; omega
    · obtain rfl : i = n := by omega
      clear hx
      go_wp2_with fail
      go_ret
      exact ⟨rfl, hb⟩
theorem InstrF_cells {w : World} {S : Nat → Prop} {K n : Nat} {a : Option Addr} (h : RowD 7 InstrOwn w S (mkF Instrmk 7 K n) a) : n = 0 ∨ ∃ g, a = some ⟨g, 0, none⟩ ∧ g < w.heap.size ∧ ∀ m, m < 7 * n → w.cell? ⟨g, m, none⟩ = some (Instrmc K m) := by
  rcases h with h | ⟨g, cs, T, rfl, h2, h3, h4, U, h5, h6⟩
  · left; have := congrArg List.length h; rwa [mkF_len] at this
  · refine .inr ⟨g, rfl, (Array.getElem?_eq_some_iff.1 h3).1, fun m hm => ?_⟩
    have hi : m / 7 < (mkF Instrmk 7 K n).length := by rw [mkF_len]; omega
    obtain ⟨l, hO, _, hc⟩ := h6 (m / 7) hi
    rw [mkF_get] at hO
    obtain ⟨_, rfl⟩ := hO
    have h7 := hc (m % 7) (Nat.mod_lt _ (by decide))
    have h8 := Instrmk_cell K (m / 7) (m % 7) (Nat.mod_lt _ (by decide))
    rw [show 7 * (m / 7) + m % 7 = m from Nat.div_add_mod m 7] at h7 h8
    rw [cell_of_row _ _ _ _ _ _ h3, h7, h8]
set_option maxRecDepth 100000 in
set_option maxHeartbeats 4000000 in
theorem hdInstrS_any (n : Nat) (a : Option Addr) (cap K : Nat) (z : Int) (S : Nat → Prop) (w : World) (hR : RowD 7 InstrOwn w S (mkF Instrmk 7 K n) a) (hz : z = K) (hK : 0 < K) (hn : K + 7 * n ≤ 1099511627776) :
    Calls Try.prog 112 #[.slice a n cap, .int .i64 z] w fun e w' => e = .returned (.int .i64 ((K + 7 * n : Nat) : Int)) ∧ Below w.heap.size w w' := by
  subst hz
  have hx := InstrF_cells hR
  clear hR
  go_enter Try.func112, Try.ntmps112
  go_wp2_with fail
  go_loopw [1, 5] (fun kk aa wr => ∃ i : Nat, kk = .int .i64 ((K + 7 * i : Nat) : Int) ∧ aa = .int .i64 i ∧ i ≤ n ∧ Below w.heap.size w wr) (fun _ aa _ => n - (intOf aa).toNat)
  case atStart => exact ⟨0, by simp, rfl, Nat.zero_le _, Below.refl _ _⟩
  case round =>
    obtain ⟨i, rfl, rfl, hi, hb⟩ := hrel
    by_cases hlt : i < n
    · obtain ⟨g, rfl, hg, fx⟩ : ∃ g, a = some ⟨g, 0, none⟩ ∧ g < w.heap.size ∧ ∀ m, m < 7 * n → w.cell? ⟨g, m, none⟩ = some (Instrmc K m) := by rcases hx with h | h; omega; exact h
      have kx : g < wr.heap.size := Nat.lt_of_lt_of_le hg hb.size
      have mW : i * 7 = 7 * i := Nat.mul_comm _ _
      obtain ⟨t4, ht4⟩ : ∃ t, t = (⟨(markB (K + (7 * i + 4))).toArray⟩ : ByteArray) := ⟨_, rfl⟩
      obtain ⟨t5, ht5⟩ : ∃ t, t = (⟨(markB (K + (7 * i + 5))).toArray⟩ : ByteArray) := ⟨_, rfl⟩
      have x0 : wr.cell? ⟨g, 7 * i, none⟩ = some (.int .i64 ((K + (7 * i) : Nat) : Int)) := ((hb.cell (p := ⟨g, 7 * i, none⟩) hg).trans (fx (7 * i) (by omega))).trans (congrArg some (Instrmc0 K i))
      have x1 : wr.cell? ⟨g, 7 * i + 1, none⟩ = some (.int .i64 ((K + (7 * i + 1) : Nat) : Int)) := ((hb.cell (p := ⟨g, 7 * i + 1, none⟩) hg).trans (fx (7 * i + 1) (by omega))).trans (congrArg some (Instrmc1 K i))
      have x2 : wr.cell? ⟨g, 7 * i + 2, none⟩ = some (.int .i64 ((K + (7 * i + 2) : Nat) : Int)) := ((hb.cell (p := ⟨g, 7 * i + 2, none⟩) hg).trans (fx (7 * i + 2) (by omega))).trans (congrArg some (Instrmc2 K i))
      have x3 : wr.cell? ⟨g, 7 * i + 3, none⟩ = some (.int .i64 ((K + (7 * i + 3) : Nat) : Int)) := ((hb.cell (p := ⟨g, 7 * i + 3, none⟩) hg).trans (fx (7 * i + 3) (by omega))).trans (congrArg some (Instrmc3 K i))
      have x4 : wr.cell? ⟨g, 7 * i + 4, none⟩ = some (.string t4) := ((hb.cell (p := ⟨g, 7 * i + 4, none⟩) hg).trans (fx (7 * i + 4) (by omega))).trans (congrArg some ((Instrmc4 K i).trans (by rw [ht4])))
      have x5 : wr.cell? ⟨g, 7 * i + 5, none⟩ = some (.string t5) := ((hb.cell (p := ⟨g, 7 * i + 5, none⟩) hg).trans (fx (7 * i + 5) (by omega))).trans (congrArg some ((Instrmc5 K i).trans (by rw [ht5])))
      have x6 : wr.cell? ⟨g, 7 * i + 6, none⟩ = some (.int .i64 ((K + (7 * i + 6) : Nat) : Int)) := ((hb.cell (p := ⟨g, 7 * i + 6, none⟩) hg).trans (fx (7 * i + 6) (by omega))).trans (congrArg some (Instrmc6 K i))
      have HT4 : Hid (t4 = (⟨(markB (K + (7 * i + 4))).toArray⟩ : ByteArray)) := ht4
      have HT5 : Hid (t5 = (⟨(markB (K + (7 * i + 5))).toArray⟩ : ByteArray)) := ht5
      clear hx fx ht4 ht5
      go_wp2_with fail
      go_region_held (fun w' => w'.cell? ⟨g, 7 * i + 4, none⟩ = some (.string t4) ∧ w'.cell? ⟨g, 7 * i + 5, none⟩ = some (.string t5) ∧ w'.cell? ⟨g, 7 * i + 6, none⟩ = some (.int .i64 ((K + (7 * i + 6) : Nat) : Int))) (go_keep) (first | (go_at_call 108; refine (mark_at _ (K + (7 * i + 4)) _ (by push_cast; omega) (by omega) (by omega)).mono ?_; rintro e w1 ⟨rfl, hb1⟩; rw [← HT4.out]; have q14 := (hb1.cell (p := ⟨g, 7 * i + 4, none⟩) kx).trans x4; have q15 := (hb1.cell (p := ⟨g, 7 * i + 5, none⟩) kx).trans x5; have q16 := (hb1.cell (p := ⟨g, 7 * i + 6, none⟩) kx).trans x6))
      have B1 : Below w.heap.size w w1 := hb.drew.trans (hb1.mono hb.size)
      have kx1 : g < w1.heap.size := Nat.lt_of_lt_of_le kx hb1.size
      go_wp2_with fail
      go_region_held (fun w' => w'.cell? ⟨g, 7 * i + 5, none⟩ = some (.string t5) ∧ w'.cell? ⟨g, 7 * i + 6, none⟩ = some (.int .i64 ((K + (7 * i + 6) : Nat) : Int))) (go_keep) (first | (go_at_call 108; refine (mark_at _ (K + (7 * i + 5)) _ (by push_cast; omega) (by omega) (by omega)).mono ?_; rintro e w2 ⟨rfl, hb2⟩; rw [← HT5.out]; have q25 := (hb2.cell (p := ⟨g, 7 * i + 5, none⟩) kx1).trans q15; have q26 := (hb2.cell (p := ⟨g, 7 * i + 6, none⟩) kx1).trans q16))
      have B2 : Below w.heap.size w w2 := B1.drew.trans (hb2.mono B1.size)
      have kx2 : g < w2.heap.size := Nat.lt_of_lt_of_le kx1 hb2.size
      go_wp2_with fail
      go_roundw
      case rel => exact ⟨i + 1, by go_num, by go_num, by omega, B2⟩
      case measure => simp [intOf]; omega
    · obtain rfl : i = n := by omega
      clear hx
      go_wp2_with fail
      go_ret
      exact ⟨rfl, hb⟩
theorem NameF_cells {w : World} {S : Nat → Prop} {K n : Nat} {a : Option Addr} (h : RowD 4 NameOwn w S (mkF Namemk 4 K n) a) : n = 0 ∨ ∃ g, a = some ⟨g, 0, none⟩ ∧ g < w.heap.size ∧ ∀ m, m < 4 * n → w.cell? ⟨g, m, none⟩ = some (Namemc K m) := by
  rcases h with h | ⟨g, cs, T, rfl, h2, h3, h4, U, h5, h6⟩
  · left; have := congrArg List.length h; rwa [mkF_len] at this
  · refine .inr ⟨g, rfl, (Array.getElem?_eq_some_iff.1 h3).1, fun m hm => ?_⟩
    have hi : m / 4 < (mkF Namemk 4 K n).length := by rw [mkF_len]; omega
    obtain ⟨l, hO, _, hc⟩ := h6 (m / 4) hi
    rw [mkF_get] at hO
    obtain ⟨_, rfl⟩ := hO
    have h7 := hc (m % 4) (Nat.mod_lt _ (by decide))
    have h8 := Namemk_cell K (m / 4) (m % 4) (Nat.mod_lt _ (by decide))
    rw [show 4 * (m / 4) + m % 4 = m from Nat.div_add_mod m 4] at h7 h8
    rw [cell_of_row _ _ _ _ _ _ h3, h7, h8]
set_option maxRecDepth 100000 in
set_option maxHeartbeats 4000000 in
theorem hdNameS_any (n : Nat) (a : Option Addr) (cap K : Nat) (z : Int) (S : Nat → Prop) (w : World) (hR : RowD 4 NameOwn w S (mkF Namemk 4 K n) a) (hz : z = K) (hK : 0 < K) (hn : K + 4 * n ≤ 1099511627776) :
    Calls Try.prog 113 #[.slice a n cap, .int .i64 z] w fun e w' => e = .returned (.int .i64 ((K + 4 * n : Nat) : Int)) ∧ Below w.heap.size w w' := by
  subst hz
  have hx := NameF_cells hR
  clear hR
  go_enter Try.func113, Try.ntmps113
  go_wp2_with fail
  go_loopw [1, 5] (fun kk aa wr => ∃ i : Nat, kk = .int .i64 ((K + 4 * i : Nat) : Int) ∧ aa = .int .i64 i ∧ i ≤ n ∧ Below w.heap.size w wr) (fun _ aa _ => n - (intOf aa).toNat)
  case atStart => exact ⟨0, by simp, rfl, Nat.zero_le _, Below.refl _ _⟩
  case round =>
    obtain ⟨i, rfl, rfl, hi, hb⟩ := hrel
    by_cases hlt : i < n
    · obtain ⟨g, rfl, hg, fx⟩ : ∃ g, a = some ⟨g, 0, none⟩ ∧ g < w.heap.size ∧ ∀ m, m < 4 * n → w.cell? ⟨g, m, none⟩ = some (Namemc K m) := by rcases hx with h | h; omega; exact h
      have kx : g < wr.heap.size := Nat.lt_of_lt_of_le hg hb.size
      have mW : i * 4 = 4 * i := Nat.mul_comm _ _
      obtain ⟨t0, ht0⟩ : ∃ t, t = (⟨(markB (K + (4 * i))).toArray⟩ : ByteArray) := ⟨_, rfl⟩
      have x0 : wr.cell? ⟨g, 4 * i, none⟩ = some (.string t0) := ((hb.cell (p := ⟨g, 4 * i, none⟩) hg).trans (fx (4 * i) (by omega))).trans (congrArg some ((Namemc0 K i).trans (by rw [ht0])))
      have x1 : wr.cell? ⟨g, 4 * i + 1, none⟩ = some (.int .i64 ((K + (4 * i + 1) : Nat) : Int)) := ((hb.cell (p := ⟨g, 4 * i + 1, none⟩) hg).trans (fx (4 * i + 1) (by omega))).trans (congrArg some (Namemc1 K i))
      have x2 : wr.cell? ⟨g, 4 * i + 2, none⟩ = some (.int .i64 ((K + (4 * i + 2) : Nat) : Int)) := ((hb.cell (p := ⟨g, 4 * i + 2, none⟩) hg).trans (fx (4 * i + 2) (by omega))).trans (congrArg some (Namemc2 K i))
      have x3 : wr.cell? ⟨g, 4 * i + 3, none⟩ = some (.int .i64 ((K + (4 * i + 3) : Nat) : Int)) := ((hb.cell (p := ⟨g, 4 * i + 3, none⟩) hg).trans (fx (4 * i + 3) (by omega))).trans (congrArg some (Namemc3 K i))
      have HT0 : Hid (t0 = (⟨(markB (K + (4 * i))).toArray⟩ : ByteArray)) := ht0
      clear hx fx ht0
      go_wp2_with fail
      go_region_held (fun w' => w'.cell? ⟨g, 4 * i, none⟩ = some (.string t0) ∧ w'.cell? ⟨g, 4 * i + 1, none⟩ = some (.int .i64 ((K + (4 * i + 1) : Nat) : Int)) ∧ w'.cell? ⟨g, 4 * i + 2, none⟩ = some (.int .i64 ((K + (4 * i + 2) : Nat) : Int)) ∧ w'.cell? ⟨g, 4 * i + 3, none⟩ = some (.int .i64 ((K + (4 * i + 3) : Nat) : Int))) (go_keep) (first | (go_at_call 108; refine (mark_at _ (K + (4 * i)) _ (by push_cast; omega) (by omega) (by omega)).mono ?_; rintro e w1 ⟨rfl, hb1⟩; rw [← HT0.out]; have q10 := (hb1.cell (p := ⟨g, 4 * i, none⟩) kx).trans x0; have q11 := (hb1.cell (p := ⟨g, 4 * i + 1, none⟩) kx).trans x1; have q12 := (hb1.cell (p := ⟨g, 4 * i + 2, none⟩) kx).trans x2; have q13 := (hb1.cell (p := ⟨g, 4 * i + 3, none⟩) kx).trans x3))
      have B1 : Below w.heap.size w w1 := hb.drew.trans (hb1.mono hb.size)
      have kx1 : g < w1.heap.size := Nat.lt_of_lt_of_le kx hb1.size
      go_wp2_with fail
      go_roundw
      case rel => exact ⟨i + 1, by go_num, by go_num, by omega, B1⟩
      case measure => simp [intOf]; omega
    · obtain rfl : i = n := by omega
      clear hx
      go_wp2_with fail
      go_ret
      exact ⟨rfl, hb⟩
set_option maxRecDepth 100000 in
set_option maxHeartbeats 4000000 in
theorem hdProtoS_any (xs : List ProtoD) (a : Option Addr) (cap K : Nat) (z : Int) (S : Nat → Prop) (w : World) (hS : ∀ b, S b → b < w.heap.size) (hR : RowD 5 ProtoOwn w S (mkR Protomd Protomn K xs) a) (hz : z = K) (hK : 0 < K) (hn : K + mnR Protomn xs ≤ 1099511627776) (hl : xs.length ≤ maxLen) :
    Calls Try.prog 69 #[.slice a xs.length cap, .int .i64 z] w fun e w' => e = .returned (.int .i64 ((K + mnR Protomn xs : Nat) : Int)) ∧ Below w.heap.size w w' := by
  subst hz
  unfold maxLen at hl
  have hx : ∀ i (h : i < xs.length), ∃ g, a = some ⟨g, 0, none⟩ ∧ g < w.heap.size ∧ ∃ V l, (∀ b, V b → b < w.heap.size) ∧ ProtoOwn w V (Protomd (K + mnR Protomn (xs.take i)) xs[i]) l ∧ ∀ j, j < 5 → w.cell? ⟨g, 5 * i + j, none⟩ = l[j]? := fun i h => by
    have hi : i < (mkR Protomd Protomn K xs).length := by rw [mkR_len]; exact h
    rcases hR with h' | ⟨g, cs, T, rfl, h2, h3, h4, U, h5, h6⟩
    · have := congrArg List.length h'; rw [mkR_len, List.length_nil] at this; omega
    · obtain ⟨l, hO, _, hc⟩ := h6 i hi
      rw [mkR_get Protomd Protomn xs K i hi h] at hO
      exact ⟨g, rfl, hS g h2, U i, l, fun b hb => hS b (h5.within i b hb).1, hO, fun j hj => (cell_of_row _ _ _ _ _ _ h3).trans (hc j hj)⟩
  clear hR hS
  go_enter Try.func69, Try.ntmps69
  go_wp2_with fail
  go_loopw [1, 5] (fun kk aa wr => ∃ i : Nat, kk = .int .i64 ((K + mnR Protomn (xs.take i) : Nat) : Int) ∧ aa = .int .i64 i ∧ i ≤ xs.length ∧ Below w.heap.size w wr) (fun _ aa _ => xs.length - (intOf aa).toNat)
  case atStart => exact ⟨0, by simp [mnR], rfl, Nat.zero_le _, Below.refl _ _⟩
  case round =>
    rename World => wo
    obtain ⟨i, rfl, rfl, hi, hby⟩ := hrel
    by_cases hlt : i < xs.length
    · obtain ⟨g, rfl, hg, S1, l, hS1, hO0, hcell⟩ := hx i hlt
      have hO := ProtoOwn_keeps.below hS1 hby hO0
      have HSS : Hid (∀ b, S1 b → b < w.heap.size) := hS1
      have ho := mnR_take Protomn xs i hlt
      have hol := mnR_take_le Protomn xs (i + 1)
      have hsz := hby.size
      have hgo : g < wo.heap.size := Nat.lt_of_lt_of_le hg hsz
      have HX : Hid (∀ i (h : i < xs.length), ∃ g', some (⟨g, 0, none⟩ : Addr) = some ⟨g', 0, none⟩ ∧ g' < w.heap.size ∧ ∃ V l, (∀ b, V b → b < w.heap.size) ∧ ProtoOwn w V (Protomd (K + mnR Protomn (xs.take i)) xs[i]) l ∧ ∀ j, j < 5 → w.cell? ⟨g', 5 * i + j, none⟩ = l[j]?) := hx
      clear hx hS1 hO0
      obtain ⟨x, hxx⟩ : ∃ x, x = xs[i] := ⟨_, rfl⟩
      rw [← hxx] at hO ho
      obtain ⟨N, hN⟩ : ∃ N, N = K + mnR Protomn (xs.take i) := ⟨_, rfl⟩
      have HNO : Hid (K + mnR Protomn (xs.take (i + 1)) = N + Protomn x) := by show _ = _; omega
      have hN0 : 0 < N := by omega
      have hN1 : N + Protomn x ≤ 1099511627776 := by omega
      rw [← hN] at hO ⊢
      clear hN ho hol hxx
      have hN2 := hN1
      unfold Protomn at hN2
      obtain ⟨ok, V, pv, a_ups, c_ups, a_code, c_code, a_names, c_names, rfl, l_ups, r_ups, l_code, r_code, l_names, r_names⟩ := hO
      have h_ups : (Protomd N x).ups.length = x.ups.length := mkF_len _ _ _ _
      rw [h_ups] at hcell l_ups
      have h_code : (Protomd N x).code.length = x.code.length := mkF_len _ _ _ _
      rw [h_code] at hcell l_code
      have h_names : (Protomd N x).names.length = x.names.length := mkF_len _ _ _ _
      rw [h_names] at hcell l_names
      have c0 := (hby.cell (p := ⟨g, 5 * i + 0, none⟩) hg).trans (hcell 0 (by decide))
      have c1 := (hby.cell (p := ⟨g, 5 * i + 1, none⟩) hg).trans (hcell 1 (by decide))
      have c2 := (hby.cell (p := ⟨g, 5 * i + 2, none⟩) hg).trans (hcell 2 (by decide))
      have c3 := (hby.cell (p := ⟨g, 5 * i + 3, none⟩) hg).trans (hcell 3 (by decide))
      have c4 := (hby.cell (p := ⟨g, 5 * i + 4, none⟩) hg).trans (hcell 4 (by decide))
      simp only [List.getElem?_cons_zero, List.getElem?_cons_succ] at c0 c1 c2 c3 c4
      clear hcell
      rw [Nat.add_zero] at c0
      have mW : i * 5 = 5 * i := Nat.mul_comm _ _
      replace c0 : wo.cell? ⟨g, 5 * i, none⟩ = some (.int .i64 ((N : Nat) : Int)) := c0
      replace c1 : wo.cell? ⟨g, 5 * i + 1, none⟩ = some (.int .i64 ((N + 1 : Nat) : Int)) := c1
      have r_ups : RowD 2 UpOwn wo (V 0) (mkF Upmk 2 (N + 1 + 1) x.ups.length) a_ups := r_ups
      have r_code : RowD 7 InstrOwn wo (V 1) (mkF Instrmk 7 (N + 1 + 1 + 2 * x.ups.length) x.code.length) a_code := r_code
      have r_names : RowD 4 NameOwn wo (V 2) (mkF Namemk 4 (N + 1 + 1 + 2 * x.ups.length + 7 * x.code.length) x.names.length) a_names := r_names
      go_wp2_with fail
      refine (hdUpS_any x.ups.length a_ups c_ups (N + 1 + 1) _ _ _ r_ups (by push_cast; omega) (by omega) (by omega)).mono ?_
      rintro e w1 ⟨rfl, hb1⟩
      have B1 := hby.trans (hb1.mono hby.size)
      have s1 := hb1.size
      have r_code := r_code.below InstrOwn_keeps (fun b hb => by have := HSS.out b (pv.within 1 b hb); omega) hb1
      have r_names := r_names.below NameOwn_keeps (fun b hb => by have := HSS.out b (pv.within 2 b hb); omega) hb1
      have c0 := (hb1.cell (p := ⟨g, 5 * i, none⟩) (by show g < _; omega)).trans c0
      have c1 := (hb1.cell (p := ⟨g, 5 * i + 1, none⟩) (by show g < _; omega)).trans c1
      have c2 := (hb1.cell (p := ⟨g, 5 * i + 2, none⟩) (by show g < _; omega)).trans c2
      have c3 := (hb1.cell (p := ⟨g, 5 * i + 3, none⟩) (by show g < _; omega)).trans c3
      have c4 := (hb1.cell (p := ⟨g, 5 * i + 4, none⟩) (by show g < _; omega)).trans c4
      go_wp2_with fail
      refine (hdInstrS_any x.code.length a_code c_code (N + 1 + 1 + 2 * x.ups.length) _ _ _ r_code (by push_cast; omega) (by omega) (by omega)).mono ?_
      rintro e w2 ⟨rfl, hb2⟩
      have B2 := B1.trans (hb2.mono B1.size)
      have s2 := hb2.size
      have r_names := r_names.below NameOwn_keeps (fun b hb => by have := HSS.out b (pv.within 2 b hb); omega) hb2
      have c0 := (hb2.cell (p := ⟨g, 5 * i, none⟩) (by show g < _; omega)).trans c0
      have c1 := (hb2.cell (p := ⟨g, 5 * i + 1, none⟩) (by show g < _; omega)).trans c1
      have c2 := (hb2.cell (p := ⟨g, 5 * i + 2, none⟩) (by show g < _; omega)).trans c2
      have c3 := (hb2.cell (p := ⟨g, 5 * i + 3, none⟩) (by show g < _; omega)).trans c3
      have c4 := (hb2.cell (p := ⟨g, 5 * i + 4, none⟩) (by show g < _; omega)).trans c4
      go_wp2_with fail
      refine (hdNameS_any x.names.length a_names c_names (N + 1 + 1 + 2 * x.ups.length + 7 * x.code.length) _ _ _ r_names (by push_cast; omega) (by omega) (by omega)).mono ?_
      rintro e w3 ⟨rfl, hb3⟩
      have B3 := B2.trans (hb3.mono B2.size)
      have s3 := hb3.size
      have c0 := (hb3.cell (p := ⟨g, 5 * i, none⟩) (by show g < _; omega)).trans c0
      have c1 := (hb3.cell (p := ⟨g, 5 * i + 1, none⟩) (by show g < _; omega)).trans c1
      have c2 := (hb3.cell (p := ⟨g, 5 * i + 2, none⟩) (by show g < _; omega)).trans c2
      have c3 := (hb3.cell (p := ⟨g, 5 * i + 3, none⟩) (by show g < _; omega)).trans c3
      have c4 := (hb3.cell (p := ⟨g, 5 * i + 4, none⟩) (by show g < _; omega)).trans c4
      go_wp2_with fail
      go_roundw
      case rel => exact ⟨i + 1, by rw [HNO.out]; exact congrArg (Value.int .i64) (by unfold Protomn; push_cast; omega), by go_num, by omega, B3⟩
      case measure => simp [intOf]; omega
    · obtain rfl : i = xs.length := by omega
      clear hx
      rw [List.take_length]
      go_wp2_with fail
      go_ret
      exact ⟨rfl, hby⟩
end Go.Proofs.Ytgibejgemokljaa
