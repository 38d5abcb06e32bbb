/- The cursor over the bytes of a draw: what holds of it, and what each draw leaves. -/
import Derived.Test.YtadjhnaiphnpoaaDoorKit
import Derived.BigQuiet
import Derived.Deep.QuietTactic
namespace Go.Proofs.YtadjhnaiphnpoaaDoor
open Go.RowKit

/-- A slice of bytes that lies below block B. -/
structure IsCode (w : World) (B : Nat) (a : Option Addr) (len cap : Nat) : Prop where
  small : len ≤ 9223372036854775807
  cells : ∀ j, j < len → ∃ (b off : Nat) (x : Int), a = some ⟨b, off, none⟩ ∧ b < B ∧ w.cell? ⟨b, off + j, none⟩ = some (.int .u8 x) ∧ 0 ≤ x ∧ x ≤ 255

/-- The cursor at block c. -/
structure Cur (w : World) (B c : Nat) : Prop where
  up : B ≤ c
  holds : ∃ (a : Option Addr) (len cap i : Nat) (h : Int), w.heap[c]? = some (.cells #[.slice a len cap, .int .i64 i, .int .i64 h] 80 (0, 0)) ∧ IsCode w B a len cap ∧ i ≤ len

theorem by_trans {a b c : World} {row : Option Nat} (h : a.grownBy b row) (k : b.grownBy c row) : a.grownBy c row :=
  ⟨k.os.trans h.os, k.tape.trans h.tape, k.output.trans h.output, Nat.le_trans h.size k.size, fun i hi hne => (k.block i (Nat.lt_of_lt_of_le hi h.size) hne).trans (h.block i hi hne)⟩
theorem by_refl (a : World) (row : Option Nat) : a.grownBy a row := ⟨rfl, rfl, rfl, Nat.le_refl _, fun _ _ _ => rfl⟩
theorem by_set (w : World) (c j : Nat) (v : Value) : w.grownBy (w.setCell ⟨c, j, none⟩ v) (some c) :=
  ⟨rfl, rfl, rfl, by simp, fun k _ hne => heap_setCell_other w ⟨c, j, none⟩ k v (fun e => hne (by rw [e]))⟩
theorem by_drew {a w : World} {row : Option Nat} (h : a.grownBy w row) : a.grownBy w.drew row := ⟨h.os, h.tape, h.output, h.size, h.block⟩
theorem by_alloc {a w : World} {row : Option Nat} (h : a.grownBy w row) (o : Obj) : a.grownBy (w.alloc o) row :=
  by_trans h ⟨rfl, rfl, rfl, by simp, fun k hk _ => Below.heap_alloc w o k hk⟩
theorem IsCode.later {w w' : World} {B c : Nat} {a : Option Addr} {len cap : Nat} (h : IsCode w B a len cap) (hg : w.grownBy w' (some c)) (hc : B ≤ c) : IsCode w' B a len cap :=
  ⟨h.small, fun j hj => by
    obtain ⟨b, off, x, e, hb, hx, h0, h1⟩ := h.cells j hj
    exact ⟨b, off, x, e, hb, hg.cell hx (by simp; omega), h0, h1⟩⟩

theorem wrap_in (k : Nat) (h : k < 4611686018427387904) : IntKind.wrap .i64 (k : Int) = k := by
  have h1 : (k : Int) % (2 ^ IntKind.i64.bits : Int) = k := Int.emod_eq_of_lt (by omega) (by simp only [IntKind.bits]; omega)
  have h2 : ¬ (k : Int) ≥ (2 ^ (IntKind.i64.bits - 1) : Int) := by simp only [IntKind.bits]; omega
  simp only [IntKind.wrap, h1, h2, decide_false, Bool.and_false]
  rfl
theorem mask_le (x : Int) (m : Nat) (hm : m < 4611686018427387904) : 0 ≤ bits BinOp.and IntKind.i64 x m ∧ bits BinOp.and IntKind.i64 x m ≤ m := by
  have hb : (BitVec.ofInt 64 (m : Int)).toNat = m := by simp; omega
  have hle : ((BitVec.ofInt 64 x) &&& (BitVec.ofInt 64 (m : Int))).toNat ≤ m := by
    rw [BitVec.toNat_and, hb]; exact Nat.and_le_right
  obtain ⟨k, hk⟩ : ∃ k, k = ((BitVec.ofInt 64 x) &&& (BitVec.ofInt 64 (m : Int))).toNat := ⟨_, rfl⟩
  have e : bits BinOp.and IntKind.i64 x m = IntKind.wrap .i64 (k : Int) := by rw [hk]; rfl
  rw [← hk] at hle
  rw [e, wrap_in k (by omega)]
  omega
theorem wrap_small (k : Nat) (h : k < 9223372036854775808) : wrap64 (k : Int) = k := IntWalk.wrap64_in _ ⟨by omega, by omega⟩

theorem cur_set {w : World} {B c : Nat} {a : Option Addr} {len cap i : Nat} {h : Int} (hup : B ≤ c) (hh : w.heap[c]? = some (.cells #[.slice a len cap, .int .i64 i, .int .i64 h] 80 (0, 0))) (hc : IsCode w B a len cap) (hil : i ≤ len) (h' : Int) :
    Cur (w.setCell ⟨c, 2, none⟩ (.int .i64 h')) B c :=
  ⟨hup, a, len, cap, i, h', by rw [heap_setCell_same w c 2 _ _ _ hh]; rfl, hc.later (by_set w c 2 _) hup, hil⟩
theorem cur_drew {w : World} {B c : Nat} (h : Cur w B c) : Cur w.drew B c := ⟨h.up, by
  obtain ⟨a, len, cap, i, x, hh, hc, hi⟩ := h.holds
  exact ⟨a, len, cap, i, x, hh, ⟨hc.small, hc.cells⟩, hi⟩⟩
theorem cur_next {w : World} {B c : Nat} {a : Option Addr} {len cap i : Nat} {h : Int} (hup : B ≤ c) (hh : w.heap[c]? = some (.cells #[.slice a len cap, .int .i64 i, .int .i64 h] 80 (0, 0))) (hc : IsCode w B a len cap) (hil : i < len) (h' : Int) (i' : Int) (hi' : i' = (i : Int) + 1) :
    Cur ((w.setCell ⟨c, 2, none⟩ (.int .i64 h')).setCell ⟨c, 1, none⟩ (.int .i64 i')) B c := by
  subst hi'
  have h2 : (w.setCell ⟨c, 2, none⟩ (.int .i64 h')).heap[c]? = some (.cells #[.slice a len cap, .int .i64 i, .int .i64 h'] 80 (0, 0)) := by rw [heap_setCell_same w c 2 _ _ _ hh]; rfl
  exact ⟨hup, a, len, cap, i + 1, h', by rw [heap_setCell_same _ c 1 _ _ _ h2]; rfl, (hc.later (by_set w c 2 _) hup).later (by_set _ c 1 _) hup, by omega⟩

set_option maxRecDepth 100000 in
set_option maxHeartbeats 800000 in
theorem byte_any (B c : Nat) (w : World) (hC : Cur w B c) :
    Calls Tryd.prog 66 #[.pointer (some ⟨c, 0, none⟩)] w fun e w' => ∃ x : Int, e = .returned (.int .i64 x) ∧ 0 ≤ x ∧ x ≤ 255 ∧ Cur w' B c ∧ w.grownBy w' (some c) := by
  obtain ⟨hup, a, len, cap, i, h, hh, hcode, hil⟩ := hC
  have c0 : w.cell? ⟨c, 0, none⟩ = some (.slice a len cap) := by rw [cell_of_row w c 0 _ _ (0, 0) hh]; rfl
  have c1 : w.cell? ⟨c, 1, none⟩ = some (.int .i64 i) := by rw [cell_of_row w c 1 _ _ (0, 0) hh]; rfl
  have c2 : w.cell? ⟨c, 2, none⟩ = some (.int .i64 h) := by rw [cell_of_row w c 2 _ _ (0, 0) hh]; rfl
  have f1 : w.frozen? ⟨c, 1, none⟩ = false := by simp [World.frozen?, hh]
  have f2 : w.frozen? ⟨c, 2, none⟩ = false := by simp [World.frozen?, hh]
  have hsm := hcode.small
  have m1 := mask_le (bits BinOp.xor IntKind.i64 (wrap64 (wrap64 (h * 6364136223846793005) + 1442695040888963407) / 8589934592) (wrap64 (wrap64 (h * 6364136223846793005) + 1442695040888963407) / 35184372088832)) 255 (by omega)
  by_cases hlt : i < len
  · obtain ⟨b, off, x, rfl, hb, hx, hx0, hx1⟩ := hcode.cells i hlt
    have hx2 : (w.setCell ⟨c, 2, none⟩ (.int .i64 (wrap64 (wrap64 (h * 6364136223846793005) + 1442695040888963407)))).cell? ⟨b, off + i, none⟩ = some (.int .u8 x) := (by_set w c 2 _).cell hx (by simp; omega)
    go_enter Tryd.func66, Tryd.ntmps66
    go_wp2
    go_region
    go_wp2
    go_region
    go_wp2
    go_region
    go_wp2
    go_ret
    have m2 := fun y => mask_le y 255 (by omega)
    refine ⟨_, rfl, (m2 _).1, (m2 _).2, ?_, ?_⟩
    · exact cur_drew (cur_drew (cur_drew (cur_next hup hh hcode hlt _ _ (by first | rfl | omega))))
    · exact by_drew (by_drew (by_drew (by_trans (by_set w c 2 _) (by_set _ c 1 _))))
  · have hil' : len ≤ i := by omega
    go_enter Tryd.func66, Tryd.ntmps66
    go_wp2
    go_region
    go_wp2
    go_region
    go_wp2
    go_ret
    exact ⟨_, rfl, m1.1, m1.2, cur_drew (cur_drew (cur_set hup hh hcode hil _)), by_drew (by_drew (by_set w c 2 _))⟩

/-- What a draw leaves: the cursor is one still, and nothing else that was there has turned. -/
structure Drawn (B c : Nat) (w w' : World) : Prop where
  cur : Cur w' B c
  by' : w.grownBy w' (some c)
theorem Drawn.trans {B c : Nat} {u v w : World} (h : Drawn B c u v) (k : Drawn B c v w) : Drawn B c u w := ⟨k.cur, by_trans h.by' k.by'⟩
theorem Drawn.refl {B c : Nat} {w : World} (h : Cur w B c) : Drawn B c w w := ⟨h, by_refl w _⟩
theorem Drawn.below {B c : Nat} {w w' : World} (h : Drawn B c w w') (hB : B ≤ w.heap.size) : Below B w w' :=
  ⟨h.by'.os, h.by'.tape, h.by'.output, h.by'.size, fun k hk => h.by'.block k (by omega) (by have := h.cur.up; simp; omega)⟩
theorem cur_lt {w : World} {B c : Nat} (h : Cur w B c) : c < w.heap.size := by
  obtain ⟨a, len, cap, i, x, hh, _⟩ := h.holds
  exact (Array.getElem?_eq_some_iff.1 hh).1
theorem cur_alloc {w : World} {B c : Nat} (h : Cur w B c) (o : Obj) : Cur (w.alloc o) B c := ⟨h.up, by
  obtain ⟨a, len, cap, i, x, hh, hc, hi⟩ := h.holds
  exact ⟨a, len, cap, i, x, by rw [Below.heap_alloc w o c (cur_lt h)]; exact hh, hc.later (by_alloc (by_refl w (some c)) o) h.up, hi⟩⟩
theorem Drawn.alloc {B c : Nat} {w w' : World} (h : Drawn B c w w') (o : Obj) : Drawn B c w (w'.alloc o) := ⟨cur_alloc h.cur o, by_alloc h.by' o⟩
theorem Drawn.drew {B c : Nat} {w w' : World} (h : Drawn B c w w') : Drawn B c w w'.drew := ⟨cur_drew h.cur, by_drew h.by'⟩

set_option maxRecDepth 100000 in
set_option maxHeartbeats 800000 in
theorem below_any (B c : Nat) (n : Int) (w : World) (hC : Cur w B c) (hn : n ≤ 4294967296) :
    Calls Tryd.prog 53 #[.pointer (some ⟨c, 0, none⟩), .int .i64 n] w fun e w' => ∃ x : Int, e = .returned (.int .i64 x) ∧ 0 ≤ x ∧ x ≤ 4294967296 ∧ (0 < n → x < n) ∧ Drawn B c w w' := by
  by_cases h0 : n ≤ 0
  · go_enter Tryd.func53, Tryd.ntmps53
    go_wp2_with fail
    go_ret
    exact ⟨0, rfl, by omega, by omega, by omega, .refl hC⟩
  · by_cases h1 : n ≤ 256
    · go_enter Tryd.func53, Tryd.ntmps53
      go_wp2_with fail
      refine (byte_any B c w hC).mono ?_
      rintro e w1 ⟨x, rfl, hx0, hx1, hc1, hb1⟩
      go_wp2_with fail
      go_ret
      exact ⟨x % n, rfl, Int.emod_nonneg _ (by omega), by have := Int.emod_lt_of_pos x (show 0 < n by omega); omega, fun h => Int.emod_lt_of_pos x h, ⟨hc1, hb1⟩⟩
    · go_enter Tryd.func53, Tryd.ntmps53
      go_wp2_with fail
      refine (byte_any B c w hC).mono ?_
      rintro e w1 ⟨x, rfl, hx0, hx1, hc1, hb1⟩
      go_wp2_with fail
      refine (byte_any B c w1 hc1).mono ?_
      rintro e w2 ⟨y, rfl, hy0, hy1, hc2, hb2⟩
      go_wp2_with fail
      refine (byte_any B c w2 hc2).mono ?_
      rintro e w3 ⟨z, rfl, hz0, hz1, hc3, hb3⟩
      go_wp2_with fail
      refine (byte_any B c w3 hc3).mono ?_
      rintro e w4 ⟨v, rfl, hv0, hv1, hc4, hb4⟩
      go_wp2_with fail
      go_ret
      exact ⟨_, rfl, Int.emod_nonneg _ (by omega), by have := Int.emod_lt_of_pos (x * 16777216 + y * 65536 + z * 256 + v) (show 0 < n by omega); omega, fun h => Int.emod_lt_of_pos _ h, ⟨hc4, by_trans (by_trans (by_trans hb1 hb2) hb3) hb4⟩⟩

theorem once_any (B c : Nat) (n : Int) (w : World) (hC : Cur w B c) (hn : n ≤ 4294967296) :
    Calls Tryd.prog 51 #[.pointer (some ⟨c, 0, none⟩), .int .i64 n] w fun e w' => ∃ x : Bool, e = .returned (.bool x) ∧ Drawn B c w w' := by
  go_enter Tryd.func51, Tryd.ntmps51
  go_wp2_with fail
  refine (below_any B c n w hC hn).mono ?_
  rintro e w1 ⟨x, rfl, hx0, hx1, _, hd⟩
  go_wp2_with fail
  go_ret
  exact ⟨_, rfl, hd⟩

set_option maxRecDepth 100000 in
theorem pick_any (B c : Nat) (ss : List ByteArray) (b cap : Nat) (w : World) (hC : Cur w B c) (hb : b ≠ c) (hl : 0 < ss.length) (hl' : ss.length ≤ 100000) (hs : ∀ (j : Nat) (t : ByteArray), ss[j]? = some t → w.cell? ⟨b, j, none⟩ = some (.string t)) :
    Calls Tryd.prog 55 #[.pointer (some ⟨c, 0, none⟩), .slice (some ⟨b, 0, none⟩) ss.length cap] w fun e w' => ∃ s : ByteArray, e = .returned (.string s) ∧ s ∈ ss ∧ Drawn B c w w' := by
  have hs' : ∀ (w1 : World), w.grownBy w1 (some c) → ∀ (j : Nat) (t : ByteArray), ss[j]? = some t → w1.cell? ⟨b, j, none⟩ = some (.string t) := fun w1 hg j t ht => hg.cell (hs j t ht) (by simp; exact hb)
  have HS : Hid (∀ (w1 : World), w.grownBy w1 (some c) → ∀ (j : Nat) (t : ByteArray), ss[j]? = some t → w1.cell? ⟨b, j, none⟩ = some (.string t)) := hs'
  clear hs hs'
  go_enter Tryd.func55, Tryd.ntmps55
  go_wp2_with fail
  refine (below_any B c ss.length w hC (by omega)).mono ?_
  rintro e w1 ⟨x, rfl, hx0, hx1, hx2, hd⟩
  obtain ⟨k, rfl⟩ := Int.eq_ofNat_of_zero_le hx0
  have hk : k < ss.length := by have := hx2 (by omega); omega
  obtain ⟨t, ht⟩ : ∃ t, ss[k]? = some t := ⟨_, List.getElem?_eq_getElem hk⟩
  have hcell := HS.out w1 hd.by' k t ht
  have HT : Hid (t ∈ ss) := List.mem_of_getElem? ht
  clear hx2 ht
  go_wp2_with fail
  go_ret
  exact ⟨t, rfl, HT.out, hd⟩

set_option maxRecDepth 100000 in
set_option maxHeartbeats 800000 in
theorem new_any (B : Nat) (a : Option Addr) (len cap : Nat) (w : World) (hc : IsCode w B a len cap) (hB : B ≤ w.heap.size) :
    Calls Tryd.prog 50 #[.slice a len cap] w fun e w' => e = .returned (.pointer (some ⟨w.heap.size, 0, none⟩)) ∧ Cur w' B w.heap.size ∧ Below w.heap.size w w' := by
  have hsm := hc.small
  go_enter Tryd.func50, Tryd.ntmps50
  go_wp2
  go_loop [3, 4] (fun h i => ∃ (k : Nat) (x : Int), k ≤ len ∧ i = .int .i64 k ∧ h = .int .i64 x) (fun _ i => len - (intOf i).toNat)
  case atStart => exact ⟨0, _, Nat.zero_le _, rfl, rfl⟩
  case round =>
    obtain ⟨k, x, hk, rfl, rfl⟩ := hrel
    have HC : Hid (IsCode w B a len cap) := hc
    have fin : Cur (w.alloc (.cells #[.slice a len cap, .int .i64 0, .int .i64 x] 80)) B w.heap.size :=
      ⟨hB, a, len, cap, 0, x, heap_alloc_new w _, ⟨hc.small, fun j hj => by
        obtain ⟨b, off, y, e, hb, hx, h0, h1⟩ := hc.cells j hj
        exact ⟨b, off, y, e, hb, by rw [((Below.refl w.heap.size w).alloc (Nat.le_refl _) _).cell (by simp; omega)]; exact hx, h0, h1⟩⟩, Nat.zero_le _⟩
    have FIN : Hid (Cur (w.alloc (.cells #[.slice a len cap, .int .i64 0, .int .i64 x] 80)) B w.heap.size) := fin
    clear fin
    by_cases hlt : k < len
    · by_cases h4 : k < 4000
      · obtain ⟨b, off, y, rfl, hb, hx, hy0, hy1⟩ := hc.cells k hlt
        clear hc
        go_wp2
        go_round
        case rel => exact ⟨k + 1, _, by omega, by go_num, rfl⟩
        case measure => simp [intOf]; omega
      · have h4' : 4000 ≤ k := by omega
        clear hc
        go_wp2
        go_ret
        exact ⟨rfl, FIN.out, (Below.refl _ _).alloc (Nat.le_refl _) _⟩
    · have hlt' : len ≤ k := by omega
      clear hc
      go_wp2
      go_ret
      exact ⟨rfl, FIN.out, (Below.refl _ _).alloc (Nat.le_refl _) _⟩
end Go.Proofs.YtadjhnaiphnpoaaDoor
