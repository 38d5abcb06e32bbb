/- The lexer's own small steps: how many bytes of some classes stand ahead; a copy of a text; taking bytes. -/
import Derived.Test.YtjepokoeljpflaaDoorLxK
import Derived.Test.YtjepokoeljpflaaDoorShelf
import Derived.Deep.RegionHeld
namespace Go.Proofs.YtjepokoeljpflaaDoor
open Go.RowKit

theorem bcell {W w1 : World} (hb : Below W.heap.size W w1) : (∀ b o, b < W.heap.size → w1.cell? ⟨b, o, none⟩ = W.cell? ⟨b, o, none⟩) ∧ (∀ b o, b < W.heap.size → w1.frozen? ⟨b, o, none⟩ = W.frozen? ⟨b, o, none⟩) :=
  ⟨fun b o h => hb.cell (p := ⟨b, o, none⟩) h, fun b o h => hb.frozen (p := ⟨b, o, none⟩) h⟩
theorem wrap_k (x : Int) (h0 : 0 ≤ x) (h1 : x ≤ 4000000) : IntKind.i64.wrap x = x := by rw [IntKind.wrap_i64]; omega
theorem drewN_drewN (w : World) (a b : Nat) : (w.drewN a).drewN b = w.drewN (a + b) := by simp [World.drewN, Nat.add_assoc]

set_option maxRecDepth 100000 in
set_option maxHeartbeats 2000000 in
theorem count_any (p : UInt8 → Bool) (cl : Int) (hcl : ∀ b : UInt8, (bits BinOp.and IntKind.u8 (clsN b.toNat : Nat) cl != 0) = p b) (B c : Nat) (s : ByteArray) (i ln : Nat) (w : World) (hL : Lx w B c s i ln) (hi : i ≤ s.size) (hs : s.size ≤ 1048576) :
    Calls Tryd.prog 47 #[.pointer (some ⟨c, 0, none⟩), .int .u8 cl] w fun e w' => e = .returned (.int .i64 (endp p s i - i : Nat)) ∧ ∃ n, w' = w.drewN n := by
  have c0 := hL.c0
  have c1 := hL.c1
  have HC : Hid (∀ b : UInt8, w.cell? ⟨c, 3 + b.toNat, none⟩ = some (.int .u8 (clsN b.toNat))) := hL.cls
  have HCL : Hid (∀ b : UInt8, (bits BinOp.and IntKind.u8 (clsN b.toNat : Nat) cl != 0) = p b) := hcl
  clear hL hcl
  go_enter Tryd.func47, Tryd.ntmps47
  go_wp2_with fail
  go_loopw [5] (fun a wr => ∃ e n : Nat, a = .int .i64 e ∧ i ≤ e ∧ e ≤ s.size ∧ endp p s e = endp p s i ∧ wr = w.drewN n) (fun a _ => s.size - (intOf a).toNat)
  case atStart => exact ⟨i, 0, rfl, Nat.le_refl _, hi, rfl, rfl⟩
  case round =>
    obtain ⟨e, n, rfl, hie, hes, he, rfl⟩ := hrel
    have HE : Hid (endp p s e = endp p s i) := he
    clear he
    by_cases hlt : e < s.size
    · have hc := HC.out s[e]
      have hb := HCL.out s[e]
      have hb256 : s[e].toNat < 256 := s[e].toNat_lt
      cases hp : p s[e]
      · rw [hp] at hb
        have HX : Hid (endp p s i = e) := HE.out.symm.trans (endp_no hlt hp)
        clear hp
        go_wp2_with fail
        go_quiet (fail)
        go_wp2
        go_ret
        exact ⟨ret_int (by rw [HX.out]; omega), by first | exact ⟨_, rfl⟩ | exact ⟨_, drewN_drewN _ _ _⟩⟩
      · rw [hp] at hb
        have HX : Hid (endp p s (e + 1) = endp p s i) := (endp_lt hlt hp).trans HE.out
        clear hp
        go_wp2_with fail
        go_quiet (fail)
        go_wp2
        go_roundw
        case rel => exact ⟨e + 1, _, by go_num, by omega, by omega, HX.out, by first | rfl | exact drewN_drewN _ _ _⟩
        case measure => simp [intOf]; omega
    · have HX : Hid (endp p s i = e) := HE.out.symm.trans (endp_out hlt)
      have hd : decide ((e : Int) < s.size) = false := by simp; omega
      go_wp2_with fail
      go_quiet (fail)
      go_wp2
      go_ret
      exact ⟨ret_int (by rw [HX.out]; omega), by first | exact ⟨_, rfl⟩ | exact ⟨_, drewN_drewN _ _ _⟩⟩

theorem clone_any (s : ByteArray) (w : World) (hs : s.size ≤ 1048576) :
    Calls Tryd.prog 53 #[.string s] w fun e w' => e = .returned (.string s) ∧ Below w.heap.size w w' := by
  go_enter Tryd.func53, Tryd.ntmps53
  go_wp2_with fail
  refine (Tryd.stringslite_Clone s _ (by omega)).mono ?_
  rintro e w1 ⟨rfl, hb⟩
  go_wp2_with fail
  go_ret
  exact ⟨rfl, hb⟩

set_option maxRecDepth 100000 in
set_option maxHeartbeats 2000000 in
theorem take_any (B c : Nat) (s : ByteArray) (i ln n : Nat) (w : World) (hL : Lx w B c s i ln) (hi : i + n ≤ s.size) (hs : s.size ≤ 1048576) :
    Calls Tryd.prog 46 #[.pointer (some ⟨c, 0, none⟩), .int .i64 n] w fun e w' => e = .returned (.string (s.extract i (i + n))) ∧ Lx w' B c s (i + n) ln ∧ w.grownBy w' (some c) := by
  have c0 := hL.c0
  have c1 := hL.c1
  have z1 := hL.fr 1
  have HL : Hid (Lx w B c s i ln) := hL
  have hsz : (s.extract i (i + n)).size ≤ 1048576 := by simp; omega
  have hclt := HL.out.lt
  have j1 : (0 : Int) ≤ (i : Int) + n := by omega
  have j2 : (i : Int) + n ≤ (s.size : Int) := by omega
  have j3 : (i : Int) ≤ (i : Int) + n := by omega
  have j4 : ((i : Int) + n).toNat = i + n := by omega
  have j5 : wrap64 ((i : Int) + n) = (i : Int) + n := IntWalk.wrap64_in _ ⟨by omega, by omega⟩
  have j6 : IntKind.i64.wrap ((i : Int) + n) = (i : Int) + n := wrap_k _ (by omega) (by omega)
  clear hL
  go_enter Tryd.func46, Tryd.ntmps46
  go_wp2_with fail
  go_region_held (fun w' => w'.cell? ⟨c, 0, none⟩ = some (.string s) ∧ w'.cell? ⟨c, 1, none⟩ = some (.int .i64 i)) (go_keep) (first | (go_at_call 53; refine (clone_any (s.extract i (i + n)) _ hsz).mono ?_; rintro e w1 ⟨rfl, hb⟩; have q0 := (hb.cell (p := ⟨c, 0, none⟩) hclt).trans c0; have q1 := (hb.cell (p := ⟨c, 1, none⟩) hclt).trans c1; have y1 := (hb.frozen (p := ⟨c, 1, none⟩) hclt).trans z1))
  go_wp2_with fail
  go_ret
  have hbw := Below.trans (show Below w.heap.size w w.drew from (Below.refl _ _).drew) hb
  exact ⟨rfl, (HL.out.later hbw).set1' _ _ rfl, by_trans (by_below hbw) (by_set _ c 1 _)⟩
end Go.Proofs.YtjepokoeljpflaaDoor
