/- A mark as a text; rows that are written into. -/
import Derived.Test.YtadjhnaiphnpoaaDoorValU
import Derived.Deep.AppendLies
import Derived.Deep.OwnRows
namespace Go.Proofs.YtadjhnaiphnpoaaDoor
open Go.RowKit

theorem owns_one (w : World) (e : TypeId) (b : UInt8) (x : Value) (hx : x = .int .u8 b.toNat) : (w.alloc (.cells #[x] e)).ownsRow w.heap.size e 1 (.slice (some ⟨w.heap.size, 0, none⟩) 1 1) 1 (bc [b]) := by
  subst hx
  exact World.ownsRow_lit w #[.int .u8 b.toNat] 1 (Nat.le_refl _) (by decide) rfl
def markF : Nat → Nat → List UInt8 → List UInt8
  | 0, _, out => out
  | f + 1, k, out => if k = 0 then out else markF f (k / 10) (UInt8.ofNat (48 + k % 10) :: out)
theorem mark_fuel : ∀ (f g k : Nat) (out : List UInt8), k ≤ f → k ≤ g → markF f k out = markF g k out := by
  intro f
  induction f with
  | zero => intro g k out h _; have : k = 0 := by omega
            subst this; cases g <;> simp [markF]
  | succ f ih =>
    intro g k out h h'
    by_cases hk : k = 0
    · subst hk; cases g <;> simp [markF]
    · cases g with
      | zero => omega
      | succ g =>
        simp only [markF, if_neg hk]
        exact ih g _ _ (by omega) (by omega)
theorem mark_step (k : Nat) (out : List UInt8) (hk : ¬ k = 0) : markF (k / 10) (k / 10) (UInt8.ofNat (48 + k % 10) :: out) = markF k k out := by
  obtain ⟨f, rfl⟩ : ∃ f, k = f + 1 := ⟨k - 1, by omega⟩
  conv => rhs; simp only [markF, if_neg hk]
  exact mark_fuel _ _ _ _ (Nat.le_refl _) (by omega)
def markB (k : Nat) : List UInt8 := 109 :: markF k k []

theorem cat_bytes (l m : List UInt8) : (⟨l.toArray⟩ : ByteArray) ++ ⟨m.toArray⟩ = ⟨(l ++ m).toArray⟩ := by
  apply ByteArray.ext; simp

set_option maxRecDepth 100000 in
set_option maxHeartbeats 4000000 in
theorem mark_any (k : Nat) (w : World) (h0 : 0 < k) (hk : k ≤ 1099511627776) :
    Calls Tryd.prog 42 #[.int .i64 k] w fun e w' => e = .returned (.string ⟨(markB k).toArray⟩) ∧ Below w.heap.size w w' := by
  go_enter Tryd.func42, Tryd.ntmps42
  go_wp2_with fail
  go_loopw [0, 3] (fun a o wr => ∃ (n : Nat) (out : List UInt8), a = .int .i64 n ∧ o = .string ⟨out.toArray⟩ ∧ n ≤ k ∧ out.length + n ≤ k ∧ Below w.heap.size w wr ∧ markF n n out = markF k k []) (fun a _ _ => (intOf a).toNat)
  case atStart => exact ⟨k, [], rfl, rfl, Nat.le_refl _, by simp, Below.refl _ _, rfl⟩
  case round =>
    obtain ⟨n, out, rfl, rfl, hn, ho, hb, he⟩ := hrel
    by_cases hz : n = 0
    · subst hz
      have HE : Hid (markB k = 109 :: out) := by show _ = _; rw [markB, ← he]; rfl
      clear he
      go_wp2_with fail
      go_ret
      exact ⟨by rw [HE.out]; exact congrArg (fun x => Ending.returned (Value.string x)) (cat_bytes [109] out), hb⟩
    · have hpos : 0 < n := by omega
      have HE : Hid (markF (n / 10) (n / 10) (UInt8.ofNat (48 + n % 10) :: out) = markF k k []) := (mark_step n out hz).trans he
      clear he
      have hd : (48 : Int) + (n : Int) % 10 = ((UInt8.ofNat (48 + n % 10)).toNat : Int) := by simp; omega
      have hcv := run_own_string (P := Tryd.prog) 41 9 5 Tryd.underlying41 Tryd.underlying5 Tryd.underlying9 (owns_one wr 5 (UInt8.ofNat (48 + n % 10)) _ rfl)
      generalize UInt8.ofNat (48 + n % 10) = b at *
      go_wp2_with fail
      go_roundw
      case rel => exact ⟨n / 10, b :: out, by go_num, congrArg Value.string (cat_bytes [b] out), by omega, by simp; omega, hb.alloc hb.size _, HE.out⟩
      case measure => simp [intOf]; omega

theorem mark_at (z : Int) (k : Nat) (w : World) (hz : z = k) (h0 : 0 < k) (hk : k ≤ 1099511627776) :
    Calls Tryd.prog 42 #[.int .i64 z] w fun e w' => e = .returned (.string ⟨(markB k).toArray⟩) ∧ Below w.heap.size w w' := by
  subst hz; exact mark_any k w h0 hk

theorem set_step {cs : Array Value} {f : Nat → Value} {n : Nat} {v : Value} (h : ∀ m, m < n → cs[m]? = some (f m)) (hn : n < cs.size) (hv : v = f n) : ∀ m, m < n + 1 → (cs.setIfInBounds n v)[m]? = some (f m) := by
  intro m hm
  rw [Array.getElem?_setIfInBounds]
  by_cases e : n = m
  · subst e; rw [if_pos rfl, if_pos hn, hv]
  · rw [if_neg e]; exact h m (by omega)

/-- Nothing is turned but rows of T from lo on, below hi. -/
theorem gby_refl (a : World) (row : Option Nat) : a.grownBy a row := ⟨rfl, rfl, rfl, Nat.le_refl _, fun _ _ _ => rfl⟩
theorem gby_set (w : World) (c j : Nat) (v : Value) : w.grownBy (w.setCell ⟨c, j, none⟩ v) (some c) :=
  ⟨rfl, rfl, rfl, by simp, fun k _ hne => heap_setCell_other w ⟨c, j, none⟩ k v (fun e => hne (by rw [e]))⟩
theorem gby_below {w w1 : World} {row : Option Nat} (hb : Below w.heap.size w w1) : w.grownBy w1 row := ⟨hb.os, hb.tape, hb.output, hb.size, fun k hk _ => hb.block k hk⟩
end Go.Proofs.YtadjhnaiphnpoaaDoor
