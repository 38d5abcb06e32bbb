/- slices.Backward over a list of names: what it hands on, from the last one on. -/
import Derived.RangeFuncBox
import Derived.RangeFuncLeaves
import Derived.RangeFuncNested
import Derived.RangeFuncBound
import Derived.RangeFuncCalls
import Derived.Shelf.Abstract
import Derived.Shelf.RegionOpen
import Derived.WalkKit
import Derived.OwnWalkIn
import Derived.TacticsInMore
import Derived.LoopNIn
import Derived.LoopIn
import Derived.Test.YtnbkgpmibgdlmaaVofE
namespace Go.Proofs.Ytnbkgpmibgdlmaa
open Go.RowKit Go.Shelf

attribute [local go_sem] Oper.semAt_some

/-- The k-th name from the last one on, and its number. -/
def bkAt (zs : List NameD) (j : Nat) : Nat × NameD := (zs.length - 1 - j, (zs[zs.length - 1 - j]?).getD ⟨⟨#[]⟩, 0, 0, 0⟩)
def bkUp (zs : List NameD) (k : Nat) : List (Nat × NameD) := (List.range k).map (bkAt zs)
theorem bkUp_succ (zs : List NameD) (k : Nat) : bkUp zs (k + 1) = bkUp zs k ++ [bkAt zs k] := by simp [bkUp, List.range_succ]
theorem bkUp_length (zs : List NameD) (k : Nat) : (bkUp zs k).length = k := by simp [bkUp]
theorem bkAt_some {zs : List NameD} {k : Nat} (h : k < zs.length) : bkAt zs k = (zs.length - 1 - k, zs[zs.length - 1 - k]) := by
  unfold bkAt
  rw [List.getElem?_eq_getElem (by omega)]
  rfl
/-- A slice of names, in a block below n₀; or nil. -/
def NmAt (n₀ : Nat) (W : World) (sv : Value) (zs : List NameD) : Prop :=
  (sv = .slice none 0 0 ∧ zs = []) ∨ ∃ b off cap, sv = .slice (some ⟨b, off, none⟩) zs.length cap ∧ b < n₀ ∧ ∀ j (h : j < zs.length), W.cell? ⟨b, off + 4 * j, none⟩ = some (.string (zs[j]).text) ∧ W.cell? ⟨b, off + 4 * j + 1, none⟩ = some (.int .i64 (zs[j]).slot) ∧ W.cell? ⟨b, off + 4 * j + 2, none⟩ = some (.int .i64 (zs[j]).frm) ∧ W.cell? ⟨b, off + 4 * j + 3, none⟩ = some (.int .i64 (zs[j]).upto)
theorem NmAt.below {n₀ : Nat} {A B : World} (h : Below n₀ A B) {sv : Value} {zs : List NameD} : NmAt n₀ A sv zs → NmAt n₀ B sv zs
  | .inl e => .inl e
  | .inr ⟨b, off, cap, e, hb, hc⟩ => .inr ⟨b, off, cap, e, hb, fun j hj => by
    obtain ⟨h0, h1, h2, h3⟩ := hc j hj
    exact ⟨(h.cell (p := ⟨b, off + 4 * j, none⟩) hb).trans h0, (h.cell (p := ⟨b, off + 4 * j + 1, none⟩) hb).trans h1, (h.cell (p := ⟨b, off + 4 * j + 2, none⟩) hb).trans h2, (h.cell (p := ⟨b, off + 4 * j + 3, none⟩) hb).trans h3⟩⟩

set_option maxRecDepth 100000 in
set_option maxHeartbeats 4000000 in
theorem back1_in (F : Fence) (n : Nat) (h8 : F.fn 96) (hro : F.round = none) (hn : 1 ≤ n) (l Bs n₀ b off cap : Nat) (zs : List NameD) (hreach : zs.length ≤ 1048576) (hb : b < n₀) (J Jx : List (Nat × NameD) → World → Prop)
    (hY : ∀ pre x W, J pre W → pre.length < zs.length → YieldAt F (n - 1) Try.prog l #[.int .i64 (x.1 : Int), .agg #[.string x.2.text, .int .i64 x.2.slot, .int .i64 x.2.frm, .int .i64 x.2.upto]] W fun e W' =>
      (e = .returned (.bool true) ∧ J (pre ++ [x]) W' ∧ Below n₀ W W') ∨ (e = .returned (.bool false) ∧ Jx (pre ++ [x]) W'))
    (W : World) (hBs : W.cell? ⟨Bs, 0, none⟩ = some (.slice (some ⟨b, off, none⟩) zs.length cap)) (hBs' : Bs < n₀) (hc : ∀ j (h : j < zs.length), W.cell? ⟨b, off + 4 * j, none⟩ = some (.string (zs[j]).text) ∧ W.cell? ⟨b, off + 4 * j + 1, none⟩ = some (.int .i64 (zs[j]).slot) ∧ W.cell? ⟨b, off + 4 * j + 2, none⟩ = some (.int .i64 (zs[j]).frm) ∧ W.cell? ⟨b, off + 4 * j + 3, none⟩ = some (.int .i64 (zs[j]).upto)) (h0 : J [] W) :
    CallsIn F n Try.prog 96 #[.func (.yield l) #[] #[], .pointer (some ⟨Bs, 0, none⟩)] W fun e W' => (∃ v, e = .returned v) ∧
      ((∃ ys, ys = bkUp zs zs.length ∧ J ys W') ∨ (∃ pre, (∃ k, k ≤ zs.length ∧ pre = bkUp zs k) ∧ Jx pre W')) := by
  have wl : IntKind.i64.wrap ((zs.length : Int) - 1) = (zs.length : Int) - 1 := by rw [IntKind.wrap_i64]; omega
  refine callsIn_of_wp Try.func96 rfl h8 ?_ hro
  simp only [Try.ntmps96, List.size_toArray, List.length_cons, List.length_nil, Nat.reduceAdd, Nat.reduceSub, Array.replicate_succ, Array.replicate_zero, List.push_toArray, List.append_toArray, List.nil_append, List.cons_append]
  gi_wp2
  gi_loopw [3] (fun i wr => ∃ k : Nat, k ≤ zs.length ∧ i = .int .i64 ((zs.length : Int) - 1 - k) ∧ J (bkUp zs k) wr ∧ Below n₀ W wr)
    (fun i _ => (intOf i + 1).toNat)
  case atStart => exact ⟨0, Nat.zero_le _, by simp, h0, Below.refl _ _⟩
  case round =>
    obtain ⟨k, hk, rfl, hJs, hnx⟩ := hrel
    have hsl := (hnx.cell (p := ⟨Bs, 0, none⟩) hBs').trans hBs
    by_cases hlt : k < zs.length
    · obtain ⟨i, hi⟩ : ∃ i : Nat, (zs.length : Int) - 1 - k = i := ⟨zs.length - 1 - k, by omega⟩
      have hi2 : zs.length - 1 - k = i := by omega
      have hiz : i < zs.length := by omega
      obtain ⟨fn, tmps, assign, body, hy, hR⟩ := hY _ (bkAt zs k) wr hJs (by rw [bkUp_length]; exact hlt)
      obtain ⟨q0, q1, q2, q3⟩ := hc i hiz
      have x0 := (hnx.cell (p := ⟨b, off + 4 * i, none⟩) hb).trans q0
      have x1 := (hnx.cell (p := ⟨b, off + 4 * i + 1, none⟩) hb).trans q1
      have x2 := (hnx.cell (p := ⟨b, off + 4 * i + 2, none⟩) hb).trans q2
      have x3 := (hnx.cell (p := ⟨b, off + 4 * i + 3, none⟩) hb).trans q3
      have hbk : bkAt zs k = (i, zs[i]) := by rw [bkAt_some hlt]; simp only [hi2]
      have hup := bkUp_succ zs k
      rw [hbk] at hy hR hup
      rw [← hup] at hR
      have HUP : Hid (bkUp zs (k + 1) = bkUp zs k ++ [(i, zs[i])]) := hup
      have hii : (i : Int) < (zs.length : Int) := by omega
      have hi0 : (0 : Int) ≤ (i : Int) := by omega
      have mi : i * 4 = 4 * i := Nat.mul_comm _ _
      have wi : IntKind.i64.wrap ((i : Int) - 1) = (i : Int) - 1 := by rw [IntKind.wrap_i64]; omega
      have HI : Hid ((zs.length : Int) - 1 - k = i) := hi
      clear q0 q1 q2 q3 hc hbk hup hi hi2
      generalize zs[i] = z at *
      rw [HI.out]
      dsimp only at hy
      gi_wp2
      refine hR.mono ?_
      rintro e W3 (⟨rfl, hJ3, hk3⟩ | ⟨rfl, hJx3⟩)
      · gi_wp2
        go_roundw
        case rel => exact ⟨k + 1, by omega, by have := HI.out; congr 1; omega, hJ3, hnx.trans hk3⟩
        case measure => simp [intOf]
      · gi_wp2
        refine bodyPost_ret (results_none rfl _ _ _) rfl ?_
        exact ⟨⟨_, rfl⟩, .inr ⟨_, ⟨k + 1, by omega, rfl⟩, hJx3⟩⟩
    · obtain rfl : k = zs.length := by omega
      gi_wp2
      go_end0
      exact ⟨⟨_, rfl⟩, .inl ⟨_, rfl, hJs⟩⟩

set_option maxRecDepth 100000 in
set_option maxHeartbeats 1000000 in
theorem back1_nil_in (F : Fence) (n : Nat) (h8 : F.fn 96) (hro : F.round = none) (l Bs : Nat) (J : List (Nat × NameD) → World → Prop) (W : World) (hBs : W.cell? ⟨Bs, 0, none⟩ = some (.slice none 0 0)) (h0 : J [] W) :
    CallsIn F n Try.prog 96 #[.func (.yield l) #[] #[], .pointer (some ⟨Bs, 0, none⟩)] W fun e W' => (∃ v, e = .returned v) ∧ J [] W' := by
  have wl : IntKind.i64.wrap (-1) = -1 := by rw [IntKind.wrap_i64]; omega
  refine callsIn_of_wp Try.func96 rfl h8 ?_ hro
  simp only [Try.ntmps96, List.size_toArray, List.length_cons, List.length_nil, Nat.reduceAdd, Nat.reduceSub, Array.replicate_succ, Array.replicate_zero, List.push_toArray, List.append_toArray, List.nil_append, List.cons_append]
  gi_wp2
  gi_loopw [3] (fun i wr => i = .int .i64 (-1) ∧ J [] wr) (fun _ _ => 0)
  case atStart => exact ⟨rfl, h0⟩
  case round =>
    obtain ⟨rfl, hJs⟩ := hrel
    gi_wp2
    go_end0
    exact ⟨⟨_, rfl⟩, hJs⟩

set_option maxHeartbeats 1000000 in
theorem backward_in (F : Fence) (n : Nat) (h6 : F.fn 68) (hro : F.round = none) (a : Option Addr) (len cap : Nat) (w : World) :
    CallsIn F n Try.prog 68 #[.slice a len cap] w fun e w' => e = .returned (.func (.func 96) #[] #[.pointer (some ⟨w.heap.size, 0, none⟩)]) ∧ w' = w.alloc (.cells #[.slice a len cap] 79) := by
  refine callsIn_of_wp Try.func68 rfl h6 ?_ hro
  simp only [Try.ntmps68, List.size_toArray, List.length_cons, List.length_nil, Nat.reduceAdd, Nat.reduceSub, Array.replicate_succ, Array.replicate_zero, List.push_toArray, List.append_toArray, List.nil_append, List.cons_append]
  gi_wp2
  go_ret
  exact ⟨rfl, rfl⟩

theorem backward_stops (F : Fence) (n : Nat) (h8 : F.fn 96) (hro : F.round = none) (hn : 1 ≤ n) (Bs n₀ : Nat) (sv : Value) (zs : List NameD) (hreach : zs.length ≤ 1048576) (w : World) (hBs : Bs < n₀) (hn₀ : n₀ ≤ w.heap.size)
    (hc : w.cell? ⟨Bs, 0, none⟩ = some sv) (hI : NmAt n₀ w sv zs) :
    SeqStopsK F n Try.prog 96 #[.pointer (some ⟨Bs, 0, none⟩)] (fun x : Nat × NameD => #[Value.int .i64 (x.1 : Int), .agg #[.string x.2.text, .int .i64 x.2.slot, .int .i64 x.2.frm, .int .i64 x.2.upto]]) (Below n₀) (fun ys => ys = bkUp zs zs.length)
      (fun pre => ∃ k, k ≤ zs.length ∧ pre = bkUp zs k) zs.length w := fun l J Jx W hW _ _ hY h0 => by
  have hc' := (hW.cell (p := ⟨Bs, 0, none⟩) (Nat.lt_of_lt_of_le hBs hn₀)).trans hc
  rcases hI.below (hW.mono hn₀) with ⟨rfl, rfl⟩ | ⟨b, off, cap, rfl, hb, hcs⟩
  · exact (back1_nil_in F n h8 hro l Bs J W hc' h0).mono fun e W' ⟨he, hj⟩ => ⟨he, .inl ⟨_, rfl, hj⟩⟩
  · exact back1_in F n h8 hro hn l Bs n₀ b off cap zs hreach hb J Jx hY W hc' hBs hcs h0
end Go.Proofs.Ytnbkgpmibgdlmaa
