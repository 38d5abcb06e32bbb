/- Two rows of texts compared by slices.Equal. -/
import Derived.Test.YtlmmomffanakiaaSmP
import Derived.BigQuiet
import Derived.Deep.QuietTactic
namespace Go.Proofs.Ytlmmomffanakiaa
open Go.RowKit

theorem vno {V : Bool} {p : Prop} (hV : V = true ↔ p) (h : ¬ p) : V = false := by cases V; rfl; exact absurd (hV.1 rfl) h
theorem vyes {V : Bool} {p : Prop} (hV : V = true ↔ p) (h : p) : V = true := hV.2 h
theorem str_ne {a b : ByteArray} (h : ¬ a = b) : (a.toList == b.toList) = false := by
  rw [beq_eq_false_iff_ne]
  intro e
  rw [ByteArray.toList_eq, ByteArray.toList_eq] at e
  exact h (ByteArray.ext (Array.toList_inj.1 e))
theorem ext_rows {α : Type} {xs ys : List α} (hl : xs.length = ys.length) (h : ∀ j (h1 : j < xs.length) (h2 : j < ys.length), xs[j] = ys[j]) : xs = ys := List.ext_getElem hl fun j h1 h2 => h j h1 h2
theorem ne_rows {α : Type} {xs ys : List α} {i : Nat} (h1 : i < xs.length) (h2 : i < ys.length) (h : ¬ xs[i] = ys[i]) : ¬ xs = ys := fun e => h (by subst e; rfl)
set_option maxRecDepth 100000 in
set_option maxHeartbeats 1600000 in
theorem sstr_impl (xs ys : List ByteArray) (a b : Option Addr) (ca cb lo hi lo' hi' : Nat) (V : Bool) (hV : V = true ↔ xs = ys) (w : World) (hn : xs.length ≤ maxLen) (hS : SAt w lo hi xs a) (hT : SAt w lo' hi' ys b) :
    Calls Try.prog 36 #[.slice a xs.length ca, .slice b ys.length cb] w fun e w' => e = .returned (.bool V) ∧ ∃ m, w' = w.drewN m := by
  unfold maxLen at hn
  by_cases hl : xs.length = ys.length
  · rw [← hl]
    go_enter Try.func36, Try.ntmps36
    go_wp2_with fail
    go_loopw [13] (fun x wr => ∃ i m : Nat, x = .int .i64 i ∧ i ≤ xs.length ∧ wr = w.drewN m ∧ ∀ j (_ : j < i) (h1 : j < xs.length) (h2 : j < ys.length), xs[j] = ys[j]) (fun x _ => xs.length - (intOf x).toNat)
    case atStart => exact ⟨0, 0, rfl, Nat.zero_le _, (World.drewN_zero _).symm, fun j h => absurd h (Nat.not_lt_zero _)⟩
    case round =>
      obtain ⟨i, m, rfl, hil, rfl, hall⟩ := hrel
      by_cases hlt : i < xs.length
      · have hlt2 : i < ys.length := by omega
        obtain ⟨okx, g, o, rfl, _, hg, x0⟩ := hS i hlt
        obtain ⟨oky, g', o', rfl, _, hg', y0⟩ := hT i hlt2
        have HN : Hid (¬ xs[i] = ys[i] → V = false) := fun h => vno hV (ne_rows hlt hlt2 h)
        have HY : Hid (xs[i] = ys[i] → ∀ j (_ : j < i + 1) (h1 : j < xs.length) (h2 : j < ys.length), xs[j] = ys[j]) := fun h j hj h1 h2 => by
          by_cases e : j = i
          · subst e; exact h
          · exact hall j (by omega) h1 h2
        clear hS hT hall okx oky
        generalize xs[i] = x at *
        generalize ys[i] = y at *
        by_cases he : x = y
        · subst he
          have HYY : Hid (∀ j (_ : j < i + 1) (h1 : j < xs.length) (h2 : j < ys.length), xs[j] = ys[j]) := HY.out rfl
          clear HY HN hV
          go_wp2_with fail
          go_quiet (fail)
          go_wp2_with fail
          go_roundw
          case rel => exact ⟨i + 1, _, by go_num, by omega, by first | rfl | exact World.drewN_drewN _ _ _, HYY.out⟩
          case measure => simp [intOf]; omega
        · have hv : V = false := HN.out he
          clear HY HN hV
          subst hv
          have hs := str_ne he
          go_wp2_with fail
          go_quiet (fail)
          go_wp2_with fail
          go_ret
          exact ⟨rfl, _, by first | rfl | exact World.drewN_drewN _ _ _⟩
      · obtain rfl : i = xs.length := by omega
        have hv : V = true := vyes hV (ext_rows hl fun j h1 h2 => hall j h1 h1 h2)
        clear hall hS hT hV
        subst hv
        go_wp2_with fail
        go_ret
        exact ⟨rfl, _, rfl⟩
  · have hv : V = false := vno hV fun e => hl (by rw [e])
    have hl' : ¬ ((xs.length : Int) = (ys.length : Int)) := by omega
    clear hV
    subst hv
    go_enter Try.func36, Try.ntmps36
    go_wp2_with fail
    go_ret
    exact ⟨rfl, 0, (World.drewN_zero _).symm⟩
end Go.Proofs.Ytlmmomffanakiaa
