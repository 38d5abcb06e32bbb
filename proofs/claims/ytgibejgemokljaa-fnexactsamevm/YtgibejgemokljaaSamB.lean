/- Rows compared: the program. -/
import Derived.Test.YtgibejgemokljaaSamA
namespace Go.Proofs.Ytgibejgemokljaa
open Go.RowKit

set_option maxRecDepth 100000 in
set_option maxHeartbeats 1600000 in
theorem sint_impl (xs ys : List Int) (a b : Option Addr) (ca cb lo hi lo' hi' : Nat) (V : Bool) (hV : V = true ↔ xs = ys) (w : World) (hn : xs.length ≤ maxLen) (hS : RowAt 1 IntC w lo hi xs a) (hT : RowAt 1 IntC w lo' hi' ys b) :
    Calls Try.prog 91 #[.slice a xs.length ca, .slice b ys.length cb] w fun e w' => e = .returned (.bool V) ∧ ∃ m, w' = w.drewN m := by
  unfold maxLen at hn
  by_cases hl : xs.length = ys.length
  · rw [← hl]
    go_enter Try.func91, Try.ntmps91
    go_wp2_with fail
    go_loopw [13] (fun x wr => ∃ i m : Nat, x = .int .i64 i ∧ i ≤ xs.length ∧ wr = w.drewN m ∧ ∀ j (_ : j < i) (h1 : j < xs.length) (h2 : j < ys.length), xs[j] = ys[j]) (fun x _ => xs.length - (intOf x).toNat)
    case atStart => exact ⟨0, 0, rfl, Nat.zero_le _, (World.drewN_zero _).symm, fun j h => absurd h (Nat.not_lt_zero _)⟩
    case round =>
      obtain ⟨i, m, rfl, hil, rfl, hall⟩ := hrel
      by_cases hlt : i < xs.length
      · have hlt2 : i < ys.length := by omega
        obtain ⟨g, o, cx, rfl, _, hg, hC, _, hc⟩ := hS i hlt
        obtain ⟨g', o', cy, rfl, _, hg', hC', _, hc'⟩ := hT i hlt2
        obtain ⟨okx, rfl⟩ := hC
        obtain ⟨oky, rfl⟩ := hC'
        have x0 := hc 0 (by decide)
        have y0 := hc' 0 (by decide)
        simp only [List.getElem?_cons_zero, Nat.add_zero, Nat.one_mul] at x0 y0
        replace x0 : w.cell? ⟨g, o + i, none⟩ = _ := x0
        replace y0 : w.cell? ⟨g', o' + i, none⟩ = _ := y0
        have HN : Hid (¬ xs[i] = ys[i] → V = false) := fun h => vno hV (ne_rows hlt hlt2 h)
        have HY : Hid (xs[i] = ys[i] → ∀ j (_ : j < i + 1) (h1 : j < xs.length) (h2 : j < ys.length), xs[j] = ys[j]) := fun h j hj h1 h2 => by
          by_cases e : j = i
          · subst e; exact h
          · exact hall j (by omega) h1 h2
        clear hc hc' hS hT hall okx oky
        generalize xs[i] = x at *
        generalize ys[i] = y at *
        by_cases he : x = y
        · subst he
          have HYY : Hid (∀ j (_ : j < i + 1) (h1 : j < xs.length) (h2 : j < ys.length), xs[j] = ys[j]) := HY.out rfl
          clear HY HN hV
          go_wp2_with fail
          go_quiet (fail)
          go_wp2_with fail
          go_roundw
          case rel => exact ⟨i + 1, _, by go_num, by omega, by first | rfl | exact World.drewN_drewN _ _ _, HYY.out⟩
          case measure => simp [intOf]; omega
        · have hv : V = false := HN.out he
          clear HY HN hV
          subst hv
          go_wp2_with fail
          go_quiet (fail)
          go_wp2_with fail
          go_ret
          exact ⟨rfl, _, by first | rfl | exact World.drewN_drewN _ _ _⟩
      · obtain rfl : i = xs.length := by omega
        have hv : V = true := vyes hV (ext_rows hl fun j h1 h2 => hall j h1 h1 h2)
        clear hall hS hT hV
        subst hv
        go_wp2_with fail
        go_ret
        exact ⟨rfl, _, rfl⟩
  · have hv : V = false := vno hV fun e => hl (by rw [e])
    have hl' : ¬ ((xs.length : Int) = (ys.length : Int)) := by omega
    clear hV
    subst hv
    go_enter Try.func91, Try.ntmps91
    go_wp2_with fail
    go_ret
    exact ⟨rfl, 0, (World.drewN_zero _).symm⟩
set_option maxRecDepth 100000 in
set_option maxHeartbeats 1600000 in
theorem sstr_impl (xs ys : List ByteArray) (a b : Option Addr) (ca cb lo hi lo' hi' : Nat) (V : Bool) (hV : V = true ↔ xs = ys) (w : World) (hn : xs.length ≤ maxLen) (hS : RowAt 1 StrC w lo hi xs a) (hT : RowAt 1 StrC w lo' hi' ys b) :
    Calls Try.prog 42 #[.slice a xs.length ca, .slice b ys.length cb] w fun e w' => e = .returned (.bool V) ∧ ∃ m, w' = w.drewN m := by
  unfold maxLen at hn
  by_cases hl : xs.length = ys.length
  · rw [← hl]
    go_enter Try.func42, Try.ntmps42
    go_wp2_with fail
    go_loopw [13] (fun x wr => ∃ i m : Nat, x = .int .i64 i ∧ i ≤ xs.length ∧ wr = w.drewN m ∧ ∀ j (_ : j < i) (h1 : j < xs.length) (h2 : j < ys.length), xs[j] = ys[j]) (fun x _ => xs.length - (intOf x).toNat)
    case atStart => exact ⟨0, 0, rfl, Nat.zero_le _, (World.drewN_zero _).symm, fun j h => absurd h (Nat.not_lt_zero _)⟩
    case round =>
      obtain ⟨i, m, rfl, hil, rfl, hall⟩ := hrel
      by_cases hlt : i < xs.length
      · have hlt2 : i < ys.length := by omega
        obtain ⟨g, o, cx, rfl, _, hg, hC, _, hc⟩ := hS i hlt
        obtain ⟨g', o', cy, rfl, _, hg', hC', _, hc'⟩ := hT i hlt2
        obtain ⟨okx, rfl⟩ := hC
        obtain ⟨oky, rfl⟩ := hC'
        have x0 := hc 0 (by decide)
        have y0 := hc' 0 (by decide)
        simp only [List.getElem?_cons_zero, Nat.add_zero, Nat.one_mul] at x0 y0
        replace x0 : w.cell? ⟨g, o + i, none⟩ = _ := x0
        replace y0 : w.cell? ⟨g', o' + i, none⟩ = _ := y0
        have HN : Hid (¬ xs[i] = ys[i] → V = false) := fun h => vno hV (ne_rows hlt hlt2 h)
        have HY : Hid (xs[i] = ys[i] → ∀ j (_ : j < i + 1) (h1 : j < xs.length) (h2 : j < ys.length), xs[j] = ys[j]) := fun h j hj h1 h2 => by
          by_cases e : j = i
          · subst e; exact h
          · exact hall j (by omega) h1 h2
        clear hc hc' hS hT hall okx oky
        generalize xs[i] = x at *
        generalize ys[i] = y at *
        by_cases he : x = y
        · subst he
          have HYY : Hid (∀ j (_ : j < i + 1) (h1 : j < xs.length) (h2 : j < ys.length), xs[j] = ys[j]) := HY.out rfl
          clear HY HN hV
          go_wp2_with fail
          go_quiet (fail)
          go_wp2_with fail
          go_roundw
          case rel => exact ⟨i + 1, _, by go_num, by omega, by first | rfl | exact World.drewN_drewN _ _ _, HYY.out⟩
          case measure => simp [intOf]; omega
        · have hv : V = false := HN.out he
          clear HY HN hV
          subst hv
          have hs := str_ne he
          go_wp2_with fail
          go_quiet (fail)
          go_wp2_with fail
          go_ret
          exact ⟨rfl, _, by first | rfl | exact World.drewN_drewN _ _ _⟩
      · obtain rfl : i = xs.length := by omega
        have hv : V = true := vyes hV (ext_rows hl fun j h1 h2 => hall j h1 h1 h2)
        clear hall hS hT hV
        subst hv
        go_wp2_with fail
        go_ret
        exact ⟨rfl, _, rfl⟩
  · have hv : V = false := vno hV fun e => hl (by rw [e])
    have hl' : ¬ ((xs.length : Int) = (ys.length : Int)) := by omega
    clear hV
    subst hv
    go_enter Try.func42, Try.ntmps42
    go_wp2_with fail
    go_ret
    exact ⟨rfl, 0, (World.drewN_zero _).symm⟩
set_option maxRecDepth 100000 in
set_option maxHeartbeats 1600000 in
theorem sval_impl (xs ys : List Vl) (a b : Option Addr) (ca cb lo hi lo' hi' : Nat) (V : Bool) (hV : V = true ↔ xs = ys) (w : World) (hn : xs.length ≤ maxLen) (hS : RowAt 3 ValC w lo hi xs a) (hT : RowAt 3 ValC w lo' hi' ys b) :
    Calls Try.prog 43 #[.slice a xs.length ca, .slice b ys.length cb] w fun e w' => e = .returned (.bool V) ∧ ∃ m, w' = w.drewN m := by
  unfold maxLen at hn
  by_cases hl : xs.length = ys.length
  · rw [← hl]
    go_enter Try.func43, Try.ntmps43
    go_wp2_with fail
    go_loopw [13] (fun x wr => ∃ i m : Nat, x = .int .i64 i ∧ i ≤ xs.length ∧ wr = w.drewN m ∧ ∀ j (_ : j < i) (h1 : j < xs.length) (h2 : j < ys.length), xs[j] = ys[j]) (fun x _ => xs.length - (intOf x).toNat)
    case atStart => exact ⟨0, 0, rfl, Nat.zero_le _, (World.drewN_zero _).symm, fun j h => absurd h (Nat.not_lt_zero _)⟩
    case round =>
      obtain ⟨i, m, rfl, hil, rfl, hall⟩ := hrel
      by_cases hlt : i < xs.length
      · have hlt2 : i < ys.length := by omega
        obtain ⟨g, o, cx, rfl, _, hg, hC, _, hc⟩ := hS i hlt
        obtain ⟨g', o', cy, rfl, _, hg', hC', _, hc'⟩ := hT i hlt2
        obtain ⟨okx, rfl⟩ := hC
        obtain ⟨oky, rfl⟩ := hC'
        have x0 := hc 0 (by decide)
        have y0 := hc' 0 (by decide)
        have x1 := hc 1 (by decide)
        have y1 := hc' 1 (by decide)
        have x2 := hc 2 (by decide)
        have y2 := hc' 2 (by decide)
        simp only [List.getElem?_cons_zero, List.getElem?_cons_succ, Nat.add_zero] at x0 y0 x1 y1 x2 y2
        replace x0 : w.cell? ⟨g, o + 3 * i, none⟩ = _ := x0
        replace y0 : w.cell? ⟨g', o' + 3 * i, none⟩ = _ := y0
        replace x1 : w.cell? ⟨g, o + 3 * i + 1, none⟩ = _ := x1
        replace y1 : w.cell? ⟨g', o' + 3 * i + 1, none⟩ = _ := y1
        replace x2 : w.cell? ⟨g, o + 3 * i + 2, none⟩ = _ := x2
        replace y2 : w.cell? ⟨g', o' + 3 * i + 2, none⟩ = _ := y2
        have mc : i * 3 = 3 * i := Nat.mul_comm _ _
        have HN : Hid (¬ xs[i] = ys[i] → V = false) := fun h => vno hV (ne_rows hlt hlt2 h)
        have HY : Hid (xs[i] = ys[i] → ∀ j (_ : j < i + 1) (h1 : j < xs.length) (h2 : j < ys.length), xs[j] = ys[j]) := fun h j hj h1 h2 => by
          by_cases e : j = i
          · subst e; exact h
          · exact hall j (by omega) h1 h2
        clear hc hc' hS hT hall okx oky
        generalize xs[i] = x at *
        generalize ys[i] = y at *
        by_cases he : x = y
        · subst he
          have HYY : Hid (∀ j (_ : j < i + 1) (h1 : j < xs.length) (h2 : j < ys.length), xs[j] = ys[j]) := HY.out rfl
          clear HY HN hV
          go_wp2_with fail
          go_quiet (fail)
          go_wp2_with fail
          go_roundw
          case rel => exact ⟨i + 1, _, by go_num, by omega, by first | rfl | exact World.drewN_drewN _ _ _, HYY.out⟩
          case measure => simp [intOf]; omega
        · have hv : V = false := HN.out he
          clear HY HN hV
          subst hv
          by_cases h0 : x.k = y.k
          · skip
            by_cases h1 : x.n = y.n
            · skip
              have h2 : ¬ x.s = y.s := fun e => he (by obtain ⟨a, b, c⟩ := x; obtain ⟨a', b', c'⟩ := y; simp_all)
              have hs := str_ne h2
              go_wp2_with fail
              go_quiet (fail)
              go_wp2_with fail
              go_ret
              exact ⟨rfl, _, by first | rfl | exact World.drewN_drewN _ _ _⟩
            · skip
              go_wp2_with fail
              go_quiet (fail)
              go_wp2_with fail
              go_ret
              exact ⟨rfl, _, by first | rfl | exact World.drewN_drewN _ _ _⟩
          · skip
            go_wp2_with fail
            go_quiet (fail)
            go_wp2_with fail
            go_ret
            exact ⟨rfl, _, by first | rfl | exact World.drewN_drewN _ _ _⟩
      · obtain rfl : i = xs.length := by omega
        have hv : V = true := vyes hV (ext_rows hl fun j h1 h2 => hall j h1 h1 h2)
        clear hall hS hT hV
        subst hv
        go_wp2_with fail
        go_ret
        exact ⟨rfl, _, rfl⟩
  · have hv : V = false := vno hV fun e => hl (by rw [e])
    have hl' : ¬ ((xs.length : Int) = (ys.length : Int)) := by omega
    clear hV
    subst hv
    go_enter Try.func43, Try.ntmps43
    go_wp2_with fail
    go_ret
    exact ⟨rfl, 0, (World.drewN_zero _).symm⟩
set_option maxRecDepth 100000 in
set_option maxHeartbeats 1600000 in
theorem spair_impl (xs ys : List PairD) (a b : Option Addr) (ca cb lo hi lo' hi' : Nat) (V : Bool) (hV : V = true ↔ xs = ys) (w : World) (hn : xs.length ≤ maxLen) (hS : RowAt 6 PairC w lo hi xs a) (hT : RowAt 6 PairC w lo' hi' ys b) :
    Calls Try.prog 45 #[.slice a xs.length ca, .slice b ys.length cb] w fun e w' => e = .returned (.bool V) ∧ ∃ m, w' = w.drewN m := by
  unfold maxLen at hn
  by_cases hl : xs.length = ys.length
  · rw [← hl]
    go_enter Try.func45, Try.ntmps45
    go_wp2_with fail
    go_loopw [13] (fun x wr => ∃ i m : Nat, x = .int .i64 i ∧ i ≤ xs.length ∧ wr = w.drewN m ∧ ∀ j (_ : j < i) (h1 : j < xs.length) (h2 : j < ys.length), xs[j] = ys[j]) (fun x _ => xs.length - (intOf x).toNat)
    case atStart => exact ⟨0, 0, rfl, Nat.zero_le _, (World.drewN_zero _).symm, fun j h => absurd h (Nat.not_lt_zero _)⟩
    case round =>
      obtain ⟨i, m, rfl, hil, rfl, hall⟩ := hrel
      by_cases hlt : i < xs.length
      · have hlt2 : i < ys.length := by omega
        obtain ⟨g, o, cx, rfl, _, hg, hC, _, hc⟩ := hS i hlt
        obtain ⟨g', o', cy, rfl, _, hg', hC', _, hc'⟩ := hT i hlt2
        obtain ⟨okx, rfl⟩ := hC
        obtain ⟨oky, rfl⟩ := hC'
        have x0 := hc 0 (by decide)
        have y0 := hc' 0 (by decide)
        have x1 := hc 1 (by decide)
        have y1 := hc' 1 (by decide)
        have x2 := hc 2 (by decide)
        have y2 := hc' 2 (by decide)
        have x3 := hc 3 (by decide)
        have y3 := hc' 3 (by decide)
        have x4 := hc 4 (by decide)
        have y4 := hc' 4 (by decide)
        have x5 := hc 5 (by decide)
        have y5 := hc' 5 (by decide)
        simp only [List.getElem?_cons_zero, List.getElem?_cons_succ, Nat.add_zero] at x0 y0 x1 y1 x2 y2 x3 y3 x4 y4 x5 y5
        replace x0 : w.cell? ⟨g, o + 6 * i, none⟩ = _ := x0
        replace y0 : w.cell? ⟨g', o' + 6 * i, none⟩ = _ := y0
        replace x1 : w.cell? ⟨g, o + 6 * i + 1, none⟩ = _ := x1
        replace y1 : w.cell? ⟨g', o' + 6 * i + 1, none⟩ = _ := y1
        replace x2 : w.cell? ⟨g, o + 6 * i + 2, none⟩ = _ := x2
        replace y2 : w.cell? ⟨g', o' + 6 * i + 2, none⟩ = _ := y2
        replace x3 : w.cell? ⟨g, o + 6 * i + 3, none⟩ = _ := x3
        replace y3 : w.cell? ⟨g', o' + 6 * i + 3, none⟩ = _ := y3
        replace x4 : w.cell? ⟨g, o + 6 * i + 4, none⟩ = _ := x4
        replace y4 : w.cell? ⟨g', o' + 6 * i + 4, none⟩ = _ := y4
        replace x5 : w.cell? ⟨g, o + 6 * i + 5, none⟩ = _ := x5
        replace y5 : w.cell? ⟨g', o' + 6 * i + 5, none⟩ = _ := y5
        have mc : i * 6 = 6 * i := Nat.mul_comm _ _
        have HN : Hid (¬ xs[i] = ys[i] → V = false) := fun h => vno hV (ne_rows hlt hlt2 h)
        have HY : Hid (xs[i] = ys[i] → ∀ j (_ : j < i + 1) (h1 : j < xs.length) (h2 : j < ys.length), xs[j] = ys[j]) := fun h j hj h1 h2 => by
          by_cases e : j = i
          · subst e; exact h
          · exact hall j (by omega) h1 h2
        clear hc hc' hS hT hall okx oky
        generalize xs[i] = x at *
        generalize ys[i] = y at *
        by_cases he : x = y
        · subst he
          have HYY : Hid (∀ j (_ : j < i + 1) (h1 : j < xs.length) (h2 : j < ys.length), xs[j] = ys[j]) := HY.out rfl
          clear HY HN hV
          go_wp2_with fail
          go_quiet (fail)
          go_wp2_with fail
          go_roundw
          case rel => exact ⟨i + 1, _, by go_num, by omega, by first | rfl | exact World.drewN_drewN _ _ _, HYY.out⟩
          case measure => simp [intOf]; omega
        · have hv : V = false := HN.out he
          clear HY HN hV
          subst hv
          by_cases h0 : x.key.k = y.key.k
          · skip
            by_cases h1 : x.key.n = y.key.n
            · skip
              by_cases h2 : x.key.s = y.key.s
              · skip
                by_cases h3 : x.val.k = y.val.k
                · skip
                  by_cases h4 : x.val.n = y.val.n
                  · skip
                    have h5 : ¬ x.val.s = y.val.s := fun e => he (by obtain ⟨⟨a, b, c⟩, ⟨d, e', f⟩⟩ := x; obtain ⟨⟨a', b', c'⟩, ⟨d', e'', f'⟩⟩ := y; simp_all)
                    have hs := str_ne h5
                    go_wp2_with fail
                    go_quiet (fail)
                    go_wp2_with fail
                    go_ret
                    exact ⟨rfl, _, by first | rfl | exact World.drewN_drewN _ _ _⟩
                  · skip
                    go_wp2_with fail
                    go_quiet (fail)
                    go_wp2_with fail
                    go_ret
                    exact ⟨rfl, _, by first | rfl | exact World.drewN_drewN _ _ _⟩
                · skip
                  go_wp2_with fail
                  go_quiet (fail)
                  go_wp2_with fail
                  go_ret
                  exact ⟨rfl, _, by first | rfl | exact World.drewN_drewN _ _ _⟩
              · skip
                have hs := str_ne h2
                go_wp2_with fail
                go_quiet (fail)
                go_wp2_with fail
                go_ret
                exact ⟨rfl, _, by first | rfl | exact World.drewN_drewN _ _ _⟩
            · skip
              go_wp2_with fail
              go_quiet (fail)
              go_wp2_with fail
              go_ret
              exact ⟨rfl, _, by first | rfl | exact World.drewN_drewN _ _ _⟩
          · skip
            go_wp2_with fail
            go_quiet (fail)
            go_wp2_with fail
            go_ret
            exact ⟨rfl, _, by first | rfl | exact World.drewN_drewN _ _ _⟩
      · obtain rfl : i = xs.length := by omega
        have hv : V = true := vyes hV (ext_rows hl fun j h1 h2 => hall j h1 h1 h2)
        clear hall hS hT hV
        subst hv
        go_wp2_with fail
        go_ret
        exact ⟨rfl, _, rfl⟩
  · have hv : V = false := vno hV fun e => hl (by rw [e])
    have hl' : ¬ ((xs.length : Int) = (ys.length : Int)) := by omega
    clear hV
    subst hv
    go_enter Try.func45, Try.ntmps45
    go_wp2_with fail
    go_ret
    exact ⟨rfl, 0, (World.drewN_zero _).symm⟩
end Go.Proofs.Ytgibejgemokljaa
