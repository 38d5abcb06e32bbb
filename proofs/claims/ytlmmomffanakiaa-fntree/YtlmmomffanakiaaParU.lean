/- The reader of programs, whole: one induction on what is left to be read. -/
import Derived.Test.YtlmmomffanakiaaParT
import Derived.Test.YtlmmomffanakiaaParR
import Derived.Test.YtlmmomffanakiaaParS
namespace Go.Proofs.Ytlmmomffanakiaa
open Go.RowKit

/-- All that takes an expression, from the ranks behind. -/
theorem exp_of6 {c : Nat} {la : Option Addr} {cap : Nat} {L : List Tk} {i : Nat} {bad : Bool} (h6 : ExpOk 6 c la cap L i bad) (HX : ∀ r : Int, 0 ≤ r → r ≤ 6 → bad = false → ∀ j bd, (bd = true ∨ i < j) → ExpOk r c la cap L j bd) (r : Int) (h0 : 0 ≤ r) (hr : r ≤ 6) : ExpOk r c la cap L i bad := by
  have e5 : ExpOk 5 c la cap L i bad := fun w h => exp_any 5 (by omega) (by omega) c la cap L i bad w h h6 (HX 6 (by omega) (by omega))
  have e4 : ExpOk 4 c la cap L i bad := fun w h => exp_any 4 (by omega) (by omega) c la cap L i bad w h e5 (HX 5 (by omega) (by omega))
  have e3 : ExpOk 3 c la cap L i bad := fun w h => exp3_any c la cap L i bad w h e4 (HX 3 (by omega) (by omega))
  have e2 : ExpOk 2 c la cap L i bad := fun w h => exp_any 2 (by omega) (by omega) c la cap L i bad w h e3 (HX 3 (by omega) (by omega))
  have e1 : ExpOk 1 c la cap L i bad := fun w h => exp_any 1 (by omega) (by omega) c la cap L i bad w h e2 (HX 2 (by omega) (by omega))
  have e0 : ExpOk 0 c la cap L i bad := fun w h => exp_any 0 (by omega) (by omega) c la cap L i bad w h e1 (HX 1 (by omega) (by omega))
  obtain rfl | rfl | rfl | rfl | rfl | rfl | rfl : r = 0 ∨ r = 1 ∨ r = 2 ∨ r = 3 ∨ r = 4 ∨ r = 5 ∨ r = 6 := by omega
  · exact e0
  · exact e1
  · exact e2
  · exact e3
  · exact e4
  · exact e5
  · exact h6
/-- Where a word did not fit nothing is read any more. -/
theorem exp_bad (c : Nat) (la : Option Addr) (cap : Nat) (L : List Tk) (i : Nat) (r : Int) (h0 : 0 ≤ r) (hr : r ≤ 6) : ExpOk r c la cap L i true :=
  exp_of6 (fun w h => exp6_any c la cap L i true w h (fun e => by cases e) (fun e => by cases e) (fun e => by cases e)) (fun _ _ _ e => by cases e) r h0 hr
theorem block_bad (c : Nat) (la : Option Addr) (cap : Nat) (L : List Tk) (i : Nat) : BlockOk c la cap L i true :=
  fun w h => block_any c la cap L i true w h (fun _ _ e => by cases e)
theorem func_bad (c : Nat) (la : Option Addr) (cap : Nat) (L : List Tk) (i : Nat) : FuncOk c la cap L i true :=
  fun z w h => func_any c la cap L i true z w h (fun j bd hb => by
    rcases hb with rfl | ⟨e, _⟩
    · exact block_bad c la cap L j
    · cases e)
/-- What is read from a place on. -/
structure AllOk (c : Nat) (la : Option Addr) (cap : Nat) (L : List Tk) (i : Nat) : Prop where
  exp : ∀ r : Int, 0 ≤ r → r ≤ 6 → ExpOk r c la cap L i false
  func : FuncOk c la cap L i false
  loc : LocalOk c la cap L i false
  iff : IfOk c la cap L i false
  stat : StatOk c la cap L i false
  block : BlockOk c la cap L i false
/-- Behind the last word there is no place. -/
theorem all_far (c : Nat) (la : Option Addr) (cap : Nat) (L : List Tk) (i : Nat) (hi : L.length < i) : AllOk c la cap L i :=
  ⟨fun _ _ _ w h => absurd h.le (by omega), fun _ w h => absurd h.le (by omega), fun _ w h => absurd h.le (by omega), fun _ w h => absurd h.le (by omega), fun w h => absurd h.le (by omega), fun w h => absurd h.le (by omega)⟩
theorem all_step (c : Nat) (la : Option Addr) (cap : Nat) (L : List Tk) (i : Nat) (ih : ∀ j, i < j → AllOk c la cap L j) : AllOk c la cap L i := by
  have HE : ∀ r : Int, 0 ≤ r → r ≤ 6 → ∀ j bd, (bd = true ∨ i < j) → ExpOk r c la cap L j bd := fun r h0 h6 j bd hb => by
    cases bd
    · rcases hb with e | hj
      · cases e
      · exact (ih j hj).exp r h0 h6
    · exact exp_bad c la cap L j r h0 h6
  have HB : ∀ j bd, (bd = true ∨ i < j) → BlockOk c la cap L j bd := fun j bd hb => by
    cases bd
    · rcases hb with e | hj
      · cases e
      · exact (ih j hj).block
    · exact block_bad c la cap L j
  have HF : ∀ j bd, (bd = true ∨ i < j) → FuncOk c la cap L j bd := fun j bd hb => by
    cases bd
    · rcases hb with e | hj
      · cases e
      · exact (ih j hj).func
    · exact func_bad c la cap L j
  have hp : PrefixOk c la cap L i false := fun w h => prefix_any c la cap L i false w h (fun _ => HE 0 (by omega) (by omega))
  have h6 : ExpOk 6 c la cap L i false := fun w h => exp6_any c la cap L i false w h (fun _ => HE 6 (by omega) (by omega)) (fun _ => HE 0 (by omega) (by omega)) (fun _ => HF)
  have hx : ∀ r : Int, 0 ≤ r → r ≤ 6 → ExpOk r c la cap L i false := exp_of6 h6 (fun r h0 h1 _ => HE r h0 h1)
  have hl : LocalOk c la cap L i false := fun z w h => local_any c la cap L i false z w h HF (HE 0 (by omega) (by omega))
  have hi : IfOk c la cap L i false := fun z w h => if_any c la cap L i z w h (hx 0 (by omega) (by omega)) HB
  have hs : StatOk c la cap L i false := fun w h => stat_any c la cap L i w h hp (HE 0 (by omega) (by omega)) HB (ih (i + 1) (by omega)).loc (ih (i + 1) (by omega)).iff
  exact ⟨hx, fun z w h => func_any c la cap L i false z w h (fun j bd hb => HB j bd (hb.imp id And.right)), hl, hi, hs, fun w h => block_any c la cap L i false w h (fun j hj _ => by
    rcases Nat.eq_or_lt_of_le hj with rfl | hj
    · exact hs
    · exact (ih j hj).stat)⟩
theorem all_ok (c : Nat) (la : Option Addr) (cap : Nat) (L : List Tk) : ∀ n i, L.length - i ≤ n → AllOk c la cap L i := by
  intro n
  induction n with
  | zero =>
    intro i hi
    -- at the end, or behind it
    exact all_step c la cap L i (fun j hj => all_far c la cap L j (by omega))
  | succ n ih =>
    intro i hi
    refine all_step c la cap L i (fun j hj => ?_)
    by_cases hl : j ≤ L.length
    · exact ih j (by omega)
    · exact all_far c la cap L j (by omega)
theorem block_ok (c : Nat) (la : Option Addr) (cap : Nat) (L : List Tk) (i : Nat) (bad : Bool) : BlockOk c la cap L i bad := by
  cases bad
  · exact (all_ok c la cap L (L.length - i) i (Nat.le_refl _)).block
  · exact block_bad c la cap L i
/-- A program's row of statements may be written. -/
theorem root_ok (c : Nat) (la : Option Addr) (cap : Nat) (L : List Tk) (i : Nat) (w : World) (h : PS w c la cap L i false) :
    Calls Try.prog 44 #[.pointer (some ⟨c, 0, none⟩)] w fun e w' => ∃ t v i' bad', e = .returned (.agg v.toArray) ∧ Left w w' w.heap.size c la cap L i false 0 0 t v i' bad' ∧ RowFree w' v :=
  block_root c la cap L i false w h fun j _ _ => (all_ok c la cap L (L.length - j) j (Nat.le_refl _)).stat
end Go.Proofs.Ytlmmomffanakiaa
