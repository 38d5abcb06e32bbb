/- Two trees alike, their lines apart. -/
import Derived.Test.YtlmmomffanakiaaJmE
namespace Go.Proofs.Ytlmmomffanakiaa
open Go.RowKit

mutual
/-- Alike, whatever the lines. -/
def lk : Nd → Nd → Bool
  | .mk k t n ns _ ks, .mk k' t' n' ns' _ ks' => decide (k = k') && decide (t = t') && decide (n = n') && decide (ns = ns') && lkL ks ks'
def lkL : List Nd → List Nd → Bool
  | [], [] => true
  | x :: l, y :: m => lk x y && lkL l m
  | [], _ :: _ => false
  | _ :: _, [] => false
end
theorem lkL_iff (l m : List Nd) : lkL l m = true ↔ l.length = m.length ∧ ∀ i (a : i < l.length) (b : i < m.length), lk l[i] m[i] = true := by
  induction l generalizing m with
  | nil =>
    cases m with
    | nil => simp [lkL]
    | cons y m => simp [lkL]
  | cons x l ih =>
    cases m with
    | nil => simp [lkL]
    | cons y m =>
      simp only [lkL, Bool.and_eq_true, ih, List.length_cons, Nat.add_right_cancel_iff]
      constructor
      · rintro ⟨h0, h1, h2⟩
        refine ⟨h1, fun i a b => ?_⟩
        cases i with
        | zero => exact h0
        | succ i => exact h2 i (by simpa using a) (by simpa using b)
      · rintro ⟨h1, h2⟩
        exact ⟨h2 0 (by simp) (by simp), h1, fun i a b => h2 (i + 1) (by simpa using a) (by simpa using b)⟩
theorem lk_true {k n y k' n' y' : Int} {t t' : ByteArray} {ns ns' : List ByteArray} {ks ks' : List Nd} : lk (.mk k t n ns y ks) (.mk k' t' n' ns' y' ks') = true ↔ k = k' ∧ t = t' ∧ n = n' ∧ ns = ns' ∧ lkL ks ks' = true := by
  simp only [lk, Bool.and_eq_true, decide_eq_true_eq]
  constructor
  · rintro ⟨⟨⟨⟨h1, h2⟩, h3⟩, h4⟩, h5⟩; exact ⟨h1, h2, h3, h4, h5⟩
  · rintro ⟨h1, h2, h3, h4, h5⟩; exact ⟨⟨⟨⟨h1, h2⟩, h3⟩, h4⟩, h5⟩
theorem lk_false {a b : Nd} (h : lk a b = true → False) : lk a b = false := by
  cases e : lk a b
  · rfl
  · exact absurd e h
theorem lk_comm (a b : Nd) : lk a b = lk b a := by
  have H : ∀ a b : Nd, lk a b = true → lk b a = true := by
    intro a
    induction a using nd_ind with
    | h k t n ns y ks ih =>
      intro b h
      obtain ⟨k', t', n', ns', y', ks'⟩ := b
      obtain ⟨h1, h2, h3, h4, h5⟩ := lk_true.1 h
      obtain ⟨h6, h7⟩ := (lkL_iff _ _).1 h5
      exact lk_true.2 ⟨h1.symm, h2.symm, h3.symm, h4.symm, (lkL_iff _ _).2 ⟨h6.symm, fun i a b => ih _ (List.getElem_mem b) _ (h7 i b a)⟩⟩
  cases e : lk a b
  · cases e' : lk b a
    · rfl
    · rw [H _ _ e'] at e; cases e
  · rw [H _ _ e]
theorem lk_refl (a : Nd) : lk a a = true := by
  induction a using nd_ind with
  | h k t n ns y ks ih => exact lk_true.2 ⟨rfl, rfl, rfl, rfl, (lkL_iff _ _).2 ⟨rfl, fun i a _ => ih _ (List.getElem_mem a)⟩⟩
theorem lk_szt (b : Nat) : ∀ s t : Nd, lk s t = true → szt b s = szt b t := by
  induction b with
  | zero => intro s t _; simp [szt]
  | succ b ih =>
    intro s t h
    obtain ⟨k, tx, n, ns, y, ks⟩ := s
    obtain ⟨k', tx', n', ns', y', ks'⟩ := t
    obtain ⟨h6, h7⟩ := (lkL_iff _ _).1 (lk_true.1 h).2.2.2.2
    have : ks.map (szt b) = ks'.map (szt b) := by
      apply List.ext_getElem
      · simpa using h6
      · intro i a b'
        simp only [List.getElem_map]
        exact ih _ _ (h7 i (by simpa using a) (by simpa using b'))
    simp only [szt, this]
end Go.Proofs.Ytlmmomffanakiaa
