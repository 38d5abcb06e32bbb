/- How many keys stand in a row: the count. -/
import Derived.Test.YtjeoeijbgkfpjaaHeapG
namespace Go.Proofs.Ytjeoeijbgkfpjaa
open Go.RowKit

def isK (p : Pr) (m : Int) : Bool := p.key.beq ⟨2, m, ⟨#[]⟩⟩
def hasK (ps : List Pr) (m : Int) : Bool := ps.any fun p => isK p m
theorem findV_has (ps : List Pr) (m : Int) : (findV ⟨2, m, ⟨#[]⟩⟩ ps).isSome = hasK ps m := by
  induction ps with
  | nil => rfl
  | cons p ps ih =>
    unfold findV hasK
    rw [List.any_cons]
    by_cases h : p.key.beq ⟨2, m, ⟨#[]⟩⟩ = true
    · rw [if_pos h]; simp [isK, h]
    · rw [if_neg h, ih]; simp only [Bool.not_eq_true] at h; simp [isK, h, hasK]
theorem isK_one {p : Pr} {m n : Int} (h : isK p m = true) (h' : isK p n = true) : m = n := by
  simp [isK, Vl.beq] at h h'
  omega
theorem pig (ps : List Pr) : ∀ (L : List Int), L.Nodup → (∀ x ∈ L, hasK ps x = true) → L.length ≤ ps.length := by
  induction ps with
  | nil =>
    intro L _ h
    cases L with
    | nil => simp
    | cons x L => have := h x (by simp); simp [hasK] at this
  | cons p ps ih =>
    intro L hL h
    by_cases hx : ∃ x ∈ L, isK p x = true
    · obtain ⟨x, hx, hk⟩ := hx
      have h1 := ih (L.erase x) (hL.erase x) (fun y hy => by
        have hy' := List.mem_of_mem_erase hy
        have hne : y ≠ x := fun e => by rw [e] at hy; exact (List.Nodup.not_mem_erase hL) hy
        have := h y hy'
        simp only [hasK, List.any_cons, Bool.or_eq_true] at this
        rcases this with h2 | h2
        · exact absurd (isK_one h2 hk) hne
        · exact h2)
      rw [List.length_erase_of_mem hx] at h1
      have : 0 < L.length := List.length_pos_of_mem hx
      simp only [List.length_cons]; omega
    · have h1 := ih L hL (fun y hy => by
        have := h y hy
        simp only [hasK, List.any_cons, Bool.or_eq_true] at this
        rcases this with h2 | h2
        · exact absurd ⟨y, hy, h2⟩ hx
        · exact h2)
      simp only [List.length_cons]; omega
theorem row_le (ps : List Pr) (n : Nat) (h : ∀ m : Nat, 1 ≤ m → m ≤ n → hasK ps m = true) : n ≤ ps.length := by
  have hnd : ((List.range n).map fun i : Nat => (i : Int) + 1).Nodup := by
    refine List.pairwise_map.2 (List.Pairwise.imp ?_ (List.nodup_range (n := n)))
    intro a b hab e
    exact hab (by omega)
  have h1 := pig ps ((List.range n).map fun i : Nat => (i : Int) + 1) hnd (fun x hx => by
    obtain ⟨i, hi, rfl⟩ := List.mem_map.1 hx
    have := h (i + 1) (by omega) (by have := List.mem_range.1 hi; omega)
    rwa [show ((i + 1 : Nat) : Int) = (i : Int) + 1 by omega] at this)
  simpa using h1
/-- The greatest number up to which all keys are there. -/
structure RowIs (ps : List Pr) (N : Nat) : Prop where
  le : N ≤ ps.length
  all : ∀ m : Nat, 1 ≤ m → m ≤ N → hasK ps m = true
  no : hasK ps ((N : Int) + 1) = false
theorem row_ex (ps : List Pr) : ∃ N, RowIs ps N := by
  have h : ∀ d n : Nat, (∀ m : Nat, 1 ≤ m → m ≤ n → hasK ps m = true) → ps.length < n + d → ∃ N, RowIs ps N := by
    intro d
    induction d with
    | zero => intro n h hd; have := row_le ps n h; omega
    | succ d ih =>
      intro n h hd
      by_cases hn : hasK ps ((n : Int) + 1) = true
      · refine ih (n + 1) (fun m h1 h2 => ?_) (by omega)
        by_cases e : m = n + 1
        · subst e; rwa [show ((n + 1 : Nat) : Int) = (n : Int) + 1 by omega]
        · exact h m h1 (by omega)
      · exact ⟨n, row_le ps n h, h, by simpa using hn⟩
  exact h (ps.length + 1) 0 (fun m h1 h2 => by omega) (by omega)
theorem RowIs.eq {ps : List Pr} {N r : Nat} (h : RowIs ps N) (ha : ∀ m : Nat, 1 ≤ m → m ≤ r → hasK ps m = true) (hn : r = ps.length ∨ hasK ps ((r : Int) + 1) = false) : r = N := by
  rcases Nat.lt_trichotomy r N with hlt | he | hgt
  · rcases hn with hn | hn
    · have := h.le; omega
    · have := h.all (r + 1) (by omega) (by omega)
      rw [show ((r + 1 : Nat) : Int) = (r : Int) + 1 by omega, hn] at this
      cases this
  · exact he
  · have := ha (N + 1) (by omega) (by omega)
    rw [show ((N + 1 : Nat) : Int) = (N : Int) + 1 by omega, h.no] at this
    cases this
end Go.Proofs.Ytjeoeijbgkfpjaa
