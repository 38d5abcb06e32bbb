/- The argument of a law on trees: what was handed in is a tree. -/
import Derived.Test.YtjldlihohcniaaaTreeP
import Derived.OpenShut
import Derived.Deep.Slices
namespace Go.Proofs.Ytjldlihohcniaaa
open Go.RowKit Go.WideShapes Go.Deep

theorem cells_nd : Try.prog.cellsOf 35 = 6 := by kernel_rfl
theorem cells_str : Try.prog.cellsOf 9 = 1 := by kernel_rfl
theorem cells_int : Try.prog.cellsOf 3 = 1 := by kernel_rfl
theorem cells_strs : Try.prog.cellsOf 24 = 1 := by kernel_rfl
theorem cells_nds : Try.prog.cellsOf 33 = 1 := by kernel_rfl

theorem six {α : Type} {l : List α} (h : l.length = 6) : ∃ c0 c1 c2 c3 c4 c5, l = [c0, c1, c2, c3, c4, c5] := by
  match l, h with
  | [c0, c1, c2, c3, c4, c5], _ => exact ⟨c0, c1, c2, c3, c4, c5, rfl⟩
theorem list_of {α : Type} (len : Nat) (P : Nat → α → Prop) (h : ∀ i, i < len → ∃ s, P i s) : ∃ l : List α, l.length = len ∧ ∀ i (hi : i < l.length), P i l[i] := by
  induction len with
  | zero => exact ⟨[], rfl, fun i hi => absurd hi (by simp)⟩
  | succ n ih =>
    obtain ⟨l, hl, hp⟩ := ih fun i hi => h i (by omega)
    obtain ⟨s, hs⟩ := h n (by omega)
    refine ⟨l ++ [s], by simp [hl], fun i hi => ?_⟩
    by_cases hn : i < l.length
    · rw [List.getElem_append_left hn]; exact hp i hn
    · have : i = l.length := by simp at hi; omega
      subst this
      simp
      rw [hl]; exact hs

theorem place {W : World} {a : Addr} {k len : Nat} (hk : 0 < k) (hel : ∀ i, i < len → ∃ cs', W.cells? 0 (a.add (i * k)) k = some cs') (i : Nat) (hi : i < len) :
    ∃ g o, a = ⟨g, o, none⟩ ∧ g < W.heap.size ∧ ∀ cs', W.cells? 0 (a.add (i * k)) k = some cs' → cs'.length = k ∧ ∀ j, j < k → W.cell? ⟨g, o + k * i + j, none⟩ = cs'[j]? := by
  obtain ⟨g, o, spot⟩ := a
  obtain ⟨cs0, h0⟩ := hel 0 (by omega)
  obtain ⟨_, hl0, h00⟩ := World.cells?_some h0
  have h1 := h00 0 hk
  rw [Nat.zero_mul] at h1
  obtain ⟨c0, hc0⟩ : ∃ c0, cs0[0]? = some c0 := by
    cases cs0 with
    | nil => simp at hl0; omega
    | cons c0 _ => exact ⟨c0, rfl⟩
  rw [hc0] at h1
  have hspot : spot = none := by simpa [Addr.add] using World.cell?_spot h1
  subst hspot
  refine ⟨g, o, rfl, World.block_lt_of_cell? W _ (by rw [add_plain, add_plain] at h1; exact h1), fun cs' h => ?_⟩
  obtain ⟨_, hl, h2⟩ := World.cells?_some h
  refine ⟨hl, fun j hj => ?_⟩
  have h3 := h2 j hj
  rw [add_plain, add_plain, Nat.mul_comm i k] at h3
  exact h3

theorem field1 {P : Program} {H : Type} {enc : TypeId × Value → H} {W : World} {sp : Nat → Bool} {hd : Bool} {n : Nat} {cs : List Value} {xs : List (DataW H × List MemPlace)} (j : Nat) (c : Value) (T : TypeId) (f : Field)
    (hj : cs[j]? = some c) (ht : f.type = T) (ho : f.offset = j) (hc : P.cellsOf T = 1)
    (hx : DataW.trod enc P W 0 sp hd n f.type (List.take (P.cellsOf f.type) (List.drop f.offset cs)) = xs[j]?) (hlt : j < xs.length) : ∃ x, DataW.trod enc P W 0 sp hd n T [c] = some x := by
  subst ht
  rw [hc, ho] at hx
  refine ⟨xs[j], ?_⟩
  rw [← List.getElem?_eq_getElem hlt, ← hx]
  congr 1
  have := List.getElem?_drop (xs := cs) (i := j) (j := 0)
  rw [Nat.add_zero, hj] at this
  cases hd' : List.drop j cs with
  | nil => rw [hd'] at this; simp at this
  | cons y l => rw [hd'] at this; simp at this; subst this; rfl

section
variable {H : Type} {enc : TypeId × Value → H} {W : World} {sp : Nat → Bool} {hd : Bool}

theorem strs_open {fuel : Nat} {c : Value} {x : DataW H × List MemPlace} (h : DataW.trod enc Try.prog W 0 sp hd fuel 24 [c] = some x) :
    ∃ a ca, ∃ ns : List ByteArray, c = .slice a ns.length ca ∧ ns.length ≤ maxLen ∧ SAt W 0 W.heap.size ns a := by
  rcases open_slice Try.underlying24 h with ⟨hc, _⟩ | ⟨a, len, cap, m, n, D, Pl, hc, _, hl, hm, hmm, _, hel⟩
  · simp at hc
    subst hc
    exact ⟨none, 0, [], rfl, Nat.zero_le _, fun i hi => absurd hi (Nat.not_lt_zero _)⟩
  · simp at hc
    subst hc
    have hlm : len ≤ m := by rw [hmm]; split <;> omega
    have hel' : ∀ i, i < len → ∃ cs', W.cells? 0 (a.add (i * 1)) 1 = some cs' ∧ DataW.trod enc Try.prog W 0 sp hd n 9 cs' = some (D i, Pl i) := fun i hi => by
      have := hel i (by omega)
      rw [cells_str] at this
      exact this
    clear hel
    obtain ⟨ns, hlen, hns⟩ := list_of len (fun i (s : ByteArray) => s.size ≤ maxLen ∧ ∃ g o, some a = some ⟨g, o, none⟩ ∧ 0 ≤ g ∧ g < W.heap.size ∧ W.cell? ⟨g, o + i, none⟩ = some (.string s)) (fun i hi => by
      obtain ⟨g, o, ha, hg, hcell⟩ := place (by decide) (fun i hi => (hel' i hi).imp fun _ h => h.1) i hi
      obtain ⟨cs', h1, h2⟩ := hel' i hi
      obtain ⟨s, rfl, _, hs⟩ := DataW.trod_string Try.underlying9 h2
      have h3 := (hcell _ h1).2 0 (by decide)
      rw [Nat.one_mul] at h3
      exact ⟨s, hs, g, o, by rw [ha], Nat.zero_le _, hg, h3⟩)
    subst hlen
    exact ⟨some a, cap, ns, rfl, by omega, hns⟩

set_option maxRecDepth 100000 in
theorem nd_open (fuel : Nat) : ∀ {cs : List Value} {x : DataW H × List MemPlace}, DataW.trod enc Try.prog W 0 sp hd fuel 35 cs = some x → ∃ t, NAt W 0 W.heap.size t cs := by
  induction fuel using Nat.strongRecOn with
  | ind fuel ih =>
    intro cs x h
    obtain ⟨xs, n, hn, _, hlen, hxl, hf⟩ := DataW.trod_struct Try.underlying35 h
    rw [cells_nd] at hlen
    obtain ⟨c0, c1, c2, c3, c4, c5, rfl⟩ := six hlen
    obtain ⟨x0, f0⟩ := field1 0 c0 3 _ rfl rfl rfl cells_int (hf 0 _ rfl) (by rw [hxl]; decide)
    obtain ⟨x1, f1⟩ := field1 1 c1 9 _ rfl rfl rfl cells_str (hf 1 _ rfl) (by rw [hxl]; decide)
    obtain ⟨x2, f2⟩ := field1 2 c2 3 _ rfl rfl rfl cells_int (hf 2 _ rfl) (by rw [hxl]; decide)
    obtain ⟨x3, f3⟩ := field1 3 c3 24 _ rfl rfl rfl cells_strs (hf 3 _ rfl) (by rw [hxl]; decide)
    obtain ⟨x4, f4⟩ := field1 4 c4 3 _ rfl rfl rfl cells_int (hf 4 _ rfl) (by rw [hxl]; decide)
    obtain ⟨x5, f5⟩ := field1 5 c5 33 _ rfl rfl rfl cells_nds (hf 5 _ rfl) (by rw [hxl]; decide)
    clear hf
    obtain ⟨k, e0, _, _⟩ := DataW.trod_int Try.underlying3 f0
    obtain ⟨t, e1, _, ht⟩ := DataW.trod_string Try.underlying9 f1
    obtain ⟨m, e2, _, _⟩ := DataW.trod_int Try.underlying3 f2
    obtain ⟨a, ca, ns, e3, hn3, hS⟩ := strs_open f3
    obtain ⟨l, e4, _, _⟩ := DataW.trod_int Try.underlying3 f4
    simp only [List.cons.injEq, and_true] at e0 e1 e2 e4
    subst e0 e1 e2 e3 e4
    rcases DataW.trod_slice Try.underlying33 f5 with ⟨hc, _⟩ | ⟨b, len, cap, elems, rest, n', hn', hc, _, _, hl, hm, hlen2, hel, _, _⟩
    · simp only [List.cons.injEq, and_true] at hc
      subst hc
      exact ⟨.mk k t m ns l [], by simp only [NAt]; exact ⟨ht, a, ca, none, 0, rfl, hn3, Nat.zero_le _, hS, trivial⟩⟩
    · simp only [List.cons.injEq, and_true] at hc
      subst hc
      have hel' : ∀ i, i < len → ∃ cs', W.cells? 0 (b.add (i * 6)) 6 = some cs' ∧ ∃ y, DataW.trod enc Try.prog W 0 sp hd n' 35 cs' = some y := fun i hi => by
        have h1 := hel i hi
        rw [cells_nd, List.getElem?_eq_getElem (by omega)] at h1
        obtain ⟨cs', h2, h3⟩ := Option.bind_eq_some_iff.1 h1
        exact ⟨cs', h2, _, h3⟩
      clear hel
      obtain ⟨ks, hkl, hks⟩ := list_of len (fun i (t : Nd) => ∃ g o v, some b = some ⟨g, o, none⟩ ∧ 0 ≤ g ∧ g < W.heap.size ∧ (∀ j, j < 6 → W.cell? ⟨g, o + 6 * i + j, none⟩ = v[j]?) ∧ NAt W 0 W.heap.size t v) (fun i hi => by
        obtain ⟨g, o, ha, hg, hcell⟩ := place (by decide) (fun i hi => (hel' i hi).imp fun _ h => h.1) i hi
        obtain ⟨cs', h1, y, h2⟩ := hel' i hi
        obtain ⟨t, hN⟩ := ih n' (by omega) h2
        exact ⟨t, g, o, cs', by rw [ha], Nat.zero_le _, hg, (hcell _ h1).2, hN⟩)
      subst hkl
      refine ⟨.mk k t m ns l ks, ?_⟩
      simp only [NAt]
      refine ⟨ht, a, ca, some b, cap, rfl, hn3, by omega, hS, KAt.mk fun i hi => ?_⟩
      rw [Nat.zero_add]
      exact hks i hi
end
end Go.Proofs.Ytjldlihohcniaaa
