/- A heap that was handed in. -/
import Derived.Test.YtbdpfmkpjeleaaaHeapP
import Derived.OpenShut
import Derived.Deep.Slices
namespace Go.Proofs.Ytbdpfmkpjeleaaa
open Go.RowKit Go.WideShapes Go.Deep

theorem cells_prL : Try.prog.cellsOf 131 = 6 := by kernel_rfl
theorem cells_hpL : Try.prog.cellsOf 25 = 2 := by kernel_rfl
theorem cells_prsL : Try.prog.cellsOf 106 = 1 := by kernel_rfl
theorem cells_prssL : Try.prog.cellsOf 22 = 1 := by kernel_rfl
theorem cells_valsL : Try.prog.cellsOf 23 = 1 := by kernel_rfl
theorem list_ofV {α : Type} (len : Nat) (P : Nat → α → Prop) (h : ∀ i, i < len → ∃ s, P i s) : ∃ l : List α, l.length = len ∧ ∀ i (hi : i < l.length), P i l[i] := by
  induction len with
  | zero => exact ⟨[], rfl, fun i hi => absurd hi (by simp)⟩
  | succ n ih =>
    obtain ⟨l, hl, hp⟩ := ih fun i hi => h i (by omega)
    obtain ⟨s, hs⟩ := h n (by omega)
    refine ⟨l ++ [s], by simp [hl], fun i hi => ?_⟩
    by_cases hn : i < l.length
    · rw [List.getElem_append_left hn]; exact hp i hn
    · have : i = l.length := by simp at hi; omega
      subst this
      simp
      rw [hl]; exact hs
theorem placeV {W : World} {a : Addr} {k len : Nat} (hk : 0 < k) (hel : ∀ i, i < len → ∃ cs', W.cells? 0 (a.add (i * k)) k = some cs') (i : Nat) (hi : i < len) :
    ∃ g o, a = ⟨g, o, none⟩ ∧ g < W.heap.size ∧ ∀ cs', W.cells? 0 (a.add (i * k)) k = some cs' → cs'.length = k ∧ ∀ j, j < k → W.cell? ⟨g, o + k * i + j, none⟩ = cs'[j]? := by
  obtain ⟨g, o, spot⟩ := a
  obtain ⟨cs0, h0⟩ := hel 0 (by omega)
  obtain ⟨_, hl0, h00⟩ := World.cells?_some h0
  have h1 := h00 0 hk
  rw [Nat.zero_mul] at h1
  obtain ⟨c0, hc0⟩ : ∃ c0, cs0[0]? = some c0 := by
    cases cs0 with
    | nil => simp at hl0; omega
    | cons c0 _ => exact ⟨c0, rfl⟩
  rw [hc0] at h1
  have hspot : spot = none := by simpa [Addr.add] using World.cell?_spot h1
  subst hspot
  refine ⟨g, o, rfl, World.block_lt_of_cell? W _ (by rw [add_plain, add_plain] at h1; exact h1), fun cs' h => ?_⟩
  obtain ⟨_, hl, h2⟩ := World.cells?_some h
  refine ⟨hl, fun j hj => ?_⟩
  have h3 := h2 j hj
  rw [add_plain, add_plain, Nat.mul_comm i k] at h3
  exact h3

section
variable {H : Type} {enc : TypeId × Value → H} {W : World} {sp : Nat → Bool} {hd : Bool}

theorem vals_open {fuel : Nat} {c : Value} {x : DataW H × List MemPlace} (h : DataW.trod enc Try.prog W 0 sp hd fuel 23 [c] = some x) :
    ∃ a ca, ∃ vs : List Vl, c = .slice a vs.length ca ∧ vs.length ≤ maxLen ∧ VAt W 0 W.heap.size vs a := by
  rcases open_slice Try.underlying23 h with ⟨hc, _⟩ | ⟨a, len, cap, m, n, D, Pl, hc, _, hl, hm, hmm, _, hel⟩
  · simp at hc
    subst hc
    exact ⟨none, 0, [], rfl, Nat.zero_le _, fun i hi => absurd hi (Nat.not_lt_zero _)⟩
  · simp at hc
    subst hc
    have hlm : len ≤ m := by rw [hmm]; split <;> omega
    have hel' : ∀ i, i < len → ∃ cs', W.cells? 0 (a.add (i * 3)) 3 = some cs' ∧ DataW.trod enc Try.prog W 0 sp hd n 40 cs' = some (D i, Pl i) := fun i hi => by
      have := hel i (by omega)
      rw [cells_val] at this
      exact this
    clear hel
    obtain ⟨vs, hlen, hvs⟩ := list_ofV len (fun i (v : Vl) => v.Ok ∧ ∃ g o, some a = some ⟨g, o, none⟩ ∧ 0 ≤ g ∧ g < W.heap.size ∧ ∀ j, j < 3 → W.cell? ⟨g, o + 3 * i + j, none⟩ = v.cs[j]?) (fun i hi => by
      obtain ⟨g, o, ha, hg, hcell⟩ := placeV (by decide) (fun i hi => (hel' i hi).imp fun _ h => h.1) i hi
      obtain ⟨cs', h1, h2⟩ := hel' i hi
      obtain ⟨k, m, s, rfl, hok⟩ := val_open h2
      exact ⟨⟨k, m, s⟩, ⟨hok⟩, g, o, by rw [ha], Nat.zero_le _, hg, (hcell _ h1).2⟩)
    subst hlen
    exact ⟨some a, cap, vs, rfl, by omega, hvs⟩

set_option maxRecDepth 100000 in
theorem pair_open {fuel : Nat} {cs : List Value} {x : DataW H × List MemPlace} (h : DataW.trod enc Try.prog W 0 sp hd fuel 131 cs = some x) : ∃ p : Pr, p.Ok ∧ cs = p.cs := by
  obtain ⟨xs, n, hn, _, hlen, hxl, hf⟩ := DataW.trod_struct Try.underlying131 h
  rw [cells_prL] at hlen
  have f0 := hf 0 _ rfl
  have f1 := hf 1 _ rfl
  rw [List.getElem?_eq_getElem (by rw [hxl]; decide)] at f0 f1
  have e0 : List.take 3 (List.drop 0 cs) = List.take 3 cs := by simp
  obtain ⟨k, m, s, h0, ok0⟩ := val_open (show DataW.trod enc Try.prog W 0 sp hd n 40 (List.take 3 (List.drop 0 cs)) = some _ from f0)
  obtain ⟨k2, m2, s2, h1, ok1⟩ := val_open (show DataW.trod enc Try.prog W 0 sp hd n 40 (List.take 3 (List.drop 3 cs)) = some _ from f1)
  refine ⟨⟨⟨k, m, s⟩, ⟨k2, m2, s2⟩⟩, ⟨⟨ok0⟩, ⟨ok1⟩⟩, ?_⟩
  rw [e0] at h0
  have h3 : List.take 3 (List.drop 3 cs) = List.drop 3 cs := List.take_of_length_le (by simp; omega)
  rw [h3] at h1
  rw [← List.take_append_drop 3 cs, h0, h1]
  rfl
theorem pairs_open {fuel : Nat} {c : Value} {x : DataW H × List MemPlace} (h : DataW.trod enc Try.prog W 0 sp hd fuel 106 [c] = some x) :
    ∃ a ca, ∃ vs : List Pr, c = .slice a vs.length ca ∧ vs.length ≤ maxLen ∧ PAt W 0 W.heap.size vs a := by
  rcases open_slice Try.underlying106 h with ⟨hc, _⟩ | ⟨a, len, cap, m, n, D, Pl, hc, _, hl, hm, hmm, _, hel⟩
  · simp at hc
    subst hc
    exact ⟨none, 0, [], rfl, Nat.zero_le _, fun i hi => absurd hi (Nat.not_lt_zero _)⟩
  · simp at hc
    subst hc
    have hlm : len ≤ m := by rw [hmm]; split <;> omega
    have hel' : ∀ i, i < len → ∃ cs', W.cells? 0 (a.add (i * 6)) 6 = some cs' ∧ DataW.trod enc Try.prog W 0 sp hd n 131 cs' = some (D i, Pl i) := fun i hi => by
      have := hel i (by omega)
      rw [cells_prL] at this
      exact this
    clear hel
    obtain ⟨vs, hlen, hvs⟩ := list_ofV len (fun i (v : Pr) => v.Ok ∧ ∃ g o, some a = some ⟨g, o, none⟩ ∧ 0 ≤ g ∧ g < W.heap.size ∧ ∀ j, j < 6 → W.cell? ⟨g, o + 6 * i + j, none⟩ = v.cs[j]?) (fun i hi => by
      obtain ⟨g, o, ha, hg, hcell⟩ := placeV (by decide) (fun i hi => (hel' i hi).imp fun _ h => h.1) i hi
      obtain ⟨cs', h1, h2⟩ := hel' i hi
      obtain ⟨p, hok, rfl⟩ := pair_open h2
      exact ⟨p, hok, g, o, by rw [ha], Nat.zero_le _, hg, (hcell _ h1).2⟩)
    subst hlen
    exact ⟨some a, cap, vs, rfl, by omega, hvs⟩
theorem tabs_open {fuel : Nat} {c : Value} {x : DataW H × List MemPlace} (h : DataW.trod enc Try.prog W 0 sp hd fuel 22 [c] = some x) :
    ∃ a ca, ∃ ts : List (List Pr), c = .slice a ts.length ca ∧ ts.length ≤ maxLen ∧ TAt W 0 W.heap.size ts a := by
  rcases open_slice Try.underlying22 h with ⟨hc, _⟩ | ⟨a, len, cap, m, n, D, Pl, hc, _, hl, hm, hmm, _, hel⟩
  · simp at hc
    subst hc
    exact ⟨none, 0, [], rfl, Nat.zero_le _, fun i hi => absurd hi (Nat.not_lt_zero _)⟩
  · simp at hc
    subst hc
    have hlm : len ≤ m := by rw [hmm]; split <;> omega
    have hel' : ∀ i, i < len → ∃ cs', W.cells? 0 (a.add (i * 1)) 1 = some cs' ∧ DataW.trod enc Try.prog W 0 sp hd n 106 cs' = some (D i, Pl i) := fun i hi => by
      have := hel i (by omega)
      rw [cells_prsL] at this
      exact this
    clear hel
    obtain ⟨ts, hlen, hts⟩ := list_ofV len (fun i (t : List Pr) => t.length ≤ maxLen ∧ ∃ g o b cb, some a = some ⟨g, o, none⟩ ∧ 0 ≤ g ∧ g < W.heap.size ∧ W.cell? ⟨g, o + i, none⟩ = some (.slice b t.length cb) ∧ PAt W 0 W.heap.size t b) (fun i hi => by
      obtain ⟨g, o, ha, hg, hcell⟩ := placeV (by decide) (fun i hi => (hel' i hi).imp fun _ h => h.1) i hi
      obtain ⟨cs', h1, h2⟩ := hel' i hi
      obtain ⟨hl1, hc1⟩ := hcell _ h1
      obtain ⟨c', rfl⟩ : ∃ c', cs' = [c'] := by
        match cs', hl1 with
        | [c'], _ => exact ⟨c', rfl⟩
      obtain ⟨b, cb, t, rfl, htl, hP⟩ := pairs_open h2
      have h3 := hc1 0 (by decide)
      rw [Nat.one_mul] at h3
      exact ⟨t, htl, g, o, b, cb, by rw [ha], Nat.zero_le _, hg, h3, hP⟩)
    subst hlen
    exact ⟨some a, cap, ts, rfl, by omega, hts⟩

set_option maxRecDepth 100000 in
theorem heap_open {fuel : Nat} {cs : List Value} {x : DataW H × List MemPlace} (h : DataW.trod enc Try.prog W 0 sp hd fuel 25 cs = some x) : ∃ hp : Hp, HAt W 0 W.heap.size hp cs := by
  obtain ⟨xs, n, hn, _, hlen, hxl, hf⟩ := DataW.trod_struct Try.underlying25 h
  rw [cells_hpL] at hlen
  obtain ⟨c0, c1, rfl⟩ : ∃ c0 c1, cs = [c0, c1] := by
    match cs, hlen with
    | [c0, c1], _ => exact ⟨c0, c1, rfl⟩
  obtain ⟨x0, f0⟩ := vfield 0 c0 22 _ rfl rfl rfl cells_prssL (hf 0 _ rfl) (by rw [hxl]; decide)
  obtain ⟨x1, f1⟩ := vfield 1 c1 23 _ rfl rfl rfl cells_valsL (hf 1 _ rfl) (by rw [hxl]; decide)
  obtain ⟨a, ca, ts, rfl, h1, hT⟩ := tabs_open f0
  obtain ⟨b, cb, vs, rfl, h2, hV⟩ := vals_open f1
  exact ⟨⟨ts, vs⟩, a, ca, b, cb, rfl, h1, h2, hT, hV⟩
end
end Go.Proofs.Ytbdpfmkpjeleaaa
