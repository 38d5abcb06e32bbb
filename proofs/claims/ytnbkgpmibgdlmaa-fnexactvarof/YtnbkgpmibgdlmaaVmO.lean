/- Machines that were handed in. -/
import Derived.Test.YtnbkgpmibgdlmaaDatO
import Derived.Test.YtnbkgpmibgdlmaaVmP
namespace Go.Proofs.Ytnbkgpmibgdlmaa
open Go.RowKit Go.WideShapes Go.Deep

section
variable {H : Type} {enc : TypeId × Value → H} {W : World} {sp : Nat → Bool} {hd : Bool}
theorem cellsD_IntS : Try.prog.cellsOf 72 = 1 := by kernel_rfl
theorem IntS_open {fuel : Nat} {c : Value} {y : DataW H × List MemPlace} (h : DataW.trod enc Try.prog W 0 sp hd fuel 72 [c] = some y) :
    ∃ a ca, ∃ xs : List Int, c = .slice a xs.length ca ∧ xs.length ≤ maxLen ∧ RowAt 1 IntC W 0 W.heap.size xs a := by
  rcases open_slice Try.underlying72 h with ⟨hc, _⟩ | ⟨a, len, cap, m, n, D, Pl, hc, _, hl, hm, hmm, _, hel⟩
  · simp at hc
    subst hc
    exact ⟨none, 0, [], rfl, Nat.zero_le _, fun i hi => absurd hi (Nat.not_lt_zero _)⟩
  · simp at hc
    subst hc
    have hlm : len ≤ m := by rw [hmm]; split <;> omega
    have hel' : ∀ i, i < len → ∃ cs', W.cells? 0 (a.add (i * 1)) 1 = some cs' ∧ DataW.trod enc Try.prog W 0 sp hd n 3 cs' = some (D i, Pl i) := fun i hi => by
      have := hel i (by omega)
      rw [cellsD_int] at this
      exact this
    clear hel
    obtain ⟨xs, hlen, hxs⟩ := list_ofD len (fun i (x : Int) => ∃ g o cs, some a = some ⟨g, o, none⟩ ∧ 0 ≤ g ∧ g < W.heap.size ∧ IntC W 0 W.heap.size x cs ∧ cs.length = 1 ∧ ∀ j, j < 1 → W.cell? ⟨g, o + 1 * i + j, none⟩ = cs[j]?) (fun i hi => by
      obtain ⟨g, o, ha, hg, hcell⟩ := placeD (by decide) (fun i hi => (hel' i hi).imp fun _ h => h.1) i hi
      obtain ⟨cs', h1, h2⟩ := hel' i hi
      obtain ⟨z, e, _, hz⟩ := DataW.trod_int Try.underlying3 h2
      have bz := bounds_i64 hz
      exact ⟨z, g, o, cs', by rw [ha], Nat.zero_le _, hg, ⟨⟨bz.1, bz.2⟩, e⟩, hcell _ h1⟩)
    subst hlen
    exact ⟨some a, cap, xs, rfl, by omega, hxs⟩
theorem cellsD_StringS : Try.prog.cellsOf 29 = 1 := by kernel_rfl
theorem StringS_open {fuel : Nat} {c : Value} {y : DataW H × List MemPlace} (h : DataW.trod enc Try.prog W 0 sp hd fuel 29 [c] = some y) :
    ∃ a ca, ∃ xs : List ByteArray, c = .slice a xs.length ca ∧ xs.length ≤ maxLen ∧ RowAt 1 StrC W 0 W.heap.size xs a := by
  rcases open_slice Try.underlying29 h with ⟨hc, _⟩ | ⟨a, len, cap, m, n, D, Pl, hc, _, hl, hm, hmm, _, hel⟩
  · simp at hc
    subst hc
    exact ⟨none, 0, [], rfl, Nat.zero_le _, fun i hi => absurd hi (Nat.not_lt_zero _)⟩
  · simp at hc
    subst hc
    have hlm : len ≤ m := by rw [hmm]; split <;> omega
    have hel' : ∀ i, i < len → ∃ cs', W.cells? 0 (a.add (i * 1)) 1 = some cs' ∧ DataW.trod enc Try.prog W 0 sp hd n 9 cs' = some (D i, Pl i) := fun i hi => by
      have := hel i (by omega)
      rw [cellsD_str] at this
      exact this
    clear hel
    obtain ⟨xs, hlen, hxs⟩ := list_ofD len (fun i (x : ByteArray) => ∃ g o cs, some a = some ⟨g, o, none⟩ ∧ 0 ≤ g ∧ g < W.heap.size ∧ StrC W 0 W.heap.size x cs ∧ cs.length = 1 ∧ ∀ j, j < 1 → W.cell? ⟨g, o + 1 * i + j, none⟩ = cs[j]?) (fun i hi => by
      obtain ⟨g, o, ha, hg, hcell⟩ := placeD (by decide) (fun i hi => (hel' i hi).imp fun _ h => h.1) i hi
      obtain ⟨cs', h1, h2⟩ := hel' i hi
      obtain ⟨z, e, _, hz⟩ := DataW.trod_string Try.underlying9 h2
      exact ⟨z, g, o, cs', by rw [ha], Nat.zero_le _, hg, ⟨hz, e⟩, hcell _ h1⟩)
    subst hlen
    exact ⟨some a, cap, xs, rfl, by omega, hxs⟩
theorem cellsD_ValueS : Try.prog.cellsOf 24 = 1 := by kernel_rfl
theorem ValueS_open {fuel : Nat} {c : Value} {y : DataW H × List MemPlace} (h : DataW.trod enc Try.prog W 0 sp hd fuel 24 [c] = some y) :
    ∃ a ca, ∃ xs : List Vl, c = .slice a xs.length ca ∧ xs.length ≤ maxLen ∧ RowAt 3 ValC W 0 W.heap.size xs a := by
  rcases open_slice Try.underlying24 h with ⟨hc, _⟩ | ⟨a, len, cap, m, n, D, Pl, hc, _, hl, hm, hmm, _, hel⟩
  · simp at hc
    subst hc
    exact ⟨none, 0, [], rfl, Nat.zero_le _, fun i hi => absurd hi (Nat.not_lt_zero _)⟩
  · simp at hc
    subst hc
    have hlm : len ≤ m := by rw [hmm]; split <;> omega
    have hel' : ∀ i, i < len → ∃ cs', W.cells? 0 (a.add (i * 3)) 3 = some cs' ∧ DataW.trod enc Try.prog W 0 sp hd n 31 cs' = some (D i, Pl i) := fun i hi => by
      have := hel i (by omega)
      rw [cells_val] at this
      exact this
    clear hel
    obtain ⟨xs, hlen, hxs⟩ := list_ofD len (fun i (x : Vl) => ∃ g o cs, some a = some ⟨g, o, none⟩ ∧ 0 ≤ g ∧ g < W.heap.size ∧ ValC W 0 W.heap.size x cs ∧ cs.length = 3 ∧ ∀ j, j < 3 → W.cell? ⟨g, o + 3 * i + j, none⟩ = cs[j]?) (fun i hi => by
      obtain ⟨g, o, ha, hg, hcell⟩ := placeD (by decide) (fun i hi => (hel' i hi).imp fun _ h => h.1) i hi
      obtain ⟨cs', h1, h2⟩ := hel' i hi
      obtain ⟨k, m, s, rfl, hok⟩ := val_open h2
      exact ⟨⟨k, m, s⟩, g, o, _, by rw [ha], Nat.zero_le _, hg, ⟨⟨hok⟩, rfl⟩, hcell _ h1⟩)
    subst hlen
    exact ⟨some a, cap, xs, rfl, by omega, hxs⟩
theorem cellsD_Closure : Try.prog.cellsOf 125 = 2 := by kernel_rfl
set_option maxRecDepth 100000 in
theorem Closure_open {fuel : Nat} {cs : List Value} {y : DataW H × List MemPlace} (h : DataW.trod enc Try.prog W 0 sp hd fuel 125 cs = some y) : ∃ x : ClosureD, ClosureC W 0 W.heap.size x cs := by
  obtain ⟨xs, n, hn, _, hlen, hxl, hf⟩ := DataW.trod_struct Try.underlying125 h
  rw [cellsD_Closure] at hlen
  obtain ⟨c0, c1, rfl⟩ : ∃ c0 c1, cs = [c0, c1] := by
    match cs, hlen with
    | [c0, c1], _ => exact ⟨c0, c1, rfl⟩
  obtain ⟨y0, f0⟩ := vfieldD 0 0 c0 3 _ rfl rfl rfl cellsD_int (hf 0 _ rfl) (by rw [hxl]; decide)
  obtain ⟨z0, e0, _, hz0⟩ := DataW.trod_int Try.underlying3 f0
  simp only [List.cons.injEq, and_true] at e0
  subst e0
  have bz0 := bounds_i64 hz0
  obtain ⟨y1, f1⟩ := vfieldD 1 1 c1 72 _ rfl rfl rfl cellsD_IntS (hf 1 _ rfl) (by rw [hxl]; decide)
  obtain ⟨a1, ca1, r1, rfl, l1, R1⟩ := IntS_open f1
  exact ⟨⟨z0, r1⟩, ⟨⟨bz0.1, bz0.2⟩, l1⟩, a1, ca1, rfl, l1, R1⟩
theorem cellsD_ClosureS : Try.prog.cellsOf 27 = 1 := by kernel_rfl
theorem ClosureS_open {fuel : Nat} {c : Value} {y : DataW H × List MemPlace} (h : DataW.trod enc Try.prog W 0 sp hd fuel 27 [c] = some y) :
    ∃ a ca, ∃ xs : List ClosureD, c = .slice a xs.length ca ∧ xs.length ≤ maxLen ∧ RowAt 2 ClosureC W 0 W.heap.size xs a := by
  rcases open_slice Try.underlying27 h with ⟨hc, _⟩ | ⟨a, len, cap, m, n, D, Pl, hc, _, hl, hm, hmm, _, hel⟩
  · simp at hc
    subst hc
    exact ⟨none, 0, [], rfl, Nat.zero_le _, fun i hi => absurd hi (Nat.not_lt_zero _)⟩
  · simp at hc
    subst hc
    have hlm : len ≤ m := by rw [hmm]; split <;> omega
    have hel' : ∀ i, i < len → ∃ cs', W.cells? 0 (a.add (i * 2)) 2 = some cs' ∧ DataW.trod enc Try.prog W 0 sp hd n 125 cs' = some (D i, Pl i) := fun i hi => by
      have := hel i (by omega)
      rw [cellsD_Closure] at this
      exact this
    clear hel
    obtain ⟨xs, hlen, hxs⟩ := list_ofD len (fun i (x : ClosureD) => ∃ g o cs, some a = some ⟨g, o, none⟩ ∧ 0 ≤ g ∧ g < W.heap.size ∧ ClosureC W 0 W.heap.size x cs ∧ cs.length = 2 ∧ ∀ j, j < 2 → W.cell? ⟨g, o + 2 * i + j, none⟩ = cs[j]?) (fun i hi => by
      obtain ⟨g, o, ha, hg, hcell⟩ := placeD (by decide) (fun i hi => (hel' i hi).imp fun _ h => h.1) i hi
      obtain ⟨cs', h1, h2⟩ := hel' i hi
      obtain ⟨x, hx⟩ := Closure_open h2
      exact ⟨x, g, o, cs', by rw [ha], Nat.zero_le _, hg, hx, hcell _ h1⟩)
    subst hlen
    exact ⟨some a, cap, xs, rfl, by omega, hxs⟩
theorem cellsD_Frame : Try.prog.cellsOf 128 = 6 := by kernel_rfl
set_option maxRecDepth 100000 in
theorem Frame_open {fuel : Nat} {cs : List Value} {y : DataW H × List MemPlace} (h : DataW.trod enc Try.prog W 0 sp hd fuel 128 cs = some y) : ∃ x : FrameD, FrameC W 0 W.heap.size x cs := by
  obtain ⟨xs, n, hn, _, hlen, hxl, hf⟩ := DataW.trod_struct Try.underlying128 h
  rw [cellsD_Frame] at hlen
  obtain ⟨c0, c1, c2, c3, c4, c5, rfl⟩ : ∃ c0 c1 c2 c3 c4 c5, cs = [c0, c1, c2, c3, c4, c5] := by
    match cs, hlen with
    | [c0, c1, c2, c3, c4, c5], _ => exact ⟨c0, c1, c2, c3, c4, c5, rfl⟩
  obtain ⟨y0, f0⟩ := vfieldD 0 0 c0 3 _ rfl rfl rfl cellsD_int (hf 0 _ rfl) (by rw [hxl]; decide)
  obtain ⟨z0, e0, _, hz0⟩ := DataW.trod_int Try.underlying3 f0
  simp only [List.cons.injEq, and_true] at e0
  subst e0
  have bz0 := bounds_i64 hz0
  obtain ⟨y1, f1⟩ := vfieldD 1 1 c1 3 _ rfl rfl rfl cellsD_int (hf 1 _ rfl) (by rw [hxl]; decide)
  obtain ⟨z1, e1, _, hz1⟩ := DataW.trod_int Try.underlying3 f1
  simp only [List.cons.injEq, and_true] at e1
  subst e1
  have bz1 := bounds_i64 hz1
  obtain ⟨y2, f2⟩ := vfieldD 2 2 c2 72 _ rfl rfl rfl cellsD_IntS (hf 2 _ rfl) (by rw [hxl]; decide)
  obtain ⟨a2, ca2, r2, rfl, l2, R2⟩ := IntS_open f2
  obtain ⟨y3, f3⟩ := vfieldD 3 3 c3 72 _ rfl rfl rfl cellsD_IntS (hf 3 _ rfl) (by rw [hxl]; decide)
  obtain ⟨a3, ca3, r3, rfl, l3, R3⟩ := IntS_open f3
  obtain ⟨y4, f4⟩ := vfieldD 4 4 c4 24 _ rfl rfl rfl cellsD_ValueS (hf 4 _ rfl) (by rw [hxl]; decide)
  obtain ⟨a4, ca4, r4, rfl, l4, R4⟩ := ValueS_open f4
  obtain ⟨y5, f5⟩ := vfieldD 5 5 c5 4 _ rfl rfl rfl cellsD_bool (hf 5 _ rfl) (by rw [hxl]; decide)
  obtain ⟨z5, e5, _⟩ := DataW.trod_bool Try.underlying4 f5
  simp only [List.cons.injEq, and_true] at e5
  subst e5
  exact ⟨⟨z0, z1, r2, r3, r4, z5⟩, ⟨⟨bz0.1, bz0.2⟩, ⟨bz1.1, bz1.2⟩, l2, l3, l4, trivial⟩, a2, ca2, a3, ca3, a4, ca4, rfl, l2, R2, l3, R3, l4, R4⟩
theorem cellsD_FrameS : Try.prog.cellsOf 28 = 1 := by kernel_rfl
theorem FrameS_open {fuel : Nat} {c : Value} {y : DataW H × List MemPlace} (h : DataW.trod enc Try.prog W 0 sp hd fuel 28 [c] = some y) :
    ∃ a ca, ∃ xs : List FrameD, c = .slice a xs.length ca ∧ xs.length ≤ maxLen ∧ RowAt 6 FrameC W 0 W.heap.size xs a := by
  rcases open_slice Try.underlying28 h with ⟨hc, _⟩ | ⟨a, len, cap, m, n, D, Pl, hc, _, hl, hm, hmm, _, hel⟩
  · simp at hc
    subst hc
    exact ⟨none, 0, [], rfl, Nat.zero_le _, fun i hi => absurd hi (Nat.not_lt_zero _)⟩
  · simp at hc
    subst hc
    have hlm : len ≤ m := by rw [hmm]; split <;> omega
    have hel' : ∀ i, i < len → ∃ cs', W.cells? 0 (a.add (i * 6)) 6 = some cs' ∧ DataW.trod enc Try.prog W 0 sp hd n 128 cs' = some (D i, Pl i) := fun i hi => by
      have := hel i (by omega)
      rw [cellsD_Frame] at this
      exact this
    clear hel
    obtain ⟨xs, hlen, hxs⟩ := list_ofD len (fun i (x : FrameD) => ∃ g o cs, some a = some ⟨g, o, none⟩ ∧ 0 ≤ g ∧ g < W.heap.size ∧ FrameC W 0 W.heap.size x cs ∧ cs.length = 6 ∧ ∀ j, j < 6 → W.cell? ⟨g, o + 6 * i + j, none⟩ = cs[j]?) (fun i hi => by
      obtain ⟨g, o, ha, hg, hcell⟩ := placeD (by decide) (fun i hi => (hel' i hi).imp fun _ h => h.1) i hi
      obtain ⟨cs', h1, h2⟩ := hel' i hi
      obtain ⟨x, hx⟩ := Frame_open h2
      exact ⟨x, g, o, cs', by rw [ha], Nat.zero_le _, hg, hx, hcell _ h1⟩)
    subst hlen
    exact ⟨some a, cap, xs, rfl, by omega, hxs⟩
theorem cellsD_Pair : Try.prog.cellsOf 190 = 6 := by kernel_rfl
set_option maxRecDepth 100000 in
theorem Pair_open {fuel : Nat} {cs : List Value} {y : DataW H × List MemPlace} (h : DataW.trod enc Try.prog W 0 sp hd fuel 190 cs = some y) : ∃ x : PairD, PairC W 0 W.heap.size x cs := by
  obtain ⟨xs, n, hn, _, hlen, hxl, hf⟩ := DataW.trod_struct Try.underlying190 h
  rw [cellsD_Pair] at hlen
  obtain ⟨c0, c1, c2, c3, c4, c5, rfl⟩ : ∃ c0 c1 c2 c3 c4 c5, cs = [c0, c1, c2, c3, c4, c5] := by
    match cs, hlen with
    | [c0, c1, c2, c3, c4, c5], _ => exact ⟨c0, c1, c2, c3, c4, c5, rfl⟩
  have f0 := hf 0 _ rfl
  rw [List.getElem?_eq_getElem (by rw [hxl]; decide)] at f0
  obtain ⟨vk0, vn0, vs0, hv0, vok0⟩ := val_open (show DataW.trod enc Try.prog W 0 sp hd n 31 [c0, c1, c2] = some _ from f0)
  simp only [List.cons.injEq, and_true] at hv0
  obtain ⟨rfl, rfl, rfl⟩ := hv0
  have f1 := hf 1 _ rfl
  rw [List.getElem?_eq_getElem (by rw [hxl]; decide)] at f1
  obtain ⟨vk1, vn1, vs1, hv1, vok1⟩ := val_open (show DataW.trod enc Try.prog W 0 sp hd n 31 [c3, c4, c5] = some _ from f1)
  simp only [List.cons.injEq, and_true] at hv1
  obtain ⟨rfl, rfl, rfl⟩ := hv1
  exact ⟨⟨⟨vk0, vn0, vs0⟩, ⟨vk1, vn1, vs1⟩⟩, ⟨⟨vok0⟩, ⟨vok1⟩⟩, rfl⟩
theorem cellsD_PairS : Try.prog.cellsOf 151 = 1 := by kernel_rfl
theorem PairS_open {fuel : Nat} {c : Value} {y : DataW H × List MemPlace} (h : DataW.trod enc Try.prog W 0 sp hd fuel 151 [c] = some y) :
    ∃ a ca, ∃ xs : List PairD, c = .slice a xs.length ca ∧ xs.length ≤ maxLen ∧ RowAt 6 PairC W 0 W.heap.size xs a := by
  rcases open_slice Try.underlying151 h with ⟨hc, _⟩ | ⟨a, len, cap, m, n, D, Pl, hc, _, hl, hm, hmm, _, hel⟩
  · simp at hc
    subst hc
    exact ⟨none, 0, [], rfl, Nat.zero_le _, fun i hi => absurd hi (Nat.not_lt_zero _)⟩
  · simp at hc
    subst hc
    have hlm : len ≤ m := by rw [hmm]; split <;> omega
    have hel' : ∀ i, i < len → ∃ cs', W.cells? 0 (a.add (i * 6)) 6 = some cs' ∧ DataW.trod enc Try.prog W 0 sp hd n 190 cs' = some (D i, Pl i) := fun i hi => by
      have := hel i (by omega)
      rw [cellsD_Pair] at this
      exact this
    clear hel
    obtain ⟨xs, hlen, hxs⟩ := list_ofD len (fun i (x : PairD) => ∃ g o cs, some a = some ⟨g, o, none⟩ ∧ 0 ≤ g ∧ g < W.heap.size ∧ PairC W 0 W.heap.size x cs ∧ cs.length = 6 ∧ ∀ j, j < 6 → W.cell? ⟨g, o + 6 * i + j, none⟩ = cs[j]?) (fun i hi => by
      obtain ⟨g, o, ha, hg, hcell⟩ := placeD (by decide) (fun i hi => (hel' i hi).imp fun _ h => h.1) i hi
      obtain ⟨cs', h1, h2⟩ := hel' i hi
      obtain ⟨x, hx⟩ := Pair_open h2
      exact ⟨x, g, o, cs', by rw [ha], Nat.zero_le _, hg, hx, hcell _ h1⟩)
    subst hlen
    exact ⟨some a, cap, xs, rfl, by omega, hxs⟩
theorem cellsD_PairSS : Try.prog.cellsOf 23 = 1 := by kernel_rfl
theorem PairSS_open {fuel : Nat} {c : Value} {y : DataW H × List MemPlace} (h : DataW.trod enc Try.prog W 0 sp hd fuel 23 [c] = some y) :
    ∃ a ca, ∃ xs : List (List PairD), c = .slice a xs.length ca ∧ xs.length ≤ maxLen ∧ RowAt 1 PairSC W 0 W.heap.size xs a := by
  rcases open_slice Try.underlying23 h with ⟨hc, _⟩ | ⟨a, len, cap, m, n, D, Pl, hc, _, hl, hm, hmm, _, hel⟩
  · simp at hc
    subst hc
    exact ⟨none, 0, [], rfl, Nat.zero_le _, fun i hi => absurd hi (Nat.not_lt_zero _)⟩
  · simp at hc
    subst hc
    have hlm : len ≤ m := by rw [hmm]; split <;> omega
    have hel' : ∀ i, i < len → ∃ cs', W.cells? 0 (a.add (i * 1)) 1 = some cs' ∧ DataW.trod enc Try.prog W 0 sp hd n 151 cs' = some (D i, Pl i) := fun i hi => by
      have := hel i (by omega)
      rw [cellsD_PairS] at this
      exact this
    clear hel
    obtain ⟨xs, hlen, hxs⟩ := list_ofD len (fun i (x : (List PairD)) => ∃ g o cs, some a = some ⟨g, o, none⟩ ∧ 0 ≤ g ∧ g < W.heap.size ∧ PairSC W 0 W.heap.size x cs ∧ cs.length = 1 ∧ ∀ j, j < 1 → W.cell? ⟨g, o + 1 * i + j, none⟩ = cs[j]?) (fun i hi => by
      obtain ⟨g, o, ha, hg, hcell⟩ := placeD (by decide) (fun i hi => (hel' i hi).imp fun _ h => h.1) i hi
      obtain ⟨cs', h1, h2⟩ := hel' i hi
      have hx := hcell _ h1
      obtain ⟨c0, rfl⟩ : ∃ c0, cs' = [c0] := by
        match cs', hx.1 with
        | [c0], _ => exact ⟨c0, rfl⟩
      obtain ⟨b, cb, x, rfl, hl, hR⟩ := PairS_open h2
      exact ⟨x, g, o, _, by rw [ha], Nat.zero_le _, hg, ⟨hl, b, cb, rfl, hR⟩, hx⟩)
    subst hlen
    exact ⟨some a, cap, xs, rfl, by omega, hxs⟩
theorem cellsD_Heap : Try.prog.cellsOf 26 = 2 := by kernel_rfl
set_option maxRecDepth 100000 in
theorem Heap_open {fuel : Nat} {cs : List Value} {y : DataW H × List MemPlace} (h : DataW.trod enc Try.prog W 0 sp hd fuel 26 cs = some y) : ∃ x : HeapD, HeapC W 0 W.heap.size x cs := by
  obtain ⟨xs, n, hn, _, hlen, hxl, hf⟩ := DataW.trod_struct Try.underlying26 h
  rw [cellsD_Heap] at hlen
  obtain ⟨c0, c1, rfl⟩ : ∃ c0 c1, cs = [c0, c1] := by
    match cs, hlen with
    | [c0, c1], _ => exact ⟨c0, c1, rfl⟩
  obtain ⟨y0, f0⟩ := vfieldD 0 0 c0 23 _ rfl rfl rfl cellsD_PairSS (hf 0 _ rfl) (by rw [hxl]; decide)
  obtain ⟨a0, ca0, r0, rfl, l0, R0⟩ := PairSS_open f0
  obtain ⟨y1, f1⟩ := vfieldD 1 1 c1 24 _ rfl rfl rfl cellsD_ValueS (hf 1 _ rfl) (by rw [hxl]; decide)
  obtain ⟨a1, ca1, r1, rfl, l1, R1⟩ := ValueS_open f1
  exact ⟨⟨r0, r1⟩, ⟨l0, l1⟩, a0, ca0, a1, ca1, rfl, l0, R0, l1, R1⟩
theorem cellsD_Vm : Try.prog.cellsOf 33 = 10 := by kernel_rfl
set_option maxRecDepth 100000 in
theorem Vm_open {fuel : Nat} {cs : List Value} {y : DataW H × List MemPlace} (h : DataW.trod enc Try.prog W 0 sp hd fuel 33 cs = some y) : ∃ x : VmD, VmC W 0 W.heap.size x cs := by
  obtain ⟨xs, n, hn, _, hlen, hxl, hf⟩ := DataW.trod_struct Try.underlying33 h
  rw [cellsD_Vm] at hlen
  obtain ⟨c0, c1, c2, c3, c4, c5, c6, c7, c8, c9, rfl⟩ : ∃ c0 c1 c2 c3 c4 c5 c6 c7 c8 c9, cs = [c0, c1, c2, c3, c4, c5, c6, c7, c8, c9] := by
    match cs, hlen with
    | [c0, c1, c2, c3, c4, c5, c6, c7, c8, c9], _ => exact ⟨c0, c1, c2, c3, c4, c5, c6, c7, c8, c9, rfl⟩
  have f0 := hf 0 _ rfl
  rw [List.getElem?_eq_getElem (by rw [hxl]; decide)] at f0
  obtain ⟨z0, hz0⟩ := Heap_open (show DataW.trod enc Try.prog W 0 sp hd n 26 [c0, c1] = some _ from f0)
  obtain ⟨ok0, m0_a_tables, m0_c_tables, m0_a_cells, m0_c_cells, he0, m0_l_tables, m0_r_tables, m0_l_cells, m0_r_cells⟩ := hz0
  simp only [List.cons.injEq, and_true] at he0
  obtain ⟨rfl, rfl⟩ := he0
  obtain ⟨y1, f1⟩ := vfieldD 1 2 c2 27 _ rfl rfl rfl cellsD_ClosureS (hf 1 _ rfl) (by rw [hxl]; decide)
  obtain ⟨a1, ca1, r1, rfl, l1, R1⟩ := ClosureS_open f1
  obtain ⟨y2, f2⟩ := vfieldD 2 3 c3 28 _ rfl rfl rfl cellsD_FrameS (hf 2 _ rfl) (by rw [hxl]; decide)
  obtain ⟨a2, ca2, r2, rfl, l2, R2⟩ := FrameS_open f2
  obtain ⟨y3, f3⟩ := vfieldD 3 4 c4 29 _ rfl rfl rfl cellsD_StringS (hf 3 _ rfl) (by rw [hxl]; decide)
  obtain ⟨a3, ca3, r3, rfl, l3, R3⟩ := StringS_open f3
  obtain ⟨y4, f4⟩ := vfieldD 4 5 c5 3 _ rfl rfl rfl cellsD_int (hf 4 _ rfl) (by rw [hxl]; decide)
  obtain ⟨z4, e4, _, hz4⟩ := DataW.trod_int Try.underlying3 f4
  simp only [List.cons.injEq, and_true] at e4
  subst e4
  have bz4 := bounds_i64 hz4
  obtain ⟨y5, f5⟩ := vfieldD 5 6 c6 3 _ rfl rfl rfl cellsD_int (hf 5 _ rfl) (by rw [hxl]; decide)
  obtain ⟨z5, e5, _, hz5⟩ := DataW.trod_int Try.underlying3 f5
  simp only [List.cons.injEq, and_true] at e5
  subst e5
  have bz5 := bounds_i64 hz5
  have f6 := hf 6 _ rfl
  rw [List.getElem?_eq_getElem (by rw [hxl]; decide)] at f6
  obtain ⟨vk6, vn6, vs6, hv6, vok6⟩ := val_open (show DataW.trod enc Try.prog W 0 sp hd n 31 [c7, c8, c9] = some _ from f6)
  simp only [List.cons.injEq, and_true] at hv6
  obtain ⟨rfl, rfl, rfl⟩ := hv6
  exact ⟨⟨z0, r1, r2, r3, z4, z5, ⟨vk6, vn6, vs6⟩⟩, ⟨ok0, l1, l2, l3, ⟨bz4.1, bz4.2⟩, ⟨bz5.1, bz5.2⟩, ⟨vok6⟩⟩, m0_a_tables, m0_c_tables, m0_a_cells, m0_c_cells, a1, ca1, a2, ca2, a3, ca3, rfl, m0_l_tables, m0_r_tables, m0_l_cells, m0_r_cells, l1, R1, l2, R2, l3, R3⟩
end
end Go.Proofs.Ytnbkgpmibgdlmaa
