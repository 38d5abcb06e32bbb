/- Code that was handed in. -/
import Derived.Test.YtnbkgpmibgdlmaaDatQ
import Derived.OpenShut
import Derived.Deep.Slices
namespace Go.Proofs.Ytnbkgpmibgdlmaa
open Go.RowKit Go.WideShapes Go.Deep

theorem vfieldD {P : Program} {H : Type} {enc : TypeId × Value → H} {W : World} {sp : Nat → Bool} {hd : Bool} {n : Nat} {cs : List Value} {xs : List (DataW H × List MemPlace)} (j o : Nat) (c : Value) (T : TypeId) (f : Field)
    (hj : cs[o]? = some c) (ht : f.type = T) (ho : f.offset = o) (hc : P.cellsOf T = 1)
    (hx : DataW.trod enc P W 0 sp hd n f.type (List.take (P.cellsOf f.type) (List.drop f.offset cs)) = xs[j]?) (hlt : j < xs.length) : ∃ x, DataW.trod enc P W 0 sp hd n T [c] = some x := by
  subst ht
  rw [hc, ho] at hx
  refine ⟨xs[j], ?_⟩
  rw [← List.getElem?_eq_getElem hlt, ← hx]
  congr 1
  have := List.getElem?_drop (xs := cs) (i := o) (j := 0)
  rw [Nat.add_zero, hj] at this
  cases hd' : List.drop o cs with
  | nil => rw [hd'] at this; simp at this
  | cons y l => rw [hd'] at this; simp at this; subst this; rfl
theorem list_ofD {α : Type} (len : Nat) (P : Nat → α → Prop) (h : ∀ i, i < len → ∃ s, P i s) : ∃ l : List α, l.length = len ∧ ∀ i (hi : i < l.length), P i l[i] := by
  induction len with
  | zero => exact ⟨[], rfl, fun i hi => absurd hi (by simp)⟩
  | succ n ih =>
    obtain ⟨l, hl, hp⟩ := ih fun i hi => h i (by omega)
    obtain ⟨s, hs⟩ := h n (by omega)
    refine ⟨l ++ [s], by simp [hl], fun i hi => ?_⟩
    by_cases hn : i < l.length
    · rw [List.getElem_append_left hn]; exact hp i hn
    · have : i = l.length := by simp at hi; omega
      subst this
      simp
      rw [hl]; exact hs
theorem placeD {W : World} {a : Addr} {k len : Nat} (hk : 0 < k) (hel : ∀ i, i < len → ∃ cs', W.cells? 0 (a.add (i * k)) k = some cs') (i : Nat) (hi : i < len) :
    ∃ g o, a = ⟨g, o, none⟩ ∧ g < W.heap.size ∧ ∀ cs', W.cells? 0 (a.add (i * k)) k = some cs' → cs'.length = k ∧ ∀ j, j < k → W.cell? ⟨g, o + k * i + j, none⟩ = cs'[j]? := by
  obtain ⟨g, o, spot⟩ := a
  obtain ⟨cs0, h0⟩ := hel 0 (by omega)
  obtain ⟨_, hl0, h00⟩ := World.cells?_some h0
  have h1 := h00 0 hk
  rw [Nat.zero_mul] at h1
  obtain ⟨c0, hc0⟩ : ∃ c0, cs0[0]? = some c0 := by
    cases cs0 with
    | nil => simp at hl0; omega
    | cons c0 _ => exact ⟨c0, rfl⟩
  rw [hc0] at h1
  have hspot : spot = none := by simpa [Addr.add] using World.cell?_spot h1
  subst hspot
  refine ⟨g, o, rfl, World.block_lt_of_cell? W _ (by rw [add_plain, add_plain] at h1; exact h1), fun cs' h => ?_⟩
  obtain ⟨_, hl, h2⟩ := World.cells?_some h
  refine ⟨hl, fun j hj => ?_⟩
  have h3 := h2 j hj
  rw [add_plain, add_plain, Nat.mul_comm i k] at h3
  exact h3
theorem cellsD_int : Try.prog.cellsOf 3 = 1 := by kernel_rfl
theorem cellsD_str : Try.prog.cellsOf 9 = 1 := by kernel_rfl
theorem cellsD_bool : Try.prog.cellsOf 4 = 1 := by kernel_rfl
section
variable {H : Type} {enc : TypeId × Value → H} {W : World} {sp : Nat → Bool} {hd : Bool}
theorem cellsD_Up : Try.prog.cellsOf 178 = 2 := by kernel_rfl
set_option maxRecDepth 100000 in
theorem Up_open {fuel : Nat} {cs : List Value} {y : DataW H × List MemPlace} (h : DataW.trod enc Try.prog W 0 sp hd fuel 178 cs = some y) : ∃ x : UpD, UpC W 0 W.heap.size x cs := by
  obtain ⟨xs, n, hn, _, hlen, hxl, hf⟩ := DataW.trod_struct Try.underlying178 h
  rw [cellsD_Up] at hlen
  obtain ⟨c0, c1, rfl⟩ : ∃ c0 c1, cs = [c0, c1] := by
    match cs, hlen with
    | [c0, c1], _ => exact ⟨c0, c1, rfl⟩
  obtain ⟨y0, f0⟩ := vfieldD 0 0 c0 4 _ rfl rfl rfl cellsD_bool (hf 0 _ rfl) (by rw [hxl]; decide)
  obtain ⟨z0, e0, _⟩ := DataW.trod_bool Try.underlying4 f0
  simp only [List.cons.injEq, and_true] at e0
  subst e0
  obtain ⟨y1, f1⟩ := vfieldD 1 1 c1 3 _ rfl rfl rfl cellsD_int (hf 1 _ rfl) (by rw [hxl]; decide)
  obtain ⟨z1, e1, _, hz1⟩ := DataW.trod_int Try.underlying3 f1
  simp only [List.cons.injEq, and_true] at e1
  subst e1
  have bz1 := bounds_i64 hz1
  exact ⟨⟨z0, z1⟩, ⟨trivial, ⟨bz1.1, bz1.2⟩⟩, rfl⟩
theorem cellsD_UpS : Try.prog.cellsOf 64 = 1 := by kernel_rfl
theorem UpS_open {fuel : Nat} {c : Value} {y : DataW H × List MemPlace} (h : DataW.trod enc Try.prog W 0 sp hd fuel 64 [c] = some y) :
    ∃ a ca, ∃ xs : List UpD, c = .slice a xs.length ca ∧ xs.length ≤ maxLen ∧ RowAt 2 UpC W 0 W.heap.size xs a := by
  rcases open_slice Try.underlying64 h with ⟨hc, _⟩ | ⟨a, len, cap, m, n, D, Pl, hc, _, hl, hm, hmm, _, hel⟩
  · simp at hc
    subst hc
    exact ⟨none, 0, [], rfl, Nat.zero_le _, fun i hi => absurd hi (Nat.not_lt_zero _)⟩
  · simp at hc
    subst hc
    have hlm : len ≤ m := by rw [hmm]; split <;> omega
    have hel' : ∀ i, i < len → ∃ cs', W.cells? 0 (a.add (i * 2)) 2 = some cs' ∧ DataW.trod enc Try.prog W 0 sp hd n 178 cs' = some (D i, Pl i) := fun i hi => by
      have := hel i (by omega)
      rw [cellsD_Up] at this
      exact this
    clear hel
    obtain ⟨xs, hlen, hxs⟩ := list_ofD len (fun i (x : UpD) => ∃ g o cs, some a = some ⟨g, o, none⟩ ∧ 0 ≤ g ∧ g < W.heap.size ∧ UpC W 0 W.heap.size x cs ∧ cs.length = 2 ∧ ∀ j, j < 2 → W.cell? ⟨g, o + 2 * i + j, none⟩ = cs[j]?) (fun i hi => by
      obtain ⟨g, o, ha, hg, hcell⟩ := placeD (by decide) (fun i hi => (hel' i hi).imp fun _ h => h.1) i hi
      obtain ⟨cs', h1, h2⟩ := hel' i hi
      obtain ⟨x, hx⟩ := Up_open h2
      exact ⟨x, g, o, cs', by rw [ha], Nat.zero_le _, hg, hx, hcell _ h1⟩)
    subst hlen
    exact ⟨some a, cap, xs, rfl, by omega, hxs⟩
theorem cellsD_Instr : Try.prog.cellsOf 171 = 7 := by kernel_rfl
set_option maxRecDepth 100000 in
theorem Instr_open {fuel : Nat} {cs : List Value} {y : DataW H × List MemPlace} (h : DataW.trod enc Try.prog W 0 sp hd fuel 171 cs = some y) : ∃ x : InstrD, InstrC W 0 W.heap.size x cs := by
  obtain ⟨xs, n, hn, _, hlen, hxl, hf⟩ := DataW.trod_struct Try.underlying171 h
  rw [cellsD_Instr] at hlen
  obtain ⟨c0, c1, c2, c3, c4, c5, c6, rfl⟩ : ∃ c0 c1 c2 c3 c4 c5 c6, cs = [c0, c1, c2, c3, c4, c5, c6] := by
    match cs, hlen with
    | [c0, c1, c2, c3, c4, c5, c6], _ => exact ⟨c0, c1, c2, c3, c4, c5, c6, rfl⟩
  obtain ⟨y0, f0⟩ := vfieldD 0 0 c0 3 _ rfl rfl rfl cellsD_int (hf 0 _ rfl) (by rw [hxl]; decide)
  obtain ⟨z0, e0, _, hz0⟩ := DataW.trod_int Try.underlying3 f0
  simp only [List.cons.injEq, and_true] at e0
  subst e0
  have bz0 := bounds_i64 hz0
  obtain ⟨y1, f1⟩ := vfieldD 1 1 c1 3 _ rfl rfl rfl cellsD_int (hf 1 _ rfl) (by rw [hxl]; decide)
  obtain ⟨z1, e1, _, hz1⟩ := DataW.trod_int Try.underlying3 f1
  simp only [List.cons.injEq, and_true] at e1
  subst e1
  have bz1 := bounds_i64 hz1
  have f2 := hf 2 _ rfl
  rw [List.getElem?_eq_getElem (by rw [hxl]; decide)] at f2
  obtain ⟨vk2, vn2, vs2, hv2, vok2⟩ := val_open (show DataW.trod enc Try.prog W 0 sp hd n 31 [c2, c3, c4] = some _ from f2)
  simp only [List.cons.injEq, and_true] at hv2
  obtain ⟨rfl, rfl, rfl⟩ := hv2
  obtain ⟨y3, f3⟩ := vfieldD 3 5 c5 9 _ rfl rfl rfl cellsD_str (hf 3 _ rfl) (by rw [hxl]; decide)
  obtain ⟨z3, e3, _, hz3⟩ := DataW.trod_string Try.underlying9 f3
  simp only [List.cons.injEq, and_true] at e3
  subst e3
  obtain ⟨y4, f4⟩ := vfieldD 4 6 c6 3 _ rfl rfl rfl cellsD_int (hf 4 _ rfl) (by rw [hxl]; decide)
  obtain ⟨z4, e4, _, hz4⟩ := DataW.trod_int Try.underlying3 f4
  simp only [List.cons.injEq, and_true] at e4
  subst e4
  have bz4 := bounds_i64 hz4
  exact ⟨⟨z0, z1, ⟨vk2, vn2, vs2⟩, z3, z4⟩, ⟨⟨bz0.1, bz0.2⟩, ⟨bz1.1, bz1.2⟩, ⟨vok2⟩, hz3, ⟨bz4.1, bz4.2⟩⟩, rfl⟩
theorem cellsD_InstrS : Try.prog.cellsOf 65 = 1 := by kernel_rfl
theorem InstrS_open {fuel : Nat} {c : Value} {y : DataW H × List MemPlace} (h : DataW.trod enc Try.prog W 0 sp hd fuel 65 [c] = some y) :
    ∃ a ca, ∃ xs : List InstrD, c = .slice a xs.length ca ∧ xs.length ≤ maxLen ∧ RowAt 7 InstrC W 0 W.heap.size xs a := by
  rcases open_slice Try.underlying65 h with ⟨hc, _⟩ | ⟨a, len, cap, m, n, D, Pl, hc, _, hl, hm, hmm, _, hel⟩
  · simp at hc
    subst hc
    exact ⟨none, 0, [], rfl, Nat.zero_le _, fun i hi => absurd hi (Nat.not_lt_zero _)⟩
  · simp at hc
    subst hc
    have hlm : len ≤ m := by rw [hmm]; split <;> omega
    have hel' : ∀ i, i < len → ∃ cs', W.cells? 0 (a.add (i * 7)) 7 = some cs' ∧ DataW.trod enc Try.prog W 0 sp hd n 171 cs' = some (D i, Pl i) := fun i hi => by
      have := hel i (by omega)
      rw [cellsD_Instr] at this
      exact this
    clear hel
    obtain ⟨xs, hlen, hxs⟩ := list_ofD len (fun i (x : InstrD) => ∃ g o cs, some a = some ⟨g, o, none⟩ ∧ 0 ≤ g ∧ g < W.heap.size ∧ InstrC W 0 W.heap.size x cs ∧ cs.length = 7 ∧ ∀ j, j < 7 → W.cell? ⟨g, o + 7 * i + j, none⟩ = cs[j]?) (fun i hi => by
      obtain ⟨g, o, ha, hg, hcell⟩ := placeD (by decide) (fun i hi => (hel' i hi).imp fun _ h => h.1) i hi
      obtain ⟨cs', h1, h2⟩ := hel' i hi
      obtain ⟨x, hx⟩ := Instr_open h2
      exact ⟨x, g, o, cs', by rw [ha], Nat.zero_le _, hg, hx, hcell _ h1⟩)
    subst hlen
    exact ⟨some a, cap, xs, rfl, by omega, hxs⟩
theorem cellsD_Name : Try.prog.cellsOf 173 = 4 := by kernel_rfl
set_option maxRecDepth 100000 in
theorem Name_open {fuel : Nat} {cs : List Value} {y : DataW H × List MemPlace} (h : DataW.trod enc Try.prog W 0 sp hd fuel 173 cs = some y) : ∃ x : NameD, NameC W 0 W.heap.size x cs := by
  obtain ⟨xs, n, hn, _, hlen, hxl, hf⟩ := DataW.trod_struct Try.underlying173 h
  rw [cellsD_Name] at hlen
  obtain ⟨c0, c1, c2, c3, rfl⟩ : ∃ c0 c1 c2 c3, cs = [c0, c1, c2, c3] := by
    match cs, hlen with
    | [c0, c1, c2, c3], _ => exact ⟨c0, c1, c2, c3, rfl⟩
  obtain ⟨y0, f0⟩ := vfieldD 0 0 c0 9 _ rfl rfl rfl cellsD_str (hf 0 _ rfl) (by rw [hxl]; decide)
  obtain ⟨z0, e0, _, hz0⟩ := DataW.trod_string Try.underlying9 f0
  simp only [List.cons.injEq, and_true] at e0
  subst e0
  obtain ⟨y1, f1⟩ := vfieldD 1 1 c1 3 _ rfl rfl rfl cellsD_int (hf 1 _ rfl) (by rw [hxl]; decide)
  obtain ⟨z1, e1, _, hz1⟩ := DataW.trod_int Try.underlying3 f1
  simp only [List.cons.injEq, and_true] at e1
  subst e1
  have bz1 := bounds_i64 hz1
  obtain ⟨y2, f2⟩ := vfieldD 2 2 c2 3 _ rfl rfl rfl cellsD_int (hf 2 _ rfl) (by rw [hxl]; decide)
  obtain ⟨z2, e2, _, hz2⟩ := DataW.trod_int Try.underlying3 f2
  simp only [List.cons.injEq, and_true] at e2
  subst e2
  have bz2 := bounds_i64 hz2
  obtain ⟨y3, f3⟩ := vfieldD 3 3 c3 3 _ rfl rfl rfl cellsD_int (hf 3 _ rfl) (by rw [hxl]; decide)
  obtain ⟨z3, e3, _, hz3⟩ := DataW.trod_int Try.underlying3 f3
  simp only [List.cons.injEq, and_true] at e3
  subst e3
  have bz3 := bounds_i64 hz3
  exact ⟨⟨z0, z1, z2, z3⟩, ⟨hz0, ⟨bz1.1, bz1.2⟩, ⟨bz2.1, bz2.2⟩, ⟨bz3.1, bz3.2⟩⟩, rfl⟩
theorem cellsD_NameS : Try.prog.cellsOf 66 = 1 := by kernel_rfl
theorem NameS_open {fuel : Nat} {c : Value} {y : DataW H × List MemPlace} (h : DataW.trod enc Try.prog W 0 sp hd fuel 66 [c] = some y) :
    ∃ a ca, ∃ xs : List NameD, c = .slice a xs.length ca ∧ xs.length ≤ maxLen ∧ RowAt 4 NameC W 0 W.heap.size xs a := by
  rcases open_slice Try.underlying66 h with ⟨hc, _⟩ | ⟨a, len, cap, m, n, D, Pl, hc, _, hl, hm, hmm, _, hel⟩
  · simp at hc
    subst hc
    exact ⟨none, 0, [], rfl, Nat.zero_le _, fun i hi => absurd hi (Nat.not_lt_zero _)⟩
  · simp at hc
    subst hc
    have hlm : len ≤ m := by rw [hmm]; split <;> omega
    have hel' : ∀ i, i < len → ∃ cs', W.cells? 0 (a.add (i * 4)) 4 = some cs' ∧ DataW.trod enc Try.prog W 0 sp hd n 173 cs' = some (D i, Pl i) := fun i hi => by
      have := hel i (by omega)
      rw [cellsD_Name] at this
      exact this
    clear hel
    obtain ⟨xs, hlen, hxs⟩ := list_ofD len (fun i (x : NameD) => ∃ g o cs, some a = some ⟨g, o, none⟩ ∧ 0 ≤ g ∧ g < W.heap.size ∧ NameC W 0 W.heap.size x cs ∧ cs.length = 4 ∧ ∀ j, j < 4 → W.cell? ⟨g, o + 4 * i + j, none⟩ = cs[j]?) (fun i hi => by
      obtain ⟨g, o, ha, hg, hcell⟩ := placeD (by decide) (fun i hi => (hel' i hi).imp fun _ h => h.1) i hi
      obtain ⟨cs', h1, h2⟩ := hel' i hi
      obtain ⟨x, hx⟩ := Name_open h2
      exact ⟨x, g, o, cs', by rw [ha], Nat.zero_le _, hg, hx, hcell _ h1⟩)
    subst hlen
    exact ⟨some a, cap, xs, rfl, by omega, hxs⟩
theorem cellsD_Proto : Try.prog.cellsOf 68 = 5 := by kernel_rfl
set_option maxRecDepth 100000 in
theorem Proto_open {fuel : Nat} {cs : List Value} {y : DataW H × List MemPlace} (h : DataW.trod enc Try.prog W 0 sp hd fuel 68 cs = some y) : ∃ x : ProtoD, ProtoC W 0 W.heap.size x cs := by
  obtain ⟨xs, n, hn, _, hlen, hxl, hf⟩ := DataW.trod_struct Try.underlying68 h
  rw [cellsD_Proto] at hlen
  obtain ⟨c0, c1, c2, c3, c4, rfl⟩ : ∃ c0 c1 c2 c3 c4, cs = [c0, c1, c2, c3, c4] := by
    match cs, hlen with
    | [c0, c1, c2, c3, c4], _ => exact ⟨c0, c1, c2, c3, c4, rfl⟩
  obtain ⟨y0, f0⟩ := vfieldD 0 0 c0 3 _ rfl rfl rfl cellsD_int (hf 0 _ rfl) (by rw [hxl]; decide)
  obtain ⟨z0, e0, _, hz0⟩ := DataW.trod_int Try.underlying3 f0
  simp only [List.cons.injEq, and_true] at e0
  subst e0
  have bz0 := bounds_i64 hz0
  obtain ⟨y1, f1⟩ := vfieldD 1 1 c1 3 _ rfl rfl rfl cellsD_int (hf 1 _ rfl) (by rw [hxl]; decide)
  obtain ⟨z1, e1, _, hz1⟩ := DataW.trod_int Try.underlying3 f1
  simp only [List.cons.injEq, and_true] at e1
  subst e1
  have bz1 := bounds_i64 hz1
  obtain ⟨y2, f2⟩ := vfieldD 2 2 c2 64 _ rfl rfl rfl cellsD_UpS (hf 2 _ rfl) (by rw [hxl]; decide)
  obtain ⟨a2, ca2, r2, rfl, l2, R2⟩ := UpS_open f2
  obtain ⟨y3, f3⟩ := vfieldD 3 3 c3 65 _ rfl rfl rfl cellsD_InstrS (hf 3 _ rfl) (by rw [hxl]; decide)
  obtain ⟨a3, ca3, r3, rfl, l3, R3⟩ := InstrS_open f3
  obtain ⟨y4, f4⟩ := vfieldD 4 4 c4 66 _ rfl rfl rfl cellsD_NameS (hf 4 _ rfl) (by rw [hxl]; decide)
  obtain ⟨a4, ca4, r4, rfl, l4, R4⟩ := NameS_open f4
  exact ⟨⟨z0, z1, r2, r3, r4⟩, ⟨⟨bz0.1, bz0.2⟩, ⟨bz1.1, bz1.2⟩, l2, l3, l4⟩, a2, ca2, a3, ca3, a4, ca4, rfl, l2, R2, l3, R3, l4, R4⟩
theorem cellsD_ProtoS : Try.prog.cellsOf 22 = 1 := by kernel_rfl
theorem ProtoS_open {fuel : Nat} {c : Value} {y : DataW H × List MemPlace} (h : DataW.trod enc Try.prog W 0 sp hd fuel 22 [c] = some y) :
    ∃ a ca, ∃ xs : List ProtoD, c = .slice a xs.length ca ∧ xs.length ≤ maxLen ∧ RowAt 5 ProtoC W 0 W.heap.size xs a := by
  rcases open_slice Try.underlying22 h with ⟨hc, _⟩ | ⟨a, len, cap, m, n, D, Pl, hc, _, hl, hm, hmm, _, hel⟩
  · simp at hc
    subst hc
    exact ⟨none, 0, [], rfl, Nat.zero_le _, fun i hi => absurd hi (Nat.not_lt_zero _)⟩
  · simp at hc
    subst hc
    have hlm : len ≤ m := by rw [hmm]; split <;> omega
    have hel' : ∀ i, i < len → ∃ cs', W.cells? 0 (a.add (i * 5)) 5 = some cs' ∧ DataW.trod enc Try.prog W 0 sp hd n 68 cs' = some (D i, Pl i) := fun i hi => by
      have := hel i (by omega)
      rw [cellsD_Proto] at this
      exact this
    clear hel
    obtain ⟨xs, hlen, hxs⟩ := list_ofD len (fun i (x : ProtoD) => ∃ g o cs, some a = some ⟨g, o, none⟩ ∧ 0 ≤ g ∧ g < W.heap.size ∧ ProtoC W 0 W.heap.size x cs ∧ cs.length = 5 ∧ ∀ j, j < 5 → W.cell? ⟨g, o + 5 * i + j, none⟩ = cs[j]?) (fun i hi => by
      obtain ⟨g, o, ha, hg, hcell⟩ := placeD (by decide) (fun i hi => (hel' i hi).imp fun _ h => h.1) i hi
      obtain ⟨cs', h1, h2⟩ := hel' i hi
      obtain ⟨x, hx⟩ := Proto_open h2
      exact ⟨x, g, o, cs', by rw [ha], Nat.zero_le _, hg, hx, hcell _ h1⟩)
    subst hlen
    exact ⟨some a, cap, xs, rfl, by omega, hxs⟩
end
end Go.Proofs.Ytnbkgpmibgdlmaa
