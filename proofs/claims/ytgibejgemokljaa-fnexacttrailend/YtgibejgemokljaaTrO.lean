/- Trails that were handed in. -/
import Derived.Test.YtgibejgemokljaaVmO
import Derived.Test.YtgibejgemokljaaTrP
namespace Go.Proofs.Ytgibejgemokljaa
open Go.RowKit Go.WideShapes Go.Deep

section
variable {H : Type} {enc : TypeId × Value → H} {W : World} {sp : Nat → Bool} {hd : Bool}
theorem cellsD_VmS : Try.prog.cellsOf 60 = 1 := by kernel_rfl
theorem VmS_open {fuel : Nat} {c : Value} {y : DataW H × List MemPlace} (h : DataW.trod enc Try.prog W 0 sp hd fuel 60 [c] = some y) :
    ∃ a ca, ∃ xs : List VmD, c = .slice a xs.length ca ∧ xs.length ≤ maxLen ∧ RowAt 10 VmC W 0 W.heap.size xs a := by
  rcases open_slice Try.underlying60 h with ⟨hc, _⟩ | ⟨a, len, cap, m, n, D, Pl, hc, _, hl, hm, hmm, _, hel⟩
  · simp at hc
    subst hc
    exact ⟨none, 0, [], rfl, Nat.zero_le _, fun i hi => absurd hi (Nat.not_lt_zero _)⟩
  · simp at hc
    subst hc
    have hlm : len ≤ m := by rw [hmm]; split <;> omega
    have hel' : ∀ i, i < len → ∃ cs', W.cells? 0 (a.add (i * 10)) 10 = some cs' ∧ DataW.trod enc Try.prog W 0 sp hd n 32 cs' = some (D i, Pl i) := fun i hi => by
      have := hel i (by omega)
      rw [cellsD_Vm] at this
      exact this
    clear hel
    obtain ⟨xs, hlen, hxs⟩ := list_ofD len (fun i (x : VmD) => ∃ g o cs, some a = some ⟨g, o, none⟩ ∧ 0 ≤ g ∧ g < W.heap.size ∧ VmC W 0 W.heap.size x cs ∧ cs.length = 10 ∧ ∀ j, j < 10 → W.cell? ⟨g, o + 10 * i + j, none⟩ = cs[j]?) (fun i hi => by
      obtain ⟨g, o, ha, hg, hcell⟩ := placeD (by decide) (fun i hi => (hel' i hi).imp fun _ h => h.1) i hi
      obtain ⟨cs', h1, h2⟩ := hel' i hi
      obtain ⟨x, hx⟩ := Vm_open h2
      exact ⟨x, g, o, cs', by rw [ha], Nat.zero_le _, hg, hx, hcell _ h1⟩)
    subst hlen
    exact ⟨some a, cap, xs, rfl, by omega, hxs⟩
theorem cellsD_Trail : Try.prog.cellsOf 62 = 13 := by kernel_rfl
set_option maxRecDepth 100000 in
theorem Trail_open {fuel : Nat} {cs : List Value} {y : DataW H × List MemPlace} (h : DataW.trod enc Try.prog W 0 sp hd fuel 62 cs = some y) : ∃ x : TrailD, TrailC W 0 W.heap.size x cs := by
  obtain ⟨xs, n, hn, _, hlen, hxl, hf⟩ := DataW.trod_struct Try.underlying62 h
  rw [cellsD_Trail] at hlen
  obtain ⟨c0, c1, c2, c3, c4, c5, c6, c7, c8, c9, c10, c11, c12, rfl⟩ : ∃ c0 c1 c2 c3 c4 c5 c6 c7 c8 c9 c10 c11 c12, cs = [c0, c1, c2, c3, c4, c5, c6, c7, c8, c9, c10, c11, c12] := by
    match cs, hlen with
    | [c0, c1, c2, c3, c4, c5, c6, c7, c8, c9, c10, c11, c12], _ => exact ⟨c0, c1, c2, c3, c4, c5, c6, c7, c8, c9, c10, c11, c12, rfl⟩
  obtain ⟨y0, f0⟩ := vfieldD 0 0 c0 46 _ rfl rfl rfl cellsD_ProtoS (hf 0 _ rfl) (by rw [hxl]; decide)
  obtain ⟨a0, ca0, r0, rfl, l0, R0⟩ := ProtoS_open f0
  obtain ⟨y1, f1⟩ := vfieldD 1 1 c1 3 _ rfl rfl rfl cellsD_int (hf 1 _ rfl) (by rw [hxl]; decide)
  obtain ⟨z1, e1, _, hz1⟩ := DataW.trod_int Try.underlying3 f1
  simp only [List.cons.injEq, and_true] at e1
  subst e1
  have bz1 := bounds_i64 hz1
  obtain ⟨y2, f2⟩ := vfieldD 2 2 c2 60 _ rfl rfl rfl cellsD_VmS (hf 2 _ rfl) (by rw [hxl]; decide)
  obtain ⟨a2, ca2, r2, rfl, l2, R2⟩ := VmS_open f2
  have f3 := hf 3 _ rfl
  rw [List.getElem?_eq_getElem (by rw [hxl]; decide)] at f3
  obtain ⟨z3, hz3⟩ := Vm_open (show DataW.trod enc Try.prog W 0 sp hd n 32 [c3, c4, c5, c6, c7, c8, c9, c10, c11, c12] = some _ from f3)
  obtain ⟨ok3, m3_a_heap_tables, m3_c_heap_tables, m3_a_heap_cells, m3_c_heap_cells, m3_a_funs, m3_c_funs, m3_a_frames, m3_c_frames, m3_a_out, m3_c_out, he3, m3_l_heap_tables, m3_r_heap_tables, m3_l_heap_cells, m3_r_heap_cells, m3_l_funs, m3_r_funs, m3_l_frames, m3_r_frames, m3_l_out, m3_r_out⟩ := hz3
  simp only [List.cons.injEq, and_true] at he3
  obtain ⟨rfl, rfl, rfl, rfl, rfl, rfl, rfl, rfl, rfl, rfl⟩ := he3
  exact ⟨⟨r0, z1, r2, z3⟩, ⟨l0, ⟨bz1.1, bz1.2⟩, l2, ok3⟩, a0, ca0, a2, ca2, m3_a_heap_tables, m3_c_heap_tables, m3_a_heap_cells, m3_c_heap_cells, m3_a_funs, m3_c_funs, m3_a_frames, m3_c_frames, m3_a_out, m3_c_out, rfl, l0, R0, l2, R2, m3_l_heap_tables, m3_r_heap_tables, m3_l_heap_cells, m3_r_heap_cells, m3_l_funs, m3_r_funs, m3_l_frames, m3_r_frames, m3_l_out, m3_r_out⟩
end
end Go.Proofs.Ytgibejgemokljaa
