/- The value of a name: the program, whole. -/
import Derived.Test.YtnbkgpmibgdlmaaVofH
import Derived.Test.YtnbkgpmibgdlmaaCloA
import Derived.Deep.RegionHeld3
namespace Go.Proofs.Ytnbkgpmibgdlmaa
open Go.RowKit

theorem varV_size {ps : List ProtoD} {x : VmD} {s : ByteArray} (h : ∀ v ∈ x.heap.cells, v.s.size ≤ 1048576) : (vz (varV ps x s)).s.size ≤ 1048576 := by
  have hz : (vz none).s.size ≤ 1048576 := by decide
  unfold varV
  split
  · exact hz
  · split
    · exact hz
    · unfold seeName
      split
      · exact hz
      · rename_i f _ n _ c _
        cases hc : x.heap.cells[c]? with
        | none => exact hz
        | some v => exact h v (List.mem_of_getElem? hc)
set_option maxRecDepth 100000 in
set_option maxHeartbeats 6400000 in
theorem varOf_impl (ps : List ProtoD) (pa : Option Addr) (pcap : Nat) (x : VmD) (cs : List Value) (s : ByteArray) (lo hi : Nat) (w : World) (hh : hi ≤ w.heap.size) (hn : ps.length ≤ maxLen) (hb : ∀ p ∈ ps, p.names.length ≤ 1048576) (hsz : ∀ v ∈ x.heap.cells, v.s.size ≤ 1048576) (hS : RowAt 5 ProtoC w lo hi ps pa) (hC : VmC w lo hi x cs) :
    Calls Try.prog 12 #[.slice pa ps.length pcap, .agg cs.toArray, .string s] w fun e w' => e = .returned (.tuple #[.agg #[.int .i64 (vz (varV ps x s)).k, .int .i64 (vz (varV ps x s)).n, .string (vz (varV ps x s)).s], .bool (varV ps x s).isSome]) ∧ Below w.heap.size w w' := by
  have ht := varV_size (ps := ps) (s := s) hsz
  have HV := fun W (h : Below w.heap.size w W) => variable_impl ps pa pcap x cs s lo hi W (Nat.le_trans hh h.size) hn hb (hS.below ProtoC_keeps h hh) (VmC_keeps.below hC h hh)
  obtain ⟨ok, a_heap_tables, c_heap_tables, a_heap_cells, c_heap_cells, a_funs, c_funs, a_frames, c_frames, a_out, c_out, rfl, l_heap_tables, r_heap_tables, l_heap_cells, r_heap_cells, l_funs, r_funs, l_frames, r_frames, l_out, r_out⟩ := hC
  clear r_heap_tables r_heap_cells r_funs r_frames r_out hS hb hsz
  generalize (vz (varV ps x s)).k = k at *
  generalize (vz (varV ps x s)).n = n at *
  generalize (vz (varV ps x s)).s = t at *
  generalize (varV ps x s).isSome = b at *
  obtain ⟨rA, rB, s2, B2⟩ := rows2v w (Obj.cells #[.slice a_heap_tables x.heap.tables.length c_heap_tables, .slice a_heap_cells x.heap.cells.length c_heap_cells, .slice a_funs x.funs.length c_funs, .slice a_frames x.frames.length c_frames, .slice a_out x.out.length c_out, .int .i64 x.steps, .int .i64 x.kind, .int .i64 x.value.k, .int .i64 x.value.n, .string x.value.s] 48) (Obj.cells #[.int .i64 0, .int .i64 0, .string ⟨#[]⟩] 36)
  go_enter Try.func12, Try.ntmps12
  go_wp2_with fail
  generalize (w.alloc (Obj.cells #[.slice a_heap_tables x.heap.tables.length c_heap_tables, .slice a_heap_cells x.heap.cells.length c_heap_cells, .slice a_funs x.funs.length c_funs, .slice a_frames x.frames.length c_frames, .slice a_out x.out.length c_out, .int .i64 x.steps, .int .i64 x.kind, .int .i64 x.value.k, .int .i64 x.value.n, .string x.value.s] 48)).alloc (Obj.cells #[.int .i64 0, .int .i64 0, .string ⟨#[]⟩] 36) = w2 at *
  refine (HV w2 B2).mono ?_
  rintro e w3 ⟨rfl, hb3⟩
  have hz3 := hb3.size
  have rB3 := (hb3.block (w.heap.size + 1) (by omega)).trans rB
  have B3 := B2.trans (hb3.mono B2.size)
  have s3 : w.heap.size + 1 < w3.heap.size := by omega
  have b4 := bel_alloc w3 (Obj.cells #[.int .i64 k, .int .i64 n, .string t, .bool b] 87)
  have r8 := heap_alloc_new w3 (Obj.cells #[.int .i64 k, .int .i64 n, .string t, .bool b] 87)
  have s4 := size_alloc w3 (Obj.cells #[.int .i64 k, .int .i64 n, .string t, .bool b] 87)
  clear HV rA rB s2 hb3 hz3 B2
  go_wp2_with fail
  generalize w3.alloc (Obj.cells #[.int .i64 k, .int .i64 n, .string t, .bool b] 87) = w4 at *
  have rB4 := (b4.block (w.heap.size + 1) s3).trans rB3
  have B4 := B3.trans (b4.mono B3.size)
  have s34 : w3.heap.size < w4.heap.size := by omega
  clear s4
  have K0 : Hid (∀ W, Below w4.heap.size w4 W → W.cell? ⟨w3.heap.size, 0, none⟩ = some (.int .i64 k) ∧ W.cell? ⟨w3.heap.size, 1, none⟩ = some (.int .i64 n) ∧ W.cell? ⟨w3.heap.size, 2, none⟩ = some (.string t) ∧ W.cell? ⟨w3.heap.size, 3, none⟩ = some (.bool b)) := fun W hb => by
    have r := (hb.block w3.heap.size s34).trans r8
    exact ⟨cell_of_row _ _ 0 _ _ _ r, cell_of_row _ _ 1 _ _ _ r, cell_of_row _ _ 2 _ _ _ r, cell_of_row _ _ 3 _ _ _ r⟩
  have b0 : Below w4.heap.size w4 w4.drew := (Below.refl _ _).drew
  obtain ⟨z0, z1, z2, z3⟩ := K0.out _ (Below.refl _ _)
  have n1 : ¬ w3.heap.size = w.heap.size + 1 := by omega
  have n2 : ¬ w.heap.size + 1 = w3.heap.size := by omega
  clear r8 rB3 b4
  go_region_held3 (fun w' => w'.cell? ⟨w3.heap.size, 0, none⟩ = some (.int .i64 k) ∧ w'.cell? ⟨w3.heap.size, 1, none⟩ = some (.int .i64 n) ∧ w'.cell? ⟨w3.heap.size, 2, none⟩ = some (.string t) ∧ w'.cell? ⟨w3.heap.size, 3, none⟩ = some (.bool b)) (first | (with_reducible exact K0.out _ b0) | (with_reducible exact K0.out _ B5) | go_keep) (first
    | (go_simp; go_at_call 37; with_reducible refine (copied_any k n t _ ht).mono ?_; rintro e w5 ⟨rfl, hb5⟩; have B5 : Below w4.heap.size w4 w5 := b0.trans (hb5.mono b0.size); have r6 := (B5.block (w.heap.size + 1) (by omega)).trans rB4; have d0 := cell_of_row _ _ 0 _ _ _ r6; have d1 := cell_of_row _ _ 1 _ _ _ r6; have d2 := cell_of_row _ _ 2 _ _ _ r6; have f0 := frozen_of_row _ _ 0 _ _ r6; have f1 := frozen_of_row _ _ 1 _ _ r6; have f2 := frozen_of_row _ _ 2 _ _ r6; simp only [List.getElem?_toArray, List.getElem?_cons_zero, List.getElem?_cons_succ] at d0 d1 d2; obtain ⟨g0, g1, g2, g3⟩ := K0.out _ B5))
  all_goals
    go_wp2_with fail
    exact bodyPost_ret (v := .tuple #[.agg #[.int .i64 k, .int .i64 n, .string t], .bool b]) (by simp [results, Try.results12, go_sem, d0, d1, d2]) rfl ⟨rfl, by repeat (first | (with_reducible exact B4.trans (B5.mono B4.size)) | (with_reducible refine Below.drew ?_) | (with_reducible refine Below.setCell ?_ (by first | omega | (simp <;> omega)) _))⟩
end Go.Proofs.Ytnbkgpmibgdlmaa
