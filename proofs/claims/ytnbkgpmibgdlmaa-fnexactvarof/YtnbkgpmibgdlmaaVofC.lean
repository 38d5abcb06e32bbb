/- The value of a name's cell: the program. -/
import Derived.Test.YtnbkgpmibgdlmaaVofB
namespace Go.Proofs.Ytnbkgpmibgdlmaa
open Go.RowKit

/-- A value that is there or the zero value. -/
def vz : Option Vl → Vl
  | none => ⟨0, 0, ⟨#[]⟩⟩
  | some v => v
theorem rows4 (w : World) (A B C D : Obj) : ((((w.alloc A).alloc B).alloc C).alloc D).heap[w.heap.size]? = some A ∧ ((((w.alloc A).alloc B).alloc C).alloc D).heap[w.heap.size + 1 + 1 + 1]? = some D ∧ Below w.heap.size w ((((w.alloc A).alloc B).alloc C).alloc D) ∧ ((((w.alloc A).alloc B).alloc C).alloc D).heap.size = w.heap.size + 4 := by
  obtain ⟨hA, _, _, hs, hb⟩ := rows3 w A B C
  have b4 := bel_alloc (((w.alloc A).alloc B).alloc C) D
  have r4 := heap_alloc_new (((w.alloc A).alloc B).alloc C) D
  refine ⟨(b4.block _ (by omega)).trans hA, ?_, hb.trans (b4.mono hb.size), by simp⟩
  rwa [hs, show w.heap.size + 3 = w.heap.size + 1 + 1 + 1 from rfl] at r4
set_option maxRecDepth 100000 in
set_option maxHeartbeats 3200000 in
theorem valueOf_impl (x : VmD) (cs : List Value) (f : FrameD) (fs : List Value) (n : NameD) (lo hi : Nat) (w : World) (hh : hi ≤ w.heap.size) (hC : VmC w lo hi x cs) (hF : FrameC w lo hi f fs) :
    Calls Try.prog 70 #[.agg cs.toArray, .agg fs.toArray, .agg #[.string n.text, .int .i64 n.slot, .int .i64 n.frm, .int .i64 n.upto]] w fun e w' => e = .returned (.tuple #[.agg #[.int .i64 (vz (seeName x f n)).k, .int .i64 (vz (seeName x f n)).n, .string (vz (seeName x f n)).s], .bool (seeName x f n).isSome]) ∧ Below w.heap.size w w' := by
  obtain ⟨ok, a_heap_tables, c_heap_tables, a_heap_cells, c_heap_cells, a_funs, c_funs, a_frames, c_frames, a_out, c_out, rfl, l_heap_tables, r_heap_tables, l_heap_cells, r_heap_cells, l_funs, r_funs, l_frames, r_frames, l_out, r_out⟩ := hC
  obtain ⟨okf, f_a_slots, f_c_slots, f_a_ups, f_c_ups, f_a_stack, f_c_stack, rfl, f_l_slots, f_r_slots, f_l_ups, f_r_ups, f_l_stack, f_r_stack⟩ := hF
  clear r_heap_tables r_funs r_frames r_out f_r_ups f_r_stack
  obtain ⟨rA, rD, B4, s4⟩ := rows4 w (Obj.cells #[.slice a_heap_tables x.heap.tables.length c_heap_tables, .slice a_heap_cells x.heap.cells.length c_heap_cells, .slice a_funs x.funs.length c_funs, .slice a_frames x.frames.length c_frames, .slice a_out x.out.length c_out, .int .i64 x.steps, .int .i64 x.kind, .int .i64 x.value.k, .int .i64 x.value.n, .string x.value.s] 48) (Obj.cells #[.int .i64 f.proto, .int .i64 f.pc, .slice f_a_slots f.slots.length f_c_slots, .slice f_a_ups f.ups.length f_c_ups, .slice f_a_stack f.stack.length f_c_stack, .bool f.guard] 76) (Obj.cells #[.string n.text, .int .i64 n.slot, .int .i64 n.frm, .int .i64 n.upto] 131) (Obj.cells #[.int .i64 0, .int .i64 0, .string ⟨#[]⟩] 36)
  have hS4 := f_r_slots.below IntC_keeps B4 hh
  have HC := fun W (h : w.heap.size ≤ W.heap.size) (hS : RowAt 1 IntC W lo hi f.slots f_a_slots) => cellIn_impl x.heap.tables.length x.heap.cells.length c_heap_tables c_heap_cells a_heap_tables a_heap_cells f_a_slots f.slots f_c_slots lo hi n.slot W (Nat.le_trans hh h) f_l_slots l_heap_cells hS
  have HV : seeName x f n = seeName x f n := rfl
  conv at HV => rhs; unfold seeName
  go_enter Try.func70, Try.ntmps70
  go_wp2_with fail
  refine (HC _ B4.size hS4).mono ?_
  rintro e w5 ⟨rfl, hb5⟩
  have B5 := B4.trans (hb5.mono B4.size)
  have s5 := hb5.size
  have rA5 := (hb5.block w.heap.size (by omega)).trans rA
  have rD5 := (hb5.block (w.heap.size + 1 + 1 + 1) (by omega)).trans rD
  have hcell : ∀ c (hc : c < x.heap.cells.length), ∃ g o, a_heap_cells = some ⟨g, o, none⟩ ∧ w5.cell? ⟨g, o + 3 * c, none⟩ = some (.int .i64 (x.heap.cells[c]).k) ∧ w5.cell? ⟨g, o + 3 * c + 1, none⟩ = some (.int .i64 (x.heap.cells[c]).n) ∧ w5.cell? ⟨g, o + 3 * c + 2, none⟩ = some (.string (x.heap.cells[c]).s) := by
    intro c hc
    obtain ⟨g, o, vs, e, _, hg, hv, _, hq⟩ := r_heap_cells c hc
    obtain ⟨_, rfl⟩ := hv
    have key := fun j (hj : j < 3) => (B5.cell (p := ⟨g, o + 3 * c + j, none⟩) (by show g < _; omega)).trans (hq j hj)
    exact ⟨g, o, e, key 0 (by decide), key 1 (by decide), key 2 (by decide)⟩
  have c1 := cell_of_row _ _ 1 _ _ _ rA5
  have d0 := cell_of_row _ _ 0 _ _ _ rD5
  have d1 := cell_of_row _ _ 1 _ _ _ rD5
  have d2 := cell_of_row _ _ 2 _ _ _ rD5
  have e0 := frozen_of_row _ _ 0 _ _ rD5
  have e1 := frozen_of_row _ _ 1 _ _ rD5
  have e2 := frozen_of_row _ _ 2 _ _ rD5
  simp only [List.getElem?_toArray, List.getElem?_cons_zero, List.getElem?_cons_succ] at c1 d0 d1 d2
  have hlt : ∀ c, cellAt x.heap.cells.length f.slots n.slot = some c → c < x.heap.cells.length := by
    intro c h
    unfold cellAt at h
    split at h
    · split at h
      · cases h
      · split at h
        · cases h; omega
        · cases h
    · cases h
  clear rA rD rA5 rD5 HC hS4 r_heap_cells f_r_slots s4 s5 B4 hb5
  generalize cellAt x.heap.cells.length f.slots n.slot = C at *
  cases C with
  | none =>
    simp only at HV
    clear hlt hcell
    have HI : cellI none = -1 := rfl
    simp only [HI, Option.isSome_none]
    go_wp2_with fail
    exact bodyPost_ret (v := .tuple #[.agg #[.int .i64 0, .int .i64 0, .string ⟨#[]⟩], .bool false]) (by simp [results, Try.results70, go_sem, d0, d1, d2]) rfl ⟨by rw [HV]; rfl, by repeat (first | (with_reducible exact B5) | (with_reducible refine Below.drew ?_) | (with_reducible refine Below.setCell ?_ (by first | omega | (simp <;> omega)) _))⟩
  | some c =>
    have hcl := hlt c rfl
    obtain ⟨g, o, rfl, x0, x1, x2⟩ := hcell c hcl
    simp only [List.getElem?_eq_getElem hcl] at HV
    clear hlt hcell
    generalize x.heap.cells[c] = v at *
    obtain ⟨k, m, s⟩ := v
    have m3 : c * 3 = 3 * c := Nat.mul_comm _ _
    have HI : cellI (some c) = c := rfl
    have hci : (c : Int) < (x.heap.cells.length : Int) := by omega
    simp only [HI, Option.isSome_some]
    dsimp only at x0 x1 x2
    go_wp2_with fail
    exact bodyPost_ret (v := .tuple #[.agg #[.int .i64 k, .int .i64 m, .string s], .bool true]) (by simp [results, Try.results70, go_sem, d0, d1, d2]) rfl ⟨by rw [HV]; rfl, by repeat (first | (with_reducible exact B5) | (with_reducible refine Below.drew ?_) | (with_reducible refine Below.setCell ?_ (by first | omega | (simp <;> omega)) _))⟩
end Go.Proofs.Ytnbkgpmibgdlmaa
