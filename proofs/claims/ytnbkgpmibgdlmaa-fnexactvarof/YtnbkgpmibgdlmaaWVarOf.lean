/- The walk of FnExactVarOf: it returns true. -/
import Derived.Test.YtnbkgpmibgdlmaaVofK
import Derived.Test.YtnbkgpmibgdlmaaVofT
import Derived.Test.YtnbkgpmibgdlmaaValB
import Derived.Test.YtnbkgpmibgdlmaaOwV
import Derived.Test.YtnbkgpmibgdlmaaVmE
import Derived.Test.YtnbkgpmibgdlmaaVmS
import Derived.Test.YtnbkgpmibgdlmaaDatE
import Derived.Deep.RegionHeld3
import Derived.Deep.Cut
namespace Go.Proofs.Ytnbkgpmibgdlmaa
open Go.RowKit

/-- In the whole of a world. -/
theorem at0 {α : Type} {k : Nat} {D : World → (Nat → Prop) → α → List Value → Prop} {C : World → Nat → Nat → α → List Value → Prop} (hL : Lies D C) {w : World} {l h : Nat} {xs : List α} {a : Option Addr} (hh : h ≤ w.heap.size) (hd : RowD k D w (In l h) xs a) : RowAt k C w 0 w.heap.size xs a :=
  hd.lies hL fun _ hb => ⟨Nat.zero_le _, Nat.lt_of_lt_of_le hb.2 hh⟩
theorem st0 {α : Type} {D : World → (Nat → Prop) → α → List Value → Prop} {C : World → Nat → Nat → α → List Value → Prop} (hL : Lies D C) {w : World} {l h : Nat} {x : α} {cs : List Value} (hh : h ≤ w.heap.size) (hd : D w (In l h) x cs) : C w 0 w.heap.size x cs :=
  hL _ _ _ _ _ _ (fun _ hb => ⟨Nat.zero_le _, Nat.lt_of_lt_of_le hb.2 hh⟩) hd
theorem at0_b {α : Type} {k : Nat} {C : World → Nat → Nat → α → List Value → Prop} (hK : Keeps C) {w w' : World} {xs : List α} {a : Option Addr} (h : RowAt k C w 0 w.heap.size xs a) (hb : Below w.heap.size w w') : RowAt k C w' 0 w'.heap.size xs a :=
  (h.below hK hb (Nat.le_refl _)).wide hK (Nat.le_refl _) hb.size
theorem st0_b {α : Type} {C : World → Nat → Nat → α → List Value → Prop} (hK : Keeps C) {w w' : World} {x : α} {cs : List Value} (h : C w 0 w.heap.size x cs) (hb : Below w.heap.size w w') : C w' 0 w'.heap.size x cs :=
  hK _ _ _ _ _ _ _ _ (Nat.le_refl _) hb.size (fun _ _ hp => hb.cell hp) h
theorem bel_stepd {W0 W W' : World} (h : Below W0.heap.size W0 W) (hb : Below W.heap.size W W') : Below W0.heap.size W0 W' := h.trans (hb.mono h.size)
theorem names_le {ps : List ProtoD} (h : wtR ProtoD.wt ps ≤ 1048576) : ∀ p ∈ ps, p.names.length ≤ 1048576 := by
  intro p hp
  have h1 : ∀ {α : Type} (f : α → Nat) (xs : List α) (x : α), x ∈ xs → 1 + f x ≤ wtR f xs := by
    intro α f xs x hx
    induction xs with
    | nil => cases hx
    | cons y ys ih =>
      simp only [wtR, List.map_cons, List.sum_cons]
      rcases List.mem_cons.1 hx with rfl | hx
      · omega
      · have := ih hx
        simp only [wtR] at this
        omega
  have h2 : ∀ {α : Type} (f : α → Nat) (xs : List α), xs.length ≤ wtR f xs := by
    intro α f xs
    induction xs with
    | nil => exact Nat.zero_le _
    | cons y ys ih => simp only [wtR, List.map_cons, List.sum_cons, List.length_cons] at *; omega
  have a := h1 ProtoD.wt ps p hp
  have b := h2 NameD.wt p.names
  have c : p.names.length ≤ ProtoD.wt p := by unfold ProtoD.wt; omega
  omega
theorem cells_le {x : VmD} (h : x.wt ≤ 1048576) : ∀ v ∈ x.heap.cells, v.s.size ≤ 1048576 := by
  intro v hv
  have h1 : ∀ {α : Type} (f : α → Nat) (xs : List α) (x : α), x ∈ xs → 1 + f x ≤ wtR f xs := by
    intro α f xs x hx
    induction xs with
    | nil => cases hx
    | cons y ys ih =>
      simp only [wtR, List.map_cons, List.sum_cons]
      rcases List.mem_cons.1 hx with rfl | hx
      · omega
      · have := ih hx
        simp only [wtR] at this
        omega
  have a := h1 Vl.wt x.heap.cells v hv
  unfold VmD.wt HeapD.wt at h
  unfold Vl.wt at a h
  omega
set_option maxRecDepth 100000 in
set_option maxHeartbeats 6400000 in
theorem exact_varof_small (xs0 : List ProtoD) (a0 : Option Addr) (ca0 : Nat) (x1 : VmD) (cs1 : List Value) (s2 : ByteArray) (w : World) (hsb : s2.size ≤ 1048576) (hn0 : xs0.length ≤ maxLen) (hS0 : RowAt 5 ProtoC w 0 w.heap.size xs0 a0) (hC1 : VmC w 0 w.heap.size x1 cs1) :
    Calls Try.prog 3 #[.slice a0 xs0.length ca0, .agg cs1.toArray, .string s2] w fun e w' => e = .returned (.bool true) ∧ Below w.heap.size w w' := by
  have hC1' := hC1
  obtain ⟨m1_ok, m1_a_heap_tables, m1_c_heap_tables, m1_a_heap_cells, m1_c_heap_cells, m1_a_funs, m1_c_funs, m1_a_frames, m1_c_frames, m1_a_out, m1_c_out, rfl, m1_l_heap_tables, m1_r_heap_tables, m1_l_heap_cells, m1_r_heap_cells, m1_l_funs, m1_r_funs, m1_l_frames, m1_r_frames, m1_l_out, m1_r_out⟩ := hC1'
  clear m1_r_heap_tables m1_r_heap_cells m1_r_funs m1_r_frames m1_r_out
  obtain ⟨W0, hW0⟩ : ∃ W0, W0 = (w.alloc (Obj.cells #[.slice m1_a_heap_tables x1.heap.tables.length m1_c_heap_tables, .slice m1_a_heap_cells x1.heap.cells.length m1_c_heap_cells, .slice m1_a_funs x1.funs.length m1_c_funs, .slice m1_a_frames x1.frames.length m1_c_frames, .slice m1_a_out x1.out.length m1_c_out, .int .i64 x1.steps, .int .i64 x1.kind, .int .i64 x1.value.k, .int .i64 x1.value.n, .string x1.value.s] 33)) := ⟨_, rfl⟩
  have rA1 : W0.heap[w.heap.size]? = some (Obj.cells #[.slice m1_a_heap_tables x1.heap.tables.length m1_c_heap_tables, .slice m1_a_heap_cells x1.heap.cells.length m1_c_heap_cells, .slice m1_a_funs x1.funs.length m1_c_funs, .slice m1_a_frames x1.frames.length m1_c_frames, .slice m1_a_out x1.out.length m1_c_out, .int .i64 x1.steps, .int .i64 x1.kind, .int .i64 x1.value.k, .int .i64 x1.value.n, .string x1.value.s] 33) := by rw [hW0]; exact heap_alloc_new _ _
  have B0 : Below w.heap.size w W0 := by rw [hW0]; exact bel_alloc _ _
  have hs0 : W0.heap.size = w.heap.size + 1 := by rw [hW0]; simp
  have hsb' : ¬ (1048576 : Int) < (s2.size : Int) := by omega
  have p1_0 := cell_of_row _ _ 0 _ _ _ rA1
  have p1_1 := cell_of_row _ _ 1 _ _ _ rA1
  have p1_2 := cell_of_row _ _ 2 _ _ _ rA1
  have p1_3 := cell_of_row _ _ 3 _ _ _ rA1
  have p1_4 := cell_of_row _ _ 4 _ _ _ rA1
  have p1_5 := cell_of_row _ _ 5 _ _ _ rA1
  have p1_6 := cell_of_row _ _ 6 _ _ _ rA1
  have p1_7 := cell_of_row _ _ 7 _ _ _ rA1
  have p1_8 := cell_of_row _ _ 8 _ _ _ rA1
  have p1_9 := cell_of_row _ _ 9 _ _ _ rA1
  simp only [List.getElem?_toArray, List.getElem?_cons_zero, List.getElem?_cons_succ] at p1_0 p1_1 p1_2 p1_3 p1_4 p1_5 p1_6 p1_7 p1_8 p1_9
  clear rA1
  go_enter Try.func3, Try.ntmps3
  go_wp2_with fail
  rw [← hW0]
  clear hW0
  refine (szProtoS_any xs0 a0 ca0 0 w.heap.size 1048576 W0 B0.size hn0 (hS0.below ProtoC_keeps B0 (Nat.le_refl _)) (by decide) (by decide)).mono ?_
  rintro e w1 ⟨⟨r1, rfl, hr1⟩, hb1⟩
  have B1 := B0.trans (hb1.mono B0.size)
  have hs1 := hb1.size
  have p1_0 := (hb1.cell (p := ⟨w.heap.size, 0, none⟩) (by show w.heap.size < _; omega)).trans p1_0
  have p1_1 := (hb1.cell (p := ⟨w.heap.size, 1, none⟩) (by show w.heap.size < _; omega)).trans p1_1
  have p1_2 := (hb1.cell (p := ⟨w.heap.size, 2, none⟩) (by show w.heap.size < _; omega)).trans p1_2
  have p1_3 := (hb1.cell (p := ⟨w.heap.size, 3, none⟩) (by show w.heap.size < _; omega)).trans p1_3
  have p1_4 := (hb1.cell (p := ⟨w.heap.size, 4, none⟩) (by show w.heap.size < _; omega)).trans p1_4
  have p1_5 := (hb1.cell (p := ⟨w.heap.size, 5, none⟩) (by show w.heap.size < _; omega)).trans p1_5
  have p1_6 := (hb1.cell (p := ⟨w.heap.size, 6, none⟩) (by show w.heap.size < _; omega)).trans p1_6
  have p1_7 := (hb1.cell (p := ⟨w.heap.size, 7, none⟩) (by show w.heap.size < _; omega)).trans p1_7
  have p1_8 := (hb1.cell (p := ⟨w.heap.size, 8, none⟩) (by show w.heap.size < _; omega)).trans p1_8
  have p1_9 := (hb1.cell (p := ⟨w.heap.size, 9, none⟩) (by show w.heap.size < _; omega)).trans p1_9
  by_cases hneg1 : r1 < 0
  · go_wp2_with fail
    go_ret
    exact ⟨rfl, B1⟩
  · skip
    have hw0 : wtR ProtoD.wt xs0 ≤ 1048576 := by rcases hr1 with h | h; exact absurd h (by omega); omega
    go_wp2_with fail
    refine (szVm_any x1 _ 0 w.heap.size r1 w1 B1.size (VmC_keeps.below hC1 B1 (Nat.le_refl _)) (by omega) (by omega)).mono ?_
    rintro e w2 ⟨⟨r2, rfl, hr2⟩, hb2⟩
    have B2 := B1.trans (hb2.mono B1.size)
    have hs2 := hb2.size
    have p1_0 := (hb2.cell (p := ⟨w.heap.size, 0, none⟩) (by show w.heap.size < _; omega)).trans p1_0
    have p1_1 := (hb2.cell (p := ⟨w.heap.size, 1, none⟩) (by show w.heap.size < _; omega)).trans p1_1
    have p1_2 := (hb2.cell (p := ⟨w.heap.size, 2, none⟩) (by show w.heap.size < _; omega)).trans p1_2
    have p1_3 := (hb2.cell (p := ⟨w.heap.size, 3, none⟩) (by show w.heap.size < _; omega)).trans p1_3
    have p1_4 := (hb2.cell (p := ⟨w.heap.size, 4, none⟩) (by show w.heap.size < _; omega)).trans p1_4
    have p1_5 := (hb2.cell (p := ⟨w.heap.size, 5, none⟩) (by show w.heap.size < _; omega)).trans p1_5
    have p1_6 := (hb2.cell (p := ⟨w.heap.size, 6, none⟩) (by show w.heap.size < _; omega)).trans p1_6
    have p1_7 := (hb2.cell (p := ⟨w.heap.size, 7, none⟩) (by show w.heap.size < _; omega)).trans p1_7
    have p1_8 := (hb2.cell (p := ⟨w.heap.size, 8, none⟩) (by show w.heap.size < _; omega)).trans p1_8
    have p1_9 := (hb2.cell (p := ⟨w.heap.size, 9, none⟩) (by show w.heap.size < _; omega)).trans p1_9
    by_cases hneg2 : r2 < 0
    · go_wp2_with fail
      go_ret
      exact ⟨rfl, B2⟩
    · skip
      have hw1 : x1.wt ≤ 1048576 := by rcases hr2 with h | h; exact absurd h (by omega); omega
      clear hr1 hb1 hr2 hb2 hneg1 B0
      have HTO0 : Hid (∀ W, Below w2.heap.size w2 W → Calls Try.prog 10 #[.slice a0 xs0.length ca0] W fun e w' => (∃ b cb, e = .returned (.slice b xs0.length cb) ∧ RowAt 5 ProtoC w' 0 w'.heap.size xs0 b) ∧ Below W.heap.size W w') := fun W hW => (owProtoS_any xs0 a0 ca0 0 w.heap.size W (Nat.le_trans B2.size hW.size) hw0 ((hS0.below ProtoC_keeps B2 (Nat.le_refl _)).below ProtoC_keeps hW B2.size)).mono fun e w' ⟨⟨b, cb, he, hR⟩, hb⟩ => ⟨⟨b, cb, he, at0 ProtoOwn_lies (Nat.le_refl _) hR⟩, hb⟩
      have HEQ0 : Hid (∀ W b cb b' cb', RowAt 5 ProtoC W 0 W.heap.size xs0 b → RowAt 5 ProtoC W 0 W.heap.size xs0 b' → Calls Try.prog 14 #[.slice b xs0.length cb, .slice b' xs0.length cb'] W fun e w' => e = .returned (.bool true) ∧ Below W.heap.size W w') := fun W b cb b' cb' h1 h2 => eqProtoS_same xs0 b b' cb cb' _ _ _ _ W (Nat.le_refl _) (Nat.le_refl _) (by omega) h1 h2
      have HTO1 : Hid (∀ W, Below w2.heap.size w2 W → Calls Try.prog 11 #[.agg #[.slice m1_a_heap_tables x1.heap.tables.length m1_c_heap_tables, .slice m1_a_heap_cells x1.heap.cells.length m1_c_heap_cells, .slice m1_a_funs x1.funs.length m1_c_funs, .slice m1_a_frames x1.frames.length m1_c_frames, .slice m1_a_out x1.out.length m1_c_out, .int .i64 x1.steps, .int .i64 x1.kind, .int .i64 x1.value.k, .int .i64 x1.value.n, .string x1.value.s]] W fun e w' => (∃ cs, e = .returned (.agg cs.toArray) ∧ VmC w' 0 w'.heap.size x1 cs) ∧ Below W.heap.size W w') := fun W hW => (owVm_any x1 _ 0 w.heap.size W (Nat.le_trans B2.size hW.size) hw1 (VmC_keeps.below (VmC_keeps.below hC1 B2 (Nat.le_refl _)) hW B2.size)).mono fun e w' ⟨⟨cs, he, hR⟩, hb⟩ => ⟨⟨cs, he, st0 VmOwn_lies (Nat.le_refl _) hR⟩, hb⟩
      have HEQ1 : Hid (∀ W cs cs', VmC W 0 W.heap.size x1 cs → VmC W 0 W.heap.size x1 cs' → Calls Try.prog 15 #[.agg cs.toArray, .agg cs'.toArray] W fun e w' => e = .returned (.bool true) ∧ Below W.heap.size W w') := fun W cs cs' h1 h2 => eqVm_same x1 cs cs' _ _ _ _ W (Nat.le_refl _) (Nat.le_refl _) (by omega) h1 h2
      have HS : Hid (∀ W b0 c0 d1, RowAt 5 ProtoC W 0 W.heap.size xs0 b0 → VmC W 0 W.heap.size x1 d1 → Calls Try.prog 9 #[.slice b0 xs0.length c0, .agg d1.toArray, .string s2] W fun e w' => e = .returned (.tuple #[.agg #[.int .i64 (vz (varV xs0 x1 s2)).k, .int .i64 (vz (varV xs0 x1 s2)).n, .string (vz (varV xs0 x1 s2)).s], .bool (varV xs0 x1 s2).isSome]) ∧ Below W.heap.size W w') := fun W b0 c0 d1 h0 h1 => varOf_spec xs0 b0 c0 x1 d1 s2 0 W.heap.size W (Nat.le_refl _) hn0 (names_le hw0) h0 h1
      have HI : Hid (∀ W b0 c0 d1, RowAt 5 ProtoC W 0 W.heap.size xs0 b0 → VmC W 0 W.heap.size x1 d1 → Calls Try.prog 12 #[.slice b0 xs0.length c0, .agg d1.toArray, .string s2] W fun e w' => e = .returned (.tuple #[.agg #[.int .i64 (vz (varV xs0 x1 s2)).k, .int .i64 (vz (varV xs0 x1 s2)).n, .string (vz (varV xs0 x1 s2)).s], .bool (varV xs0 x1 s2).isSome]) ∧ Below W.heap.size W w') := fun W b0 c0 d1 h0 h1 => varOf_impl xs0 b0 c0 x1 d1 s2 0 W.heap.size W (Nat.le_refl _) hn0 (names_le hw0) (cells_le hw1) h0 h1
      generalize (vz (varV xs0 x1 s2)).k = VK at HS HI
      generalize (vz (varV xs0 x1 s2)).n = VN at HS HI
      generalize (vz (varV xs0 x1 s2)).s = VS at HS HI
      generalize (varV xs0 x1 s2).isSome = VB at HS HI
      have HBK : Hid (Below w.heap.size w w2) := B2
      have KEEP : Hid (∀ W' : World, Below w2.heap.size w2 W' → (fun w' => Below w2.heap.size w2 w' ∧ w'.cell? ⟨w.heap.size, 0, none⟩ = some (.slice m1_a_heap_tables x1.heap.tables.length m1_c_heap_tables) ∧ w'.cell? ⟨w.heap.size, 1, none⟩ = some (.slice m1_a_heap_cells x1.heap.cells.length m1_c_heap_cells) ∧ w'.cell? ⟨w.heap.size, 2, none⟩ = some (.slice m1_a_funs x1.funs.length m1_c_funs) ∧ w'.cell? ⟨w.heap.size, 3, none⟩ = some (.slice m1_a_frames x1.frames.length m1_c_frames) ∧ w'.cell? ⟨w.heap.size, 4, none⟩ = some (.slice m1_a_out x1.out.length m1_c_out) ∧ w'.cell? ⟨w.heap.size, 5, none⟩ = some (.int .i64 x1.steps) ∧ w'.cell? ⟨w.heap.size, 6, none⟩ = some (.int .i64 x1.kind) ∧ w'.cell? ⟨w.heap.size, 7, none⟩ = some (.int .i64 x1.value.k) ∧ w'.cell? ⟨w.heap.size, 8, none⟩ = some (.int .i64 x1.value.n) ∧ w'.cell? ⟨w.heap.size, 9, none⟩ = some (.string x1.value.s)) W') := fun W' hB => ⟨hB, (hB.cell (p := ⟨w.heap.size, 0, none⟩) (by show w.heap.size < _; omega)).trans p1_0, (hB.cell (p := ⟨w.heap.size, 1, none⟩) (by show w.heap.size < _; omega)).trans p1_1, (hB.cell (p := ⟨w.heap.size, 2, none⟩) (by show w.heap.size < _; omega)).trans p1_2, (hB.cell (p := ⟨w.heap.size, 3, none⟩) (by show w.heap.size < _; omega)).trans p1_3, (hB.cell (p := ⟨w.heap.size, 4, none⟩) (by show w.heap.size < _; omega)).trans p1_4, (hB.cell (p := ⟨w.heap.size, 5, none⟩) (by show w.heap.size < _; omega)).trans p1_5, (hB.cell (p := ⟨w.heap.size, 6, none⟩) (by show w.heap.size < _; omega)).trans p1_6, (hB.cell (p := ⟨w.heap.size, 7, none⟩) (by show w.heap.size < _; omega)).trans p1_7, (hB.cell (p := ⟨w.heap.size, 8, none⟩) (by show w.heap.size < _; omega)).trans p1_8, (hB.cell (p := ⟨w.heap.size, 9, none⟩) (by show w.heap.size < _; omega)).trans p1_9⟩
      have hq0 : Below w2.heap.size w2 w2.drew := (Below.refl _ _).drew
      clear p1_0 p1_1 p1_2 p1_3 p1_4 p1_5 p1_6 p1_7 p1_8 p1_9
      clear hS0 hn0 hC1 m1_ok m1_l_heap_tables m1_l_heap_cells m1_l_funs m1_l_frames m1_l_out B2
      go_wp2_with fail
      go_cut [8, 9] from 14 (fun p8 u9 wx => ∃ b, p8 = .pointer (some ⟨b, 0, none⟩) ∧ u9 = .bool VB ∧ Below w2.heap.size w2 wx ∧ w2.heap.size ≤ b ∧ b < wx.heap.size ∧ wx.cell? ⟨b, 0, none⟩ = some (.int .i64 VK) ∧ wx.cell? ⟨b, 1, none⟩ = some (.int .i64 VN) ∧ wx.cell? ⟨b, 2, none⟩ = some (.string VS))
      case first =>
        go_region_held3 (fun w' => Below w2.heap.size w2 w' ∧ w'.cell? ⟨w.heap.size, 0, none⟩ = some (.slice m1_a_heap_tables x1.heap.tables.length m1_c_heap_tables) ∧ w'.cell? ⟨w.heap.size, 1, none⟩ = some (.slice m1_a_heap_cells x1.heap.cells.length m1_c_heap_cells) ∧ w'.cell? ⟨w.heap.size, 2, none⟩ = some (.slice m1_a_funs x1.funs.length m1_c_funs) ∧ w'.cell? ⟨w.heap.size, 3, none⟩ = some (.slice m1_a_frames x1.frames.length m1_c_frames) ∧ w'.cell? ⟨w.heap.size, 4, none⟩ = some (.slice m1_a_out x1.out.length m1_c_out) ∧ w'.cell? ⟨w.heap.size, 5, none⟩ = some (.int .i64 x1.steps) ∧ w'.cell? ⟨w.heap.size, 6, none⟩ = some (.int .i64 x1.kind) ∧ w'.cell? ⟨w.heap.size, 7, none⟩ = some (.int .i64 x1.value.k) ∧ w'.cell? ⟨w.heap.size, 8, none⟩ = some (.int .i64 x1.value.n) ∧ w'.cell? ⟨w.heap.size, 9, none⟩ = some (.string x1.value.s)) (first | (with_reducible assumption) | exact KEEP.out _ (by with_reducible assumption) | exact KEEP.out _ (bel_al (by with_reducible assumption) _) | exact KEEP.out _ (bel_s3 (by with_reducible assumption) (by first | exact bel_sz (by assumption) | omega))) (first | (go_at_call 10; refine (HTO0.out _ (bel_of (by with_reducible assumption))).mono ?_; rintro e w' ⟨⟨t0, tc0, rfl, hT0⟩, hb'⟩; have hq' := bel_step (by with_reducible assumption) hb'; obtain ⟨hc', hf'⟩ := bcell hb'; have ht' := fun (b : Nat) h => Nat.lt_of_lt_of_le (n := b) h hb'.size; (first | (have hu' := fun (b : Nat) h => ht' b (hu' b h)) | (have hu' := ht')); (first | (have hzc' := zc_b hzc' hb') | (have hzc' := zc_first hb') | (have hzc' := zc_first' hb') | skip); have hs' := hb'.size; (try simp at hs')) | (go_at_call 11; refine (HTO1.out _ (bel_of (by with_reducible assumption))).mono ?_; rintro e w' ⟨⟨t1, rfl, hT1⟩, hb'⟩; have hq' := bel_step (by with_reducible assumption) hb'; (first | (have hT0 := at0_b ProtoC_keeps hT0 hb') | (have hT0 := at0_b ProtoC_keeps (at0_b ProtoC_keeps hT0 (bel_alloc _ _)) hb')); obtain ⟨hc', hf'⟩ := bcell hb'; have ht' := fun (b : Nat) h => Nat.lt_of_lt_of_le (n := b) h hb'.size; (first | (have hu' := fun (b : Nat) h => ht' b (hu' b h)) | (have hu' := ht')); (first | (have hzc' := zc_b hzc' hb') | (have hzc' := zc_first hb') | (have hzc' := zc_first' hb') | skip); have hs' := hb'.size; (try simp at hs')) | (go_at_call 9; (first | refine (HS.out _ _ _ _ hT0 hT1).mono ?_ | refine (HS.out _ _ _ _ (at0_b ProtoC_keeps hT0 (bel_alloc _ _)) (st0_b VmC_keeps hT1 (bel_alloc _ _))).mono ?_); rintro e w' ⟨rfl, hb'⟩; have hq' := bel_step (by with_reducible assumption) hb'; obtain ⟨hc', hf'⟩ := bcell hb'; have ht' := fun (b : Nat) h => Nat.lt_of_lt_of_le (n := b) h hb'.size; (first | (have hu' := fun (b : Nat) h => ht' b (hu' b h)) | (have hu' := ht')); (first | (have hzc' := zc_b hzc' hb') | (have hzc' := zc_first hb') | (have hzc' := zc_first' hb') | skip); have hs' := hb'.size; (try simp at hs')))
        all_goals
          go_wp2_with fail
          go_meet
          case rel =>
            refine ⟨_, rfl, rfl, ?_, ?_, ?_⟩
            · (first | (with_reducible assumption) | exact bel_of (by with_reducible assumption))
            · (first | exact Nat.le_refl _ | exact bel_sz (by assumption) | omega)
            · (first | exact al_set | exact zc_set hzc' | exact zc_set (by assumption))
      case rest =>
        rename World => wA
        obtain ⟨vb, rfl, rfl, hqA, hvb, hvl, q0, q1, q2⟩ := hcut
        have zA := hqA.size
        have p1_0 := (KEEP.out _ hqA).2.1
        have p1_1 := (KEEP.out _ hqA).2.2.1
        have p1_2 := (KEEP.out _ hqA).2.2.2.1
        have p1_3 := (KEEP.out _ hqA).2.2.2.2.1
        have p1_4 := (KEEP.out _ hqA).2.2.2.2.2.1
        have p1_5 := (KEEP.out _ hqA).2.2.2.2.2.2.1
        have p1_6 := (KEEP.out _ hqA).2.2.2.2.2.2.2.1
        have p1_7 := (KEEP.out _ hqA).2.2.2.2.2.2.2.2.1
        have p1_8 := (KEEP.out _ hqA).2.2.2.2.2.2.2.2.2.1
        have p1_9 := (KEEP.out _ hqA).2.2.2.2.2.2.2.2.2.2
        go_wp2_with fail
        refine (HTO0.out _ hqA).mono ?_
        rintro e wB0 ⟨⟨y0, yc0, rfl, hX0⟩, hbB0⟩
        have hqB0 : Below w2.heap.size w2 wB0 := hqA.trans (hbB0.mono hqA.size)
        clear p1_0 p1_1 p1_2 p1_3 p1_4 p1_5 p1_6 p1_7 p1_8 p1_9
        have zB0 := hbB0.size
        have q0 := (hbB0.cell (p := ⟨vb, 0, none⟩) (by show vb < _; omega)).trans q0
        have q1 := (hbB0.cell (p := ⟨vb, 1, none⟩) (by show vb < _; omega)).trans q1
        have q2 := (hbB0.cell (p := ⟨vb, 2, none⟩) (by show vb < _; omega)).trans q2
        have p1_0 := (KEEP.out _ hqB0).2.1
        have p1_1 := (KEEP.out _ hqB0).2.2.1
        have p1_2 := (KEEP.out _ hqB0).2.2.2.1
        have p1_3 := (KEEP.out _ hqB0).2.2.2.2.1
        have p1_4 := (KEEP.out _ hqB0).2.2.2.2.2.1
        have p1_5 := (KEEP.out _ hqB0).2.2.2.2.2.2.1
        have p1_6 := (KEEP.out _ hqB0).2.2.2.2.2.2.2.1
        have p1_7 := (KEEP.out _ hqB0).2.2.2.2.2.2.2.2.1
        have p1_8 := (KEEP.out _ hqB0).2.2.2.2.2.2.2.2.2.1
        have p1_9 := (KEEP.out _ hqB0).2.2.2.2.2.2.2.2.2.2
        go_wp2_with fail
        refine (HTO1.out _ hqB0).mono ?_
        rintro e wB1 ⟨⟨ys1, rfl, hX1⟩, hbB1⟩
        have hqB1 : Below w2.heap.size w2 wB1 := hqB0.trans (hbB1.mono hqB0.size)
        have hX0 := at0_b ProtoC_keeps hX0 hbB1
        clear p1_0 p1_1 p1_2 p1_3 p1_4 p1_5 p1_6 p1_7 p1_8 p1_9
        have zB1 := hbB1.size
        have q0 := (hbB1.cell (p := ⟨vb, 0, none⟩) (by show vb < _; omega)).trans q0
        have q1 := (hbB1.cell (p := ⟨vb, 1, none⟩) (by show vb < _; omega)).trans q1
        have q2 := (hbB1.cell (p := ⟨vb, 2, none⟩) (by show vb < _; omega)).trans q2
        have hY1 := hX1
        obtain ⟨v1_ok, v1_a_heap_tables, v1_c_heap_tables, v1_a_heap_cells, v1_c_heap_cells, v1_a_funs, v1_c_funs, v1_a_frames, v1_c_frames, v1_a_out, v1_c_out, rfl, v1_l_heap_tables, v1_r_heap_tables, v1_l_heap_cells, v1_r_heap_cells, v1_l_funs, v1_r_funs, v1_l_frames, v1_r_frames, v1_l_out, v1_r_out⟩ := hY1
        clear v1_r_heap_tables v1_l_heap_tables v1_r_heap_cells v1_l_heap_cells v1_r_funs v1_l_funs v1_r_frames v1_l_frames v1_r_out v1_l_out v1_ok
        have Q0 := q0
        have Q1 := q1
        have Q2 := q2
        clear q0 q1 q2
        go_wp2_with fail
        obtain ⟨WC1, hWC1⟩ : ∃ W, W = wB1.alloc (Obj.cells #[.slice v1_a_heap_tables x1.heap.tables.length v1_c_heap_tables, .slice v1_a_heap_cells x1.heap.cells.length v1_c_heap_cells, .slice v1_a_funs x1.funs.length v1_c_funs, .slice v1_a_frames x1.frames.length v1_c_frames, .slice v1_a_out x1.out.length v1_c_out, .int .i64 x1.steps, .int .i64 x1.kind, .int .i64 x1.value.k, .int .i64 x1.value.n, .string x1.value.s] 48) := ⟨_, rfl⟩
        rw [← hWC1]
        have hbC1 : Below wB1.heap.size wB1 WC1 := by rw [hWC1]; exact bel_alloc _ _
        have rV1 : WC1.heap[wB1.heap.size]? = some (Obj.cells #[.slice v1_a_heap_tables x1.heap.tables.length v1_c_heap_tables, .slice v1_a_heap_cells x1.heap.cells.length v1_c_heap_cells, .slice v1_a_funs x1.funs.length v1_c_funs, .slice v1_a_frames x1.frames.length v1_c_frames, .slice v1_a_out x1.out.length v1_c_out, .int .i64 x1.steps, .int .i64 x1.kind, .int .i64 x1.value.k, .int .i64 x1.value.n, .string x1.value.s] 48) := by rw [hWC1]; exact heap_alloc_new _ _
        have zC1 : WC1.heap.size = wB1.heap.size + 1 := by rw [hWC1]; simp
        clear hWC1
        have u1_0 := cell_of_row _ _ 0 _ _ _ rV1
        have u1_1 := cell_of_row _ _ 1 _ _ _ rV1
        have u1_2 := cell_of_row _ _ 2 _ _ _ rV1
        have u1_3 := cell_of_row _ _ 3 _ _ _ rV1
        have u1_4 := cell_of_row _ _ 4 _ _ _ rV1
        have u1_5 := cell_of_row _ _ 5 _ _ _ rV1
        have u1_6 := cell_of_row _ _ 6 _ _ _ rV1
        have u1_7 := cell_of_row _ _ 7 _ _ _ rV1
        have u1_8 := cell_of_row _ _ 8 _ _ _ rV1
        have u1_9 := cell_of_row _ _ 9 _ _ _ rV1
        simp only [List.getElem?_toArray, List.getElem?_cons_zero, List.getElem?_cons_succ] at u1_0 u1_1 u1_2 u1_3 u1_4 u1_5 u1_6 u1_7 u1_8 u1_9
        clear rV1
        have q0 := (hbC1.cell (p := ⟨vb, 0, none⟩) (by show vb < _; omega)).trans Q0
        have q1 := (hbC1.cell (p := ⟨vb, 1, none⟩) (by show vb < _; omega)).trans Q1
        have q2 := (hbC1.cell (p := ⟨vb, 2, none⟩) (by show vb < _; omega)).trans Q2
        clear Q0 Q1 Q2
        have hqC1 : Below w2.heap.size w2 WC1 := hqB1.trans (hbC1.mono hqB1.size)
        have hX0 := at0_b ProtoC_keeps hX0 hbC1
        have hX1 := st0_b VmC_keeps hX1 hbC1
        go_wp2_with fail
        refine (HI.out _ _ _ _ hX0 hX1).mono ?_
        rintro e wG ⟨rfl, hbG⟩
        have zG := hbG.size
        have q0 := (hbG.cell (p := ⟨vb, 0, none⟩) (by show vb < _; omega)).trans q0
        have q1 := (hbG.cell (p := ⟨vb, 1, none⟩) (by show vb < _; omega)).trans q1
        have q2 := (hbG.cell (p := ⟨vb, 2, none⟩) (by show vb < _; omega)).trans q2
        have hqG : Below w2.heap.size w2 wG := hqC1.trans (hbG.mono hqC1.size)
        have hX0 := at0_b ProtoC_keeps hX0 hbG
        have hX1 := st0_b VmC_keeps hX1 hbG
        have u1_0 := (hbG.cell (p := ⟨wB1.heap.size, 0, none⟩) (by show wB1.heap.size < _; omega)).trans u1_0
        have u1_1 := (hbG.cell (p := ⟨wB1.heap.size, 1, none⟩) (by show wB1.heap.size < _; omega)).trans u1_1
        have u1_2 := (hbG.cell (p := ⟨wB1.heap.size, 2, none⟩) (by show wB1.heap.size < _; omega)).trans u1_2
        have u1_3 := (hbG.cell (p := ⟨wB1.heap.size, 3, none⟩) (by show wB1.heap.size < _; omega)).trans u1_3
        have u1_4 := (hbG.cell (p := ⟨wB1.heap.size, 4, none⟩) (by show wB1.heap.size < _; omega)).trans u1_4
        have u1_5 := (hbG.cell (p := ⟨wB1.heap.size, 5, none⟩) (by show wB1.heap.size < _; omega)).trans u1_5
        have u1_6 := (hbG.cell (p := ⟨wB1.heap.size, 6, none⟩) (by show wB1.heap.size < _; omega)).trans u1_6
        have u1_7 := (hbG.cell (p := ⟨wB1.heap.size, 7, none⟩) (by show wB1.heap.size < _; omega)).trans u1_7
        have u1_8 := (hbG.cell (p := ⟨wB1.heap.size, 8, none⟩) (by show wB1.heap.size < _; omega)).trans u1_8
        have u1_9 := (hbG.cell (p := ⟨wB1.heap.size, 9, none⟩) (by show wB1.heap.size < _; omega)).trans u1_9
        have al0 : ∀ O : Obj, (wG.alloc O).cell? ⟨vb, 0, none⟩ = some (.int .i64 VK) := fun O => ((bel_alloc wG O).cell (p := ⟨vb, 0, none⟩) (by show vb < _; omega)).trans q0
        have al1 : ∀ O : Obj, (wG.alloc O).cell? ⟨vb, 1, none⟩ = some (.int .i64 VN) := fun O => ((bel_alloc wG O).cell (p := ⟨vb, 1, none⟩) (by show vb < _; omega)).trans q1
        have al2 : ∀ O : Obj, (wG.alloc O).cell? ⟨vb, 2, none⟩ = some (.string VS) := fun O => ((bel_alloc wG O).cell (p := ⟨vb, 2, none⟩) (by show vb < _; omega)).trans q2
        have hbV := bel_alloc wG (Obj.cells #[.int .i64 VK, .int .i64 VN, .string VS] 36)
        clear q0 q1 q2
        go_wp2_with fail
        generalize wG.alloc (Obj.cells #[.int .i64 VK, .int .i64 VN, .string VS] 36) = wV at *
        refine (eqV_same VK VN VS wV).mono ?_
        rintro e wE ⟨rfl, hbE⟩
        have hbGE : Below wG.heap.size wG wE := hbV.trans (hbE.mono hbV.size)
        have zE := hbGE.size
        clear al0 al1 al2 hbV hbE
        have hqE : Below w2.heap.size w2 wE := hqG.trans (hbGE.mono hqG.size)
        have hX0 := at0_b ProtoC_keeps hX0 hbGE
        have hX1 := st0_b VmC_keeps hX1 hbGE
        have u1_0 := (hbGE.cell (p := ⟨wB1.heap.size, 0, none⟩) (by show wB1.heap.size < _; omega)).trans u1_0
        have u1_1 := (hbGE.cell (p := ⟨wB1.heap.size, 1, none⟩) (by show wB1.heap.size < _; omega)).trans u1_1
        have u1_2 := (hbGE.cell (p := ⟨wB1.heap.size, 2, none⟩) (by show wB1.heap.size < _; omega)).trans u1_2
        have u1_3 := (hbGE.cell (p := ⟨wB1.heap.size, 3, none⟩) (by show wB1.heap.size < _; omega)).trans u1_3
        have u1_4 := (hbGE.cell (p := ⟨wB1.heap.size, 4, none⟩) (by show wB1.heap.size < _; omega)).trans u1_4
        have u1_5 := (hbGE.cell (p := ⟨wB1.heap.size, 5, none⟩) (by show wB1.heap.size < _; omega)).trans u1_5
        have u1_6 := (hbGE.cell (p := ⟨wB1.heap.size, 6, none⟩) (by show wB1.heap.size < _; omega)).trans u1_6
        have u1_7 := (hbGE.cell (p := ⟨wB1.heap.size, 7, none⟩) (by show wB1.heap.size < _; omega)).trans u1_7
        have u1_8 := (hbGE.cell (p := ⟨wB1.heap.size, 8, none⟩) (by show wB1.heap.size < _; omega)).trans u1_8
        have u1_9 := (hbGE.cell (p := ⟨wB1.heap.size, 9, none⟩) (by show wB1.heap.size < _; omega)).trans u1_9
        have p1_0 := (KEEP.out _ hqE).2.1
        have p1_1 := (KEEP.out _ hqE).2.2.1
        have p1_2 := (KEEP.out _ hqE).2.2.2.1
        have p1_3 := (KEEP.out _ hqE).2.2.2.2.1
        have p1_4 := (KEEP.out _ hqE).2.2.2.2.2.1
        have p1_5 := (KEEP.out _ hqE).2.2.2.2.2.2.1
        have p1_6 := (KEEP.out _ hqE).2.2.2.2.2.2.2.1
        have p1_7 := (KEEP.out _ hqE).2.2.2.2.2.2.2.2.1
        have p1_8 := (KEEP.out _ hqE).2.2.2.2.2.2.2.2.2.1
        have p1_9 := (KEEP.out _ hqE).2.2.2.2.2.2.2.2.2.2
        go_wp2_with fail
        refine (HTO0.out _ hqE).mono ?_
        rintro e wH0 ⟨⟨z0, zc0, rfl, hZ0⟩, hbH0⟩
        have hqH0 : Below w2.heap.size w2 wH0 := hqE.trans (hbH0.mono hqE.size)
        have zH0 := hbH0.size
        have hX0 := at0_b ProtoC_keeps hX0 hbH0
        have hX1 := st0_b VmC_keeps hX1 hbH0
        have u1_0 := (hbH0.cell (p := ⟨wB1.heap.size, 0, none⟩) (by show wB1.heap.size < _; omega)).trans u1_0
        have u1_1 := (hbH0.cell (p := ⟨wB1.heap.size, 1, none⟩) (by show wB1.heap.size < _; omega)).trans u1_1
        have u1_2 := (hbH0.cell (p := ⟨wB1.heap.size, 2, none⟩) (by show wB1.heap.size < _; omega)).trans u1_2
        have u1_3 := (hbH0.cell (p := ⟨wB1.heap.size, 3, none⟩) (by show wB1.heap.size < _; omega)).trans u1_3
        have u1_4 := (hbH0.cell (p := ⟨wB1.heap.size, 4, none⟩) (by show wB1.heap.size < _; omega)).trans u1_4
        have u1_5 := (hbH0.cell (p := ⟨wB1.heap.size, 5, none⟩) (by show wB1.heap.size < _; omega)).trans u1_5
        have u1_6 := (hbH0.cell (p := ⟨wB1.heap.size, 6, none⟩) (by show wB1.heap.size < _; omega)).trans u1_6
        have u1_7 := (hbH0.cell (p := ⟨wB1.heap.size, 7, none⟩) (by show wB1.heap.size < _; omega)).trans u1_7
        have u1_8 := (hbH0.cell (p := ⟨wB1.heap.size, 8, none⟩) (by show wB1.heap.size < _; omega)).trans u1_8
        have u1_9 := (hbH0.cell (p := ⟨wB1.heap.size, 9, none⟩) (by show wB1.heap.size < _; omega)).trans u1_9
        clear p1_0 p1_1 p1_2 p1_3 p1_4 p1_5 p1_6 p1_7 p1_8 p1_9
        go_wp2_with fail
        refine (HEQ0.out _ _ _ _ _ hX0 hZ0).mono ?_
        rintro e wI0 ⟨rfl, hbI0⟩
        have hqI0 : Below w2.heap.size w2 wI0 := hqH0.trans (hbI0.mono hqH0.size)
        have zI0 := hbI0.size
        have hX0 := at0_b ProtoC_keeps hX0 hbI0
        have hX1 := st0_b VmC_keeps hX1 hbI0
        have u1_0 := (hbI0.cell (p := ⟨wB1.heap.size, 0, none⟩) (by show wB1.heap.size < _; omega)).trans u1_0
        have u1_1 := (hbI0.cell (p := ⟨wB1.heap.size, 1, none⟩) (by show wB1.heap.size < _; omega)).trans u1_1
        have u1_2 := (hbI0.cell (p := ⟨wB1.heap.size, 2, none⟩) (by show wB1.heap.size < _; omega)).trans u1_2
        have u1_3 := (hbI0.cell (p := ⟨wB1.heap.size, 3, none⟩) (by show wB1.heap.size < _; omega)).trans u1_3
        have u1_4 := (hbI0.cell (p := ⟨wB1.heap.size, 4, none⟩) (by show wB1.heap.size < _; omega)).trans u1_4
        have u1_5 := (hbI0.cell (p := ⟨wB1.heap.size, 5, none⟩) (by show wB1.heap.size < _; omega)).trans u1_5
        have u1_6 := (hbI0.cell (p := ⟨wB1.heap.size, 6, none⟩) (by show wB1.heap.size < _; omega)).trans u1_6
        have u1_7 := (hbI0.cell (p := ⟨wB1.heap.size, 7, none⟩) (by show wB1.heap.size < _; omega)).trans u1_7
        have u1_8 := (hbI0.cell (p := ⟨wB1.heap.size, 8, none⟩) (by show wB1.heap.size < _; omega)).trans u1_8
        have u1_9 := (hbI0.cell (p := ⟨wB1.heap.size, 9, none⟩) (by show wB1.heap.size < _; omega)).trans u1_9
        have p1_0 := (KEEP.out _ hqI0).2.1
        have p1_1 := (KEEP.out _ hqI0).2.2.1
        have p1_2 := (KEEP.out _ hqI0).2.2.2.1
        have p1_3 := (KEEP.out _ hqI0).2.2.2.2.1
        have p1_4 := (KEEP.out _ hqI0).2.2.2.2.2.1
        have p1_5 := (KEEP.out _ hqI0).2.2.2.2.2.2.1
        have p1_6 := (KEEP.out _ hqI0).2.2.2.2.2.2.2.1
        have p1_7 := (KEEP.out _ hqI0).2.2.2.2.2.2.2.2.1
        have p1_8 := (KEEP.out _ hqI0).2.2.2.2.2.2.2.2.2.1
        have p1_9 := (KEEP.out _ hqI0).2.2.2.2.2.2.2.2.2.2
        have sK1 := hqI0.size
        have KEEP1 : Hid (∀ W' : World, Below wI0.heap.size wI0 W' → (fun w' => Below wI0.heap.size wI0 w' ∧ w'.cell? ⟨wB1.heap.size, 0, none⟩ = some (.slice v1_a_heap_tables x1.heap.tables.length v1_c_heap_tables) ∧ w'.cell? ⟨wB1.heap.size, 1, none⟩ = some (.slice v1_a_heap_cells x1.heap.cells.length v1_c_heap_cells) ∧ w'.cell? ⟨wB1.heap.size, 2, none⟩ = some (.slice v1_a_funs x1.funs.length v1_c_funs) ∧ w'.cell? ⟨wB1.heap.size, 3, none⟩ = some (.slice v1_a_frames x1.frames.length v1_c_frames) ∧ w'.cell? ⟨wB1.heap.size, 4, none⟩ = some (.slice v1_a_out x1.out.length v1_c_out) ∧ w'.cell? ⟨wB1.heap.size, 5, none⟩ = some (.int .i64 x1.steps) ∧ w'.cell? ⟨wB1.heap.size, 6, none⟩ = some (.int .i64 x1.kind) ∧ w'.cell? ⟨wB1.heap.size, 7, none⟩ = some (.int .i64 x1.value.k) ∧ w'.cell? ⟨wB1.heap.size, 8, none⟩ = some (.int .i64 x1.value.n) ∧ w'.cell? ⟨wB1.heap.size, 9, none⟩ = some (.string x1.value.s) ∧ w'.cell? ⟨w.heap.size, 0, none⟩ = some (.slice m1_a_heap_tables x1.heap.tables.length m1_c_heap_tables) ∧ w'.cell? ⟨w.heap.size, 1, none⟩ = some (.slice m1_a_heap_cells x1.heap.cells.length m1_c_heap_cells) ∧ w'.cell? ⟨w.heap.size, 2, none⟩ = some (.slice m1_a_funs x1.funs.length m1_c_funs) ∧ w'.cell? ⟨w.heap.size, 3, none⟩ = some (.slice m1_a_frames x1.frames.length m1_c_frames) ∧ w'.cell? ⟨w.heap.size, 4, none⟩ = some (.slice m1_a_out x1.out.length m1_c_out) ∧ w'.cell? ⟨w.heap.size, 5, none⟩ = some (.int .i64 x1.steps) ∧ w'.cell? ⟨w.heap.size, 6, none⟩ = some (.int .i64 x1.kind) ∧ w'.cell? ⟨w.heap.size, 7, none⟩ = some (.int .i64 x1.value.k) ∧ w'.cell? ⟨w.heap.size, 8, none⟩ = some (.int .i64 x1.value.n) ∧ w'.cell? ⟨w.heap.size, 9, none⟩ = some (.string x1.value.s)) W') := fun W' hB => ⟨hB, (hB.cell (p := ⟨wB1.heap.size, 0, none⟩) (by show wB1.heap.size < _; omega)).trans u1_0, (hB.cell (p := ⟨wB1.heap.size, 1, none⟩) (by show wB1.heap.size < _; omega)).trans u1_1, (hB.cell (p := ⟨wB1.heap.size, 2, none⟩) (by show wB1.heap.size < _; omega)).trans u1_2, (hB.cell (p := ⟨wB1.heap.size, 3, none⟩) (by show wB1.heap.size < _; omega)).trans u1_3, (hB.cell (p := ⟨wB1.heap.size, 4, none⟩) (by show wB1.heap.size < _; omega)).trans u1_4, (hB.cell (p := ⟨wB1.heap.size, 5, none⟩) (by show wB1.heap.size < _; omega)).trans u1_5, (hB.cell (p := ⟨wB1.heap.size, 6, none⟩) (by show wB1.heap.size < _; omega)).trans u1_6, (hB.cell (p := ⟨wB1.heap.size, 7, none⟩) (by show wB1.heap.size < _; omega)).trans u1_7, (hB.cell (p := ⟨wB1.heap.size, 8, none⟩) (by show wB1.heap.size < _; omega)).trans u1_8, (hB.cell (p := ⟨wB1.heap.size, 9, none⟩) (by show wB1.heap.size < _; omega)).trans u1_9, (hB.cell (p := ⟨w.heap.size, 0, none⟩) (by show w.heap.size < _; omega)).trans p1_0, (hB.cell (p := ⟨w.heap.size, 1, none⟩) (by show w.heap.size < _; omega)).trans p1_1, (hB.cell (p := ⟨w.heap.size, 2, none⟩) (by show w.heap.size < _; omega)).trans p1_2, (hB.cell (p := ⟨w.heap.size, 3, none⟩) (by show w.heap.size < _; omega)).trans p1_3, (hB.cell (p := ⟨w.heap.size, 4, none⟩) (by show w.heap.size < _; omega)).trans p1_4, (hB.cell (p := ⟨w.heap.size, 5, none⟩) (by show w.heap.size < _; omega)).trans p1_5, (hB.cell (p := ⟨w.heap.size, 6, none⟩) (by show w.heap.size < _; omega)).trans p1_6, (hB.cell (p := ⟨w.heap.size, 7, none⟩) (by show w.heap.size < _; omega)).trans p1_7, (hB.cell (p := ⟨w.heap.size, 8, none⟩) (by show w.heap.size < _; omega)).trans p1_8, (hB.cell (p := ⟨w.heap.size, 9, none⟩) (by show w.heap.size < _; omega)).trans p1_9⟩
        have hTO1 : Hid (∀ W, Below wI0.heap.size wI0 W → Calls Try.prog 11 #[.agg #[.slice m1_a_heap_tables x1.heap.tables.length m1_c_heap_tables, .slice m1_a_heap_cells x1.heap.cells.length m1_c_heap_cells, .slice m1_a_funs x1.funs.length m1_c_funs, .slice m1_a_frames x1.frames.length m1_c_frames, .slice m1_a_out x1.out.length m1_c_out, .int .i64 x1.steps, .int .i64 x1.kind, .int .i64 x1.value.k, .int .i64 x1.value.n, .string x1.value.s]] W fun e w' => (∃ cs, e = .returned (.agg cs.toArray) ∧ VmC w' 0 w'.heap.size x1 cs) ∧ Below W.heap.size W w') := fun W hW => HTO1.out W (hqI0.trans (hW.mono hqI0.size))
        have hEQ1 : Hid (∀ W cs', Below wI0.heap.size wI0 W → VmC W 0 W.heap.size x1 cs' → Calls Try.prog 15 #[.agg #[.slice v1_a_heap_tables x1.heap.tables.length v1_c_heap_tables, .slice v1_a_heap_cells x1.heap.cells.length v1_c_heap_cells, .slice v1_a_funs x1.funs.length v1_c_funs, .slice v1_a_frames x1.frames.length v1_c_frames, .slice v1_a_out x1.out.length v1_c_out, .int .i64 x1.steps, .int .i64 x1.kind, .int .i64 x1.value.k, .int .i64 x1.value.n, .string x1.value.s], .agg cs'.toArray] W fun e w' => e = .returned (.bool true) ∧ Below W.heap.size W w') := fun W cs' hW h2 => HEQ1.out W _ cs' (st0_b VmC_keeps hX1 hW) h2
        have hq01 : Below wI0.heap.size wI0 wI0.drew := (Below.refl _ _).drew
        clear u1_0 u1_1 u1_2 u1_3 u1_4 u1_5 u1_6 u1_7 u1_8 u1_9 p1_0 p1_1 p1_2 p1_3 p1_4 p1_5 p1_6 p1_7 p1_8 p1_9
        go_wp2_with fail
        go_region_held3 (fun w' => Below wI0.heap.size wI0 w' ∧ w'.cell? ⟨wB1.heap.size, 0, none⟩ = some (.slice v1_a_heap_tables x1.heap.tables.length v1_c_heap_tables) ∧ w'.cell? ⟨wB1.heap.size, 1, none⟩ = some (.slice v1_a_heap_cells x1.heap.cells.length v1_c_heap_cells) ∧ w'.cell? ⟨wB1.heap.size, 2, none⟩ = some (.slice v1_a_funs x1.funs.length v1_c_funs) ∧ w'.cell? ⟨wB1.heap.size, 3, none⟩ = some (.slice v1_a_frames x1.frames.length v1_c_frames) ∧ w'.cell? ⟨wB1.heap.size, 4, none⟩ = some (.slice v1_a_out x1.out.length v1_c_out) ∧ w'.cell? ⟨wB1.heap.size, 5, none⟩ = some (.int .i64 x1.steps) ∧ w'.cell? ⟨wB1.heap.size, 6, none⟩ = some (.int .i64 x1.kind) ∧ w'.cell? ⟨wB1.heap.size, 7, none⟩ = some (.int .i64 x1.value.k) ∧ w'.cell? ⟨wB1.heap.size, 8, none⟩ = some (.int .i64 x1.value.n) ∧ w'.cell? ⟨wB1.heap.size, 9, none⟩ = some (.string x1.value.s) ∧ w'.cell? ⟨w.heap.size, 0, none⟩ = some (.slice m1_a_heap_tables x1.heap.tables.length m1_c_heap_tables) ∧ w'.cell? ⟨w.heap.size, 1, none⟩ = some (.slice m1_a_heap_cells x1.heap.cells.length m1_c_heap_cells) ∧ w'.cell? ⟨w.heap.size, 2, none⟩ = some (.slice m1_a_funs x1.funs.length m1_c_funs) ∧ w'.cell? ⟨w.heap.size, 3, none⟩ = some (.slice m1_a_frames x1.frames.length m1_c_frames) ∧ w'.cell? ⟨w.heap.size, 4, none⟩ = some (.slice m1_a_out x1.out.length m1_c_out) ∧ w'.cell? ⟨w.heap.size, 5, none⟩ = some (.int .i64 x1.steps) ∧ w'.cell? ⟨w.heap.size, 6, none⟩ = some (.int .i64 x1.kind) ∧ w'.cell? ⟨w.heap.size, 7, none⟩ = some (.int .i64 x1.value.k) ∧ w'.cell? ⟨w.heap.size, 8, none⟩ = some (.int .i64 x1.value.n) ∧ w'.cell? ⟨w.heap.size, 9, none⟩ = some (.string x1.value.s)) (first | (with_reducible assumption) | exact KEEP1.out _ (by with_reducible assumption)) (first | (go_at_call 11; (first | refine (hTO1.out _ (bel_of (by with_reducible assumption))).mono ?_ | refine (hTO1.out _ (by with_reducible assumption)).mono ?_); rintro e w' ⟨⟨t1, rfl, hZ1⟩, hb'⟩; (first | (have hq' := bel_step (by with_reducible assumption) hb') | (have hq' := bel_stepd (by with_reducible assumption) hb'))) | (go_at_call 15; (first | refine (hEQ1.out _ _ (by with_reducible assumption) hZ1).mono ?_ | refine (hEQ1.out _ _ (bel_of (by with_reducible assumption)) hZ1).mono ?_); rintro e w'' ⟨rfl, hb''⟩; (first | (have hq'' := bel_step (by with_reducible assumption) hb'') | (have hq'' := bel_stepd (by with_reducible assumption) hb''))))
        all_goals
          go_wp2_with fail
          go_ret
          exact ⟨rfl, HBK.out.trans ((hqI0.trans ((by first | (with_reducible assumption) | exact bel_of (by with_reducible assumption) : Below wI0.heap.size wI0 _).mono hqI0.size)).mono HBK.out.size)⟩
set_option maxRecDepth 100000 in
set_option maxHeartbeats 3200000 in
theorem exact_varof (xs0 : List ProtoD) (a0 : Option Addr) (ca0 : Nat) (x1 : VmD) (cs1 : List Value) (s2 : ByteArray) (w : World) (hn0 : xs0.length ≤ maxLen) (hS0 : RowAt 5 ProtoC w 0 w.heap.size xs0 a0) (hC1 : VmC w 0 w.heap.size x1 cs1) (_hs2 : s2.size ≤ maxLen) :
    Calls Try.prog 3 #[.slice a0 xs0.length ca0, .agg cs1.toArray, .string s2] w fun e w' => e = .returned (.bool true) ∧ Below w.heap.size w w' := by
  by_cases hsb : s2.size ≤ 1048576
  · exact exact_varof_small xs0 a0 ca0 x1 cs1 s2 w hsb hn0 hS0 hC1
  · have hsb' : (1048576 : Int) < (s2.size : Int) := by omega
    obtain ⟨ok, a_heap_tables, c_heap_tables, a_heap_cells, c_heap_cells, a_funs, c_funs, a_frames, c_frames, a_out, c_out, rfl, _⟩ := hC1
    go_enter Try.func3, Try.ntmps3
    go_wp2_with fail
    go_ret
    exact ⟨rfl, bel_alloc _ _⟩
end Go.Proofs.Ytnbkgpmibgdlmaa
