/- What there is to see of a name: the program. -/
import Derived.Test.YtnbkgpmibgdlmaaVofJ
namespace Go.Proofs.Ytnbkgpmibgdlmaa
open Go.RowKit Go.Shelf

attribute [local go_sem] Oper.semAt_some

set_option maxRecDepth 100000 in
set_option maxHeartbeats 8000000 in
theorem variable_impl (ps : List ProtoD) (pa : Option Addr) (pcap : Nat) (x : VmD) (cs : List Value) (s : ByteArray) (lo hi : Nat) (w : World) (hh : hi ≤ w.heap.size) (hn : ps.length ≤ maxLen) (hb : ∀ p ∈ ps, p.names.length ≤ 1048576) (hS : RowAt 5 ProtoC w lo hi ps pa) (hC : VmC w lo hi x cs) :
    Calls Try.prog 36 #[.agg cs.toArray, .slice pa ps.length pcap, .string s] w fun e w' => e = .returned (.agg #[.int .i64 (vz (varV ps x s)).k, .int .i64 (vz (varV ps x s)).n, .string (vz (varV ps x s)).s, .bool (varV ps x s).isSome]) ∧ Below w.heap.size w w' := by
  have HF := fun W (h : Below w.heap.size w W) => frameAt_impl x cs 0 lo hi W (Nat.le_trans hh h.size) (by decide) (VmC_keeps.below hC h hh)
  have HV0 : ∀ f : FrameD, ∀ W, Below w.heap.size w W → ∀ fs, FrameC W lo hi f fs → ∀ n : NameD, Calls Try.prog 70 #[.agg cs.toArray, .agg fs.toArray, .agg #[.string n.text, .int .i64 n.slot, .int .i64 n.frm, .int .i64 n.upto]] W fun e w' => e = .returned (.tuple #[.agg #[.int .i64 (vz (seeName x f n)).k, .int .i64 (vz (seeName x f n)).n, .string (vz (seeName x f n)).s], .bool (seeName x f n).isSome]) ∧ Below W.heap.size W w' :=
    fun f W h fs hF n => valueOf_impl x cs f fs n lo hi W (Nat.le_trans hh h.size) (VmC_keeps.below hC h hh) hF
  have HSC : ∀ f : FrameD, ∀ W, Below w.heap.size w W → ∀ fs, FrameC W lo hi f fs → _ := fun f W h fs hF => scope_impl ps pa pcap f fs lo hi W (Nat.le_trans hh h.size) hn hb (hS.below ProtoC_keeps h hh) hF
  obtain ⟨ok, a_heap_tables, c_heap_tables, a_heap_cells, c_heap_cells, a_funs, c_funs, a_frames, c_frames, a_out, c_out, rfl, l_heap_tables, r_heap_tables, l_heap_cells, r_heap_cells, l_funs, r_funs, l_frames, r_frames, l_out, r_out⟩ := hC
  have hSL : ∀ f : FrameD, (scope ps f).length ≤ 1048576 := fun f => scope_len f hb
  clear r_heap_tables r_heap_cells r_funs r_frames r_out hS hb
  obtain ⟨rA, rB, rC, s3, B3⟩ := rows3 w (Obj.cells #[.slice a_heap_tables x.heap.tables.length c_heap_tables, .slice a_heap_cells x.heap.cells.length c_heap_cells, .slice a_funs x.funs.length c_funs, .slice a_frames x.frames.length c_frames, .slice a_out x.out.length c_out, .int .i64 x.steps, .int .i64 x.kind, .int .i64 x.value.k, .int .i64 x.value.n, .string x.value.s] 48) (Obj.cells #[.string s] 9) (Obj.cells #[.int .i64 0, .int .i64 0, .string ⟨#[]⟩, .bool false] 87)
  refine (callsIn_wide (n := 5)).1 ?_
  refine callsIn_of_wp_marks Try.func36 rfl trivial ?_ rfl
  simp only [Try.ntmps36, List.size_toArray, List.length_cons, List.length_nil, Nat.reduceAdd, Nat.reduceSub, Array.replicate_succ, Array.replicate_zero, List.push_toArray, List.append_toArray, List.nil_append, List.cons_append]
  gi_wp2_with fail
  generalize ((w.alloc (Obj.cells #[.slice a_heap_tables x.heap.tables.length c_heap_tables, .slice a_heap_cells x.heap.cells.length c_heap_cells, .slice a_funs x.funs.length c_funs, .slice a_frames x.frames.length c_frames, .slice a_out x.out.length c_out, .int .i64 x.steps, .int .i64 x.kind, .int .i64 x.value.k, .int .i64 x.value.n, .string x.value.s] 48)).alloc (Obj.cells #[.string s] 9)).alloc (Obj.cells #[.int .i64 0, .int .i64 0, .string ⟨#[]⟩, .bool false] 87) = W3 at *
  refine ⟨trivial, (callsIn_wide.2 (HF W3 B3)).mono ?_⟩
  rintro e w1 ⟨hfr, hb1⟩
  have B1 := B3.trans (hb1.mono B3.size)
  have z1 := hb1.size
  have hW3 : hi ≤ W3.heap.size := Nat.le_trans hh B3.size
  have BW3 := hb1
  have rA1 := (hb1.block w.heap.size (by omega)).trans rA
  have rB1 := (hb1.block (w.heap.size + 1) (by omega)).trans rB
  have rC1 := (hb1.block (w.heap.size + 1 + 1) (by omega)).trans rC
  have s1 : w.heap.size + 1 + 1 < w1.heap.size := by omega
  clear rA rB rC s3 hb1 z1 HF
  rcases hfr with ⟨hno, rfl⟩ | ⟨i, hil, fs, hi1, rfl, hFr⟩
  · have HV : Hid (varV ps x s = none) := by
      unfold varV
      have : x.frames = [] := List.eq_nil_of_length_eq_zero (by omega)
      simp [this, Hid]
    have c0 := cell_of_row _ _ 0 _ _ _ rC1
    have c1 := cell_of_row _ _ 1 _ _ _ rC1
    have c2 := cell_of_row _ _ 2 _ _ _ rC1
    have c3 := cell_of_row _ _ 3 _ _ _ rC1
    have fc0 := frozen_of_row _ _ 0 _ _ rC1
    have fc1 := frozen_of_row _ _ 1 _ _ rC1
    have fc2 := frozen_of_row _ _ 2 _ _ rC1
    have fc3 := frozen_of_row _ _ 3 _ _ rC1
    simp only [List.getElem?_toArray, List.getElem?_cons_zero, List.getElem?_cons_succ] at c0 c1 c2 c3
    clear rA1 rB1 rC1
    gi_wp2_with fail
    exact ⟨.agg #[.int .i64 0, .int .i64 0, .string ⟨#[]⟩, .bool false], by simp [results, Try.results36, go_sem, c0, c1, c2, c3, World.cell?_alloc_lt, s1], by rw [HV.out]; rfl, by repeat (first | (with_reducible exact B1) | (with_reducible refine Below.drew ?_) | (with_reducible refine Below.setCell ?_ (by first | omega | (simp <;> omega)) _) | (with_reducible refine Below.alloc ?_ (by first | omega | (simp only [World.size_setCell]; omega)) _))⟩
  · have HV : Hid (varV ps x s = match (scope ps x.frames[i]).reverse.find? (fun n => decide (n.text = s)) with | none => none | some n => seeName x x.frames[i] n) := by
      have : x.frames.getLast? = some x.frames[i] := by
        rw [List.getLast?_eq_getElem?, show x.frames.length - 1 = i by omega]
        exact List.getElem?_eq_getElem hil
      show varV ps x s = _
      unfold varV
      rw [this]
      rfl
    generalize x.frames[i] = f at *
    have SC := HSC f
    have HV1 := HV0 f
    clear HSC HV0 hi1 hil
    have hFr0 := hFr
    obtain ⟨okf, f_a_slots, f_c_slots, f_a_ups, f_c_ups, f_a_stack, f_c_stack, rfl, f_l_slots, f_r_slots, f_l_ups, f_r_ups, f_l_stack, f_r_stack⟩ := hFr
    have B2 := B1.trans ((bel_alloc w1 (Obj.cells #[.int .i64 f.proto, .int .i64 f.pc, .slice f_a_slots f.slots.length f_c_slots, .slice f_a_ups f.ups.length f_c_ups, .slice f_a_stack f.stack.length f_c_stack, .bool f.guard] 76)).mono B1.size)
    have r2 := heap_alloc_new w1 (Obj.cells #[.int .i64 f.proto, .int .i64 f.pc, .slice f_a_slots f.slots.length f_c_slots, .slice f_a_ups f.ups.length f_c_ups, .slice f_a_stack f.stack.length f_c_stack, .bool f.guard] 76)
    have sA := size_alloc w1 (Obj.cells #[.int .i64 f.proto, .int .i64 f.pc, .slice f_a_slots f.slots.length f_c_slots, .slice f_a_ups f.ups.length f_c_ups, .slice f_a_stack f.stack.length f_c_stack, .bool f.guard] 76)
    have BA2 := bel_alloc w1 (Obj.cells #[.int .i64 f.proto, .int .i64 f.pc, .slice f_a_slots f.slots.length f_c_slots, .slice f_a_ups f.ups.length f_c_ups, .slice f_a_stack f.stack.length f_c_stack, .bool f.guard] 76)
    gi_wp2_with fail
    generalize w1.alloc (Obj.cells #[.int .i64 f.proto, .int .i64 f.pc, .slice f_a_slots f.slots.length f_c_slots, .slice f_a_ups f.ups.length f_c_ups, .slice f_a_stack f.stack.length f_c_stack, .bool f.guard] 76) = w2 at *
    have hF2 : FrameC w2 lo hi f _ := FrameC_keeps.below hFr0 (BW3.trans (BA2.mono BW3.size)) hW3
    refine ⟨trivial, (callsIn_wide.2 (SC w2 B2 _ hF2)).mono ?_⟩
    rintro e w4 ⟨⟨na, nc, rfl, own⟩, hb4⟩
    gi_wp2_with fail
    refine ⟨trivial, (backward_in Fence.wide 4 trivial rfl _ _ _ _).mono ?_⟩
    rintro e w5 ⟨rfl, rfl⟩
    gi_wp2_with fail
    have BW4 := B2.trans (hb4.mono B2.size)
    have z4 := hb4.size
    have rA4 := (hb4.block w.heap.size (by omega)).trans ((BA2.block w.heap.size (by omega)).trans rA1)
    have rB4 := (hb4.block (w.heap.size + 1) (by omega)).trans ((BA2.block (w.heap.size + 1) (by omega)).trans rB1)
    have rC4 := (hb4.block (w.heap.size + 1 + 1) (by omega)).trans ((BA2.block (w.heap.size + 1 + 1) (by omega)).trans rC1)
    have rD4 := (hb4.block w1.heap.size (by omega)).trans r2
    have bS := bel_alloc w4 (.cells #[.slice na (scope ps f).length nc] 79)
    have rS := heap_alloc_new w4 (.cells #[.slice na (scope ps f).length nc] 79)
    have sS := size_alloc w4 (.cells #[.slice na (scope ps f).length nc] 79)
    have hNm : NmAt w4.heap.size w4 (.slice na (scope ps f).length nc) (scope ps f) := nm_at own (Nat.le_refl _)
    generalize w4.alloc (.cells #[.slice na (scope ps f).length nc] 79) = w5 at *
    have rA5 := (bS.block w.heap.size (by omega)).trans rA4
    have rB5 := (bS.block (w.heap.size + 1) (by omega)).trans rB4
    have rC5 := (bS.block (w.heap.size + 1 + 1) (by omega)).trans rC4
    have rD5 := (bS.block w1.heap.size (by omega)).trans rD4
    have BW5 := BW4.trans (bS.mono BW4.size)
    have hlen := hSL f
    have hNm5 : NmAt w5.heap.size w5 (.slice na (scope ps f).length nc) (scope ps f) := (hNm.below bS).imp id fun ⟨b, off, cap, e, hb, hc⟩ => ⟨b, off, cap, e, by omega, hc⟩
    have cS : w5.cell? ⟨w4.heap.size, 0, none⟩ = some (.slice na (scope ps f).length nc) := cell_of_row _ _ 0 _ _ _ rS
    generalize scope ps f = zs at *
    have hs5 : w4.heap.size < w5.heap.size := by omega
    have hs51 : w1.heap.size < w5.heap.size := by omega
    have hs50 : w.heap.size + 1 + 1 < w5.heap.size := by omega
    have hw2 : w1.heap.size ≤ w2.heap.size := by omega
    have hW31 : W3.heap.size ≤ w1.heap.size := BW3.size
    have HX1 := fun (W : World) (h : Below w5.heap.size w5 W) (n : NameD) => HV1 W (BW5.trans (h.mono BW5.size)) _ (FrameC_keeps.below hFr0 ((BW3.trans (BA2.mono BW3.size)).trans ((hb4.trans ((bS.trans (h.mono (by omega))).mono (by omega))).mono (by omega))) hW3) n
    clear rA4 rB4 rC4 rD4 rA1 rB1 rC1 r2 SC hNm rS own z4 sA BA2 sS
    refine wpIn_rangeFunc_ownH rfl (by decide) (gf := 96) (lb := #[.pointer (some ⟨w4.heap.size, 0, none⟩)]) rfl trivial (enters_of Try.func96 (by kernel_rfl) rfl)
      (backward_stops Fence.wide 4 trivial rfl (by decide) w4.heap.size w5.heap.size _ zs hlen w5 hs5 (Nat.le_refl _) cS hNm5) belowK_t (belowK_b (Nat.le_refl _)) (Below.refl _ _) (fun _ => rfl)
      (fun pre W => (∀ p ∈ pre, ¬ p.2.text = s) ∧ Below w5.heap.size w5 W)
      (fun c pre W => (c = .ret ∧ ∃ ini last, pre = ini ++ [last] ∧ (∀ p ∈ ini, ¬ p.2.text = s) ∧ last.2.text = s ∧ W.heap[w.heap.size + 1 + 1]? = some (.cells #[.int .i64 (vz (seeName x f last.2)).k, .int .i64 (vz (seeName x f last.2)).n, .string (vz (seeName x f last.2)).s, .bool (seeName x f last.2).isSome] 87 (0, 0))) ∧ Below w.heap.size w W)
      (OwnFrom.and (Own.from (fun s A B row hs hg hr => hs) _) (ownFrom_below (Nat.le_refl _) (Nat.le_refl _)))
      (fun c => OwnFrom.and (Own.from (fun s A B row hs hg hr => by obtain ⟨hc, ini, last, e1, e2, e3, e4⟩ := hs; exact ⟨hc, ini, last, e1, e2, e3, row_kept e4 hg hr⟩) _) (ownFrom_below (Nat.le_refl _) (by omega)))
      ⟨fun p hp => absurd hp (by simp), Below.refl _ _⟩
      (fun y a' W => ∃ Bx, w5.heap.size ≤ Bx ∧ W.heap[Bx]? = some (.cells #[.string y.2.text, .int .i64 y.2.slot, .int .i64 y.2.frm, .int .i64 y.2.upto] 131 (0, 0)) ∧ a' = { tmps := #[.agg #[.slice a_heap_tables x.heap.tables.length c_heap_tables, .slice a_heap_cells x.heap.cells.length c_heap_cells, .slice a_funs x.funs.length c_funs, .slice a_frames x.frames.length c_frames, .slice a_out x.out.length c_out, .int .i64 x.steps, .int .i64 x.kind, .int .i64 x.value.k, .int .i64 x.value.n, .string x.value.s], .slice pa ps.length pcap, .string s, .pointer (some ⟨w.heap.size, 0, none⟩), undef, .pointer (some ⟨w.heap.size + 1, 0, none⟩), .pointer (some ⟨w.heap.size + 1 + 1, 0, none⟩), .pointer (some ⟨w1.heap.size, 0, none⟩), .bool true, undef, .pointer (some ⟨Bx, 0, none⟩), undef, undef, .tuple #[.agg #[.int .i64 f.proto, .int .i64 f.pc, .slice f_a_slots f.slots.length f_c_slots, .slice f_a_ups f.ups.length f_c_ups, .slice f_a_stack f.stack.length f_c_stack, .bool f.guard], .bool true], .agg #[.slice a_heap_tables x.heap.tables.length c_heap_tables, .slice a_heap_cells x.heap.cells.length c_heap_cells, .slice a_funs x.funs.length c_funs, .slice a_frames x.frames.length c_frames, .slice a_out x.out.length c_out, .int .i64 x.steps, .int .i64 x.kind, .int .i64 x.value.k, .int .i64 x.value.n, .string x.value.s], .tuple #[.agg #[.int .i64 f.proto, .int .i64 f.pc, .slice f_a_slots f.slots.length f_c_slots, .slice f_a_ups f.ups.length f_c_ups, .slice f_a_stack f.stack.length f_c_stack, .bool f.guard], .bool true], .agg #[.int .i64 f.proto, .int .i64 f.pc, .slice f_a_slots f.slots.length f_c_slots, .slice f_a_ups f.ups.length f_c_ups, .slice f_a_stack f.stack.length f_c_stack, .bool f.guard], .bool true, .bool true, .bool false, undef, .agg #[.int .i64 f.proto, .int .i64 f.pc, .slice f_a_slots f.slots.length f_c_slots, .slice f_a_ups f.ups.length f_c_ups, .slice f_a_stack f.stack.length f_c_stack, .bool f.guard], .slice pa ps.length pcap, .slice na zs.length nc, .func (.func 96) #[] #[.pointer (some ⟨w4.heap.size, 0, none⟩)], .int .i64 (y.1 : Int), .agg #[.string y.2.text, .int .i64 y.2.slot, .int .i64 y.2.frm, .int .i64 y.2.upto], undef, undef, undef, undef, undef, undef, undef, undef, undef, undef, undef, undef, undef, undef, undef], defers := [] })
      (fun y a' _ X Y row hs hg hr => by obtain ⟨Bx, h1, h2, h3⟩ := hs; exact ⟨Bx, h1, row_kept h2 hg (fun r e => (hr r e).2), h3⟩)
      ?assign ?body ?done ?stop
    case assign =>
      rintro l pre y W K ⟨hp, hB⟩ hK
      gi_wp2
      exact hK _ _ ((KeepsOthers.alloc _ _).from _) ((Below.refl _ W).alloc hB.size _) ⟨hp, hB.alloc hB.size _⟩ ⟨W.heap.size, hB.size, heap_alloc_new W _, rfl⟩
    case body =>
      rintro l pre y a' W hl ⟨r, hr⟩ ⟨hp, hB⟩ ⟨Bx, hBx, bX, rfl⟩ hlt
      have rAW := (hB.block w.heap.size (by omega)).trans rA5
      have rBW := (hB.block (w.heap.size + 1) (by omega)).trans rB5
      have rCW := (hB.block (w.heap.size + 1 + 1) (by omega)).trans rC5
      have rDW := (hB.block w1.heap.size (by omega)).trans rD5
      have pa0 := cell_of_row _ _ 0 _ _ _ rAW
      have pa1 := cell_of_row _ _ 1 _ _ _ rAW
      have pa2 := cell_of_row _ _ 2 _ _ _ rAW
      have pa3 := cell_of_row _ _ 3 _ _ _ rAW
      have pa4 := cell_of_row _ _ 4 _ _ _ rAW
      have pa5 := cell_of_row _ _ 5 _ _ _ rAW
      have pa6 := cell_of_row _ _ 6 _ _ _ rAW
      have pa7 := cell_of_row _ _ 7 _ _ _ rAW
      have pa8 := cell_of_row _ _ 8 _ _ _ rAW
      have pa9 := cell_of_row _ _ 9 _ _ _ rAW
      simp only [List.getElem?_toArray, List.getElem?_cons_zero, List.getElem?_cons_succ] at pa0 pa1 pa2 pa3 pa4 pa5 pa6 pa7 pa8 pa9
      have pb0 := cell_of_row _ _ 0 _ _ _ rBW
      simp only [List.getElem?_toArray, List.getElem?_cons_zero] at pb0
      have pc0 := cell_of_row _ _ 0 _ _ _ rCW
      have pc1 := cell_of_row _ _ 1 _ _ _ rCW
      have pc2 := cell_of_row _ _ 2 _ _ _ rCW
      have pc3 := cell_of_row _ _ 3 _ _ _ rCW
      have fpc0 := frozen_of_row _ _ 0 _ _ rCW
      have fpc1 := frozen_of_row _ _ 1 _ _ rCW
      have fpc2 := frozen_of_row _ _ 2 _ _ rCW
      have fpc3 := frozen_of_row _ _ 3 _ _ rCW
      simp only [List.getElem?_toArray, List.getElem?_cons_zero, List.getElem?_cons_succ] at pc0 pc1 pc2 pc3
      have pd0 := cell_of_row _ _ 0 _ _ _ rDW
      have pd1 := cell_of_row _ _ 1 _ _ _ rDW
      have pd2 := cell_of_row _ _ 2 _ _ _ rDW
      have pd3 := cell_of_row _ _ 3 _ _ _ rDW
      have pd4 := cell_of_row _ _ 4 _ _ _ rDW
      have pd5 := cell_of_row _ _ 5 _ _ _ rDW
      simp only [List.getElem?_toArray, List.getElem?_cons_zero, List.getElem?_cons_succ] at pd0 pd1 pd2 pd3 pd4 pd5
      have px0 := cell_of_row _ _ 0 _ _ _ bX
      have px1 := cell_of_row _ _ 1 _ _ _ bX
      have px2 := cell_of_row _ _ 2 _ _ _ bX
      have px3 := cell_of_row _ _ 3 _ _ _ bX
      simp only [List.getElem?_toArray, List.getElem?_cons_zero, List.getElem?_cons_succ] at px0 px1 px2 px3
      have HX2 := HX1 W hB y.2
      have hWs := hB.size
      clear HX1 hNm5 cS rA5 rB5 rC5 rD5 HV1
      by_cases hx : y.2.text = s
      · have he : (y.2.text.toList == s.toList) = true := by rw [hx]; simp
        have HXX : Hid (y.2.text = s) := hx
        clear hx
        gi_wp2_with fail
        refine ⟨trivial, (CallsIn.inRound l (callsIn_wide.2 HX2)).mono ?_⟩
        rintro e W2 ⟨rfl, hb2⟩
        have rC2 := (hb2.block (w.heap.size + 1 + 1) (by omega)).trans rCW
        have hz2 := hb2.size
        have sC2 : w.heap.size + 1 + 1 < W2.heap.size := by omega
        have rC3 : ∀ O, (W2.alloc O).heap[w.heap.size + 1 + 1]? = _ := fun O => ((bel_alloc W2 O).block _ sC2).trans rC2
        have BF : Below w.heap.size w W2 := (BW5.trans (hB.mono BW5.size)).trans (hb2.mono (by omega))
        have BO : KeepsOthers W W2 := others_below hb2
        clear HX2 rAW rBW rCW rDW pa0 pa1 pa2 pa3 pa4 pa5 pa6 pa7 pa8 pa9 pb0 pd0 pd1 pd2 pd3 pd4 pd5 px0 px1 px2 px3 pc0 pc1 pc2 pc3 fpc0 fpc1 fpc2 fpc3
        generalize ho : seeName x f y.2 = o at *
        have HO : Hid (seeName x f y.2 = o) := ho
        clear ho
        have uc0 := cell_of_row _ _ 0 _ _ _ rC2
        have uf0 := frozen_of_row _ _ 0 _ _ rC2
        have uc1 := cell_of_row _ _ 1 _ _ _ rC2
        have uf1 := frozen_of_row _ _ 1 _ _ rC2
        have uc2 := cell_of_row _ _ 2 _ _ _ rC2
        have uf2 := frozen_of_row _ _ 2 _ _ rC2
        have uc3 := cell_of_row _ _ 3 _ _ _ rC2
        have uf3 := frozen_of_row _ _ 3 _ _ rC2
        simp only [List.getElem?_toArray, List.getElem?_cons_zero, List.getElem?_cons_succ] at uc0 uc1 uc2 uc3
        clear he rC3 HV
        have RC2 : Hid (W2.heap[w.heap.size + 1 + 1]? = _) := rC2
        clear rC2
        gi_wp2_with fail
        have RV := var_set (.int .i64 (vz o).k) (.int .i64 (vz o).n) (.string (vz o).s) (.bool o.isSome) RC2.out
        have sV : w.heap.size + 1 + 1 < ((((W2.setCell ⟨w.heap.size + 1 + 1, 0, none⟩ (.int .i64 (vz o).k)).setCell ⟨w.heap.size + 1 + 1, 1, none⟩ (.int .i64 (vz o).n)).setCell ⟨w.heap.size + 1 + 1, 2, none⟩ (.string (vz o).s)).setCell ⟨w.heap.size + 1 + 1, 3, none⟩ (.bool o.isSome)).heap.size := (Array.getElem?_eq_some_iff.1 RV).1
        have RW := ((bel_alloc ((((W2.setCell ⟨w.heap.size + 1 + 1, 0, none⟩ (.int .i64 (vz o).k)).setCell ⟨w.heap.size + 1 + 1, 1, none⟩ (.int .i64 (vz o).n)).setCell ⟨w.heap.size + 1 + 1, 2, none⟩ (.string (vz o).s)).setCell ⟨w.heap.size + 1 + 1, 3, none⟩ (.bool o.isSome)) (.cells #[.int .i64 (vz o).k, .int .i64 (vz o).n, .string (vz o).s] 36)).block _ sV).trans RV
        have BV : Below w.heap.size w ((((W2.setCell ⟨w.heap.size + 1 + 1, 0, none⟩ (.int .i64 (vz o).k)).setCell ⟨w.heap.size + 1 + 1, 1, none⟩ (.int .i64 (vz o).n)).setCell ⟨w.heap.size + 1 + 1, 2, none⟩ (.string (vz o).s)).setCell ⟨w.heap.size + 1 + 1, 3, none⟩ (.bool o.isSome)) := ((((BF.setCell (p := ⟨w.heap.size + 1 + 1, 0, none⟩) (by show w.heap.size ≤ w.heap.size + 1 + 1; omega) _).setCell (p := ⟨w.heap.size + 1 + 1, 1, none⟩) (by show w.heap.size ≤ w.heap.size + 1 + 1; omega) _).setCell (p := ⟨w.heap.size + 1 + 1, 2, none⟩) (by show w.heap.size ≤ w.heap.size + 1 + 1; omega) _).setCell (p := ⟨w.heap.size + 1 + 1, 3, none⟩) (by show w.heap.size ≤ w.heap.size + 1 + 1; omega) _)
        refine ⟨(((((BO.trans (KeepsOthers.setCell _ ⟨w.heap.size + 1 + 1, 0, none⟩ (.int .i64 (vz o).k))).trans (KeepsOthers.setCell _ ⟨w.heap.size + 1 + 1, 1, none⟩ (.int .i64 (vz o).n))).trans (KeepsOthers.setCell _ ⟨w.heap.size + 1 + 1, 2, none⟩ (.string (vz o).s))).trans (KeepsOthers.setCell _ ⟨w.heap.size + 1 + 1, 3, none⟩ (.bool o.isSome))).trans (KeepsOthers.alloc _ _)).from _, ⟨⟨rfl, pre, y, rfl, hp, HXX.out, ?_⟩, BV.alloc BV.size _⟩⟩
        rw [HO.out]
        exact RW
      · have he : (y.2.text.toList == s.toList) = false := beq_eq_false_iff_ne.2 (fun e => hx (tl_injv e))
        gi_wp2_with fail
        exact ⟨KeepsFrom.refl _ _, Below.refl _ _, fun p hp' => (List.mem_append.1 hp').elim (hp p) (fun e => by rw [List.mem_singleton] at e; subst e; exact hx), hB⟩
    case done =>
      rintro D ys W hD rfl ⟨hne, hB⟩ hK
      have rCW := (hB.block (w.heap.size + 1 + 1) (by omega)).trans rC5
      have pc0 := cell_of_row _ _ 0 _ _ _ rCW
      have pc1 := cell_of_row _ _ 1 _ _ _ rCW
      have pc2 := cell_of_row _ _ 2 _ _ _ rCW
      have pc3 := cell_of_row _ _ 3 _ _ _ rCW
      have fpc0 := frozen_of_row _ _ 0 _ _ rCW
      have fpc1 := frozen_of_row _ _ 1 _ _ rCW
      have fpc2 := frozen_of_row _ _ 2 _ _ rCW
      have fpc3 := frozen_of_row _ _ 3 _ _ rCW
      simp only [List.getElem?_toArray, List.getElem?_cons_zero, List.getElem?_cons_succ] at pc0 pc1 pc2 pc3
      have HVN : Hid (varV ps x s = none) := by show varV ps x s = none; rw [HV.out, find_none hne]
      gi_wp2
      have hK' := ((((KeepsOthers.setCell W ⟨w.heap.size + 1 + 1, 0, none⟩ (.int .i64 0)).trans (KeepsOthers.setCell _ ⟨w.heap.size + 1 + 1, 1, none⟩ (.int .i64 0))).trans (KeepsOthers.setCell _ ⟨w.heap.size + 1 + 1, 2, none⟩ (.string ⟨#[]⟩))).trans (KeepsOthers.setCell _ ⟨w.heap.size + 1 + 1, 3, none⟩ (.bool false))).same D _ hK rfl
      have rV := row_kept (var_set (.int .i64 0) (.int .i64 0) (.string ⟨#[]⟩) (.bool false) rCW) (grownBy_putObj' _ D (.deferred none)) (fun r e => by cases e; exact ⟨_, hK', rfl⟩)
      have w0' := cell_of_row _ _ 0 _ _ _ rV
      have w1' := cell_of_row _ _ 1 _ _ _ rV
      have w2' := cell_of_row _ _ 2 _ _ _ rV
      have w3' := cell_of_row _ _ 3 _ _ _ rV
      simp only [List.getElem?_toArray, List.getElem?_cons_zero, List.getElem?_cons_succ] at w0' w1' w2' w3'
      refine ⟨by simp, .inl ⟨_, _, rfl, run_takeDeferred hK', ?_⟩⟩
      refine ⟨.agg #[.int .i64 0, .int .i64 0, .string ⟨#[]⟩, .bool false], by simp [results, Try.results36, go_sem, w0', w1', w2', w3'], by rw [HVN.out]; rfl, ?_⟩
      have BB : Below w.heap.size w ((((W.setCell ⟨w.heap.size + 1 + 1, 0, none⟩ (.int .i64 0)).setCell ⟨w.heap.size + 1 + 1, 1, none⟩ (.int .i64 0)).setCell ⟨w.heap.size + 1 + 1, 2, none⟩ (.string ⟨#[]⟩)).setCell ⟨w.heap.size + 1 + 1, 3, none⟩ (.bool false)) := (((((BW5.trans (hB.mono BW5.size)).setCell (p := ⟨w.heap.size + 1 + 1, 0, none⟩) (by show w.heap.size ≤ w.heap.size + 1 + 1; omega) _).setCell (p := ⟨w.heap.size + 1 + 1, 1, none⟩) (by show w.heap.size ≤ w.heap.size + 1 + 1; omega) _).setCell (p := ⟨w.heap.size + 1 + 1, 2, none⟩) (by show w.heap.size ≤ w.heap.size + 1 + 1; omega) _).setCell (p := ⟨w.heap.size + 1 + 1, 3, none⟩) (by show w.heap.size ≤ w.heap.size + 1 + 1; omega) _)
      exact BB.trans (belowK_b (w := w) (Nat.le_refl _) _ D _ _ (by omega) hK' rfl rfl)
    case stop =>
      rintro D c pre W hD ⟨k, hk, rfl⟩ ⟨⟨rfl, ini, last, e1, e2, e3, hrow⟩, hB⟩ hK
      have HVS : Hid (varV ps x s = seeName x f last.2) := by show varV ps x s = _; rw [HV.out, find_some hk e1 e2 e3]
      gi_wp2
      have rV := row_kept hrow (grownBy_putObj' _ D (.deferred none)) (fun r e => by cases e; exact ⟨_, hK, rfl⟩)
      have w0' := cell_of_row _ _ 0 _ _ _ rV
      have w1' := cell_of_row _ _ 1 _ _ _ rV
      have w2' := cell_of_row _ _ 2 _ _ _ rV
      have w3' := cell_of_row _ _ 3 _ _ _ rV
      simp only [List.getElem?_toArray, List.getElem?_cons_zero, List.getElem?_cons_succ] at w0' w1' w2' w3'
      refine ⟨by simp, .inl ⟨_, _, rfl, run_takeDeferred hK, ?_⟩⟩
      refine ⟨.agg #[.int .i64 (vz (seeName x f last.2)).k, .int .i64 (vz (seeName x f last.2)).n, .string (vz (seeName x f last.2)).s, .bool (seeName x f last.2).isSome], by simp [results, Try.results36, go_sem, w0', w1', w2', w3'], by rw [HVS.out], ?_⟩
      exact hB.trans (belowK_b (w := w) (Nat.le_refl _) W D _ _ (by omega) hK rfl rfl)
end Go.Proofs.Ytnbkgpmibgdlmaa
