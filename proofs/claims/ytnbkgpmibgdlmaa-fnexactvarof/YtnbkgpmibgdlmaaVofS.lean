/- The names that can be named and their cells: the specification. -/
import Derived.Test.YtnbkgpmibgdlmaaVofE
import Derived.Test.YtnbkgpmibgdlmaaInW
namespace Go.Proofs.Ytnbkgpmibgdlmaa
open Go.RowKit

theorem info_strv : (Try.prog.info? 9).map (fun i => (i.zero, i.size, i.bytes)) = some (some (.string ByteArray.empty), 1, 16) := by kernel_rfl
theorem info_intv : (Try.prog.info? 3).map (fun i => (i.zero, i.size, i.bytes)) = some (some (.int .i64 0), 1, 8) := by kernel_rfl
theorem bel_dnv (w : World) (n : Nat) : Below w.heap.size w (w.drewN n) := ⟨rfl, rfl, rfl, Nat.le_refl _, fun _ _ => rfl⟩
theorem in_yesv (x a b : Int) (h : a ≤ x ∧ x ≤ b) : ∀ W : World, Calls Try.prog 61 #[.int .i64 x, .int .i64 a, .int .i64 b] W fun e w' => e = .returned (.bool true) ∧ w' = W := fun W => (in_yes x a b W h).mono fun _ _ q => ⟨q.1, q.2.symm⟩
theorem in_nov (x a b : Int) (h : ¬ (a ≤ x ∧ x ≤ b)) : ∀ W : World, Calls Try.prog 61 #[.int .i64 x, .int .i64 a, .int .i64 b] W fun e w' => e = .returned (.bool false) ∧ w' = W := fun W => (in_no x a b W (by omega)).mono fun _ _ q => ⟨q.1, q.2.symm⟩
set_option maxRecDepth 100000 in
set_option maxHeartbeats 16000000 in
theorem names_spec (ps : List ProtoD) (pa : Option Addr) (pcap : Nat) (f : FrameD) (fs : List Value) (nc lo hi : Nat) (w : World) (hh : hi ≤ w.heap.size) (hnc : nc ≤ maxLen) (hn : ps.length ≤ maxLen) (hb : ∀ p ∈ ps, p.names.length ≤ 1048576) (hS : RowAt 5 ProtoC w lo hi ps pa) (hF : FrameC w lo hi f fs) :
    Calls Try.prog 31 #[.slice pa ps.length pcap, .agg fs.toArray, .int .i64 (nc : Int)] w fun e w' => (∃ a c a2 c2, e = .returned (.tuple #[.slice a (scope ps f).length c, .slice a2 (scope ps f).length c2]) ∧ w'.ownsRow w.heap.size 9 1 (.slice a (scope ps f).length c) (scope ps f).length ((scope ps f).map (fun n => Value.string n.text)) ∧ w'.ownsRow w.heap.size 3 1 (.slice a2 (scope ps f).length c2) (scope ps f).length ((scope ps f).map (fun n => Value.int .i64 (cellI (cellAt nc f.slots n.slot))))) ∧ Below w.heap.size w w' := by
  obtain ⟨j0, hj0, hjz0, hjz1, hjz2⟩ := info_parts info_strv
  obtain ⟨m0, hm0, hmz0, hmz1, hmz2⟩ := info_parts info_intv
  obtain ⟨okf, f_a_slots, f_c_slots, f_a_ups, f_c_ups, f_a_stack, f_c_stack, rfl, f_l_slots, f_r_slots, f_l_ups, f_r_ups, f_l_stack, f_r_stack⟩ := hF
  clear f_r_ups f_r_stack
  unfold maxLen at hn hnc f_l_slots
  have wl : IntKind.i64.wrap ((ps.length : Int) - 1) = (ps.length : Int) - 1 := by rw [IntKind.wrap_i64]; omega
  have wsl : IntKind.i64.wrap ((f.slots.length : Int) - 1) = (f.slots.length : Int) - 1 := by rw [IntKind.wrap_i64]; omega
  have wnc : IntKind.i64.wrap ((nc : Int) - 1) = (nc : Int) - 1 := by rw [IntKind.wrap_i64]; omega
  have B0 := bel_alloc w (Obj.cells #[.int .i64 f.proto, .int .i64 f.pc, .slice f_a_slots f.slots.length f_c_slots, .slice f_a_ups f.ups.length f_c_ups, .slice f_a_stack f.stack.length f_c_stack, .bool f.guard] 76)
  have r0 := heap_alloc_new w (Obj.cells #[.int .i64 f.proto, .int .i64 f.pc, .slice f_a_slots f.slots.length f_c_slots, .slice f_a_ups f.ups.length f_c_ups, .slice f_a_stack f.stack.length f_c_stack, .bool f.guard] 76)
  have s0 := size_alloc w (Obj.cells #[.int .i64 f.proto, .int .i64 f.pc, .slice f_a_slots f.slots.length f_c_slots, .slice f_a_ups f.ups.length f_c_ups, .slice f_a_stack f.stack.length f_c_stack, .bool f.guard] 76)
  by_cases hp : 0 ≤ f.proto ∧ f.proto ≤ (ps.length : Int) - 1
  · obtain ⟨q, hq⟩ : ∃ q : Nat, f.proto = q := ⟨f.proto.toNat, by omega⟩
    have hql : q < ps.length := by omega
    obtain ⟨g', o', cp, rfl, _, hg', hP, _, hc'⟩ := hS q hql
    have hnl := hb _ (List.getElem_mem hql)
    have HV : scope ps f = (ps[q]).names.filter (inSc f.pc) := by
      unfold scope
      rw [if_pos (by omega), hq, Int.toNat_natCast, List.getElem?_eq_getElem hql]
    rw [HV]
    clear HV hb
    generalize ps[q] = p at *
    obtain ⟨okp, p_a_ups, p_c_ups, p_a_code, p_c_code, p_a_names, p_c_names, rfl, p_l_ups, p_r_ups, p_l_code, p_r_code, p_l_names, p_r_names⟩ := hP
    have y4 := hc' 4 (by decide)
    simp only [List.getElem?_cons_zero, List.getElem?_cons_succ] at y4
    have hgw' : g' < w.heap.size := by omega
    have mq : q * 5 = 5 * q := Nat.mul_comm _ _
    rw [hq] at hp B0 r0 s0
    have hIn := in_yesv (q : Int) 0 ((ps.length : Int) - 1) hp
    have hnames : ∀ k (hk : k < p.names.length), ∃ g o, p_a_names = some ⟨g, o, none⟩ ∧ ∀ W, Below w.heap.size w W → W.cell? ⟨g, o + 4 * k, none⟩ = some (.string (p.names[k]).text) ∧ W.cell? ⟨g, o + 4 * k + 1, none⟩ = some (.int .i64 (p.names[k]).slot) ∧ W.cell? ⟨g, o + 4 * k + 2, none⟩ = some (.int .i64 (p.names[k]).frm) ∧ W.cell? ⟨g, o + 4 * k + 3, none⟩ = some (.int .i64 (p.names[k]).upto) := by
      intro k hk
      obtain ⟨g, o, vs, e, _, hg, hv, _, hq⟩ := p_r_names k hk
      obtain ⟨_, rfl⟩ := hv
      refine ⟨g, o, e, fun W hW => ?_⟩
      have key := fun j (hj : j < 4) => (hW.cell (p := ⟨g, o + 4 * k + j, none⟩) (by show g < _; omega)).trans (hq j hj)
      exact ⟨key 0 (by decide), key 1 (by decide), key 2 (by decide), key 3 (by decide)⟩
    have hslots : ∀ m (hm : m < f.slots.length), ∃ g o, f_a_slots = some ⟨g, o, none⟩ ∧ ∀ W, Below w.heap.size w W → W.cell? ⟨g, o + m, none⟩ = some (.int .i64 f.slots[m]) := by
      intro m hm
      obtain ⟨g, o, vs, e, _, hg, hv, _, hq⟩ := f_r_slots m hm
      obtain ⟨_, rfl⟩ := hv
      have := hq 0 (by decide)
      simp only [List.getElem?_cons_zero, Nat.one_mul, Nat.add_zero] at this
      exact ⟨g, o, e, fun W hW => (hW.cell (p := ⟨g, o + m, none⟩) (by show g < _; omega)).trans this⟩
    clear hS hc' p_r_ups p_r_code p_r_names f_r_slots
    have y4a := fun A B C => ((rows3 w A B C).2.2.2.2.cell (p := ⟨g', o' + 5 * q + 4, none⟩) hgw').trans y4
    clear y4
    generalize p.names = L at *
    go_enter Try.func31, Try.ntmps31
    go_wp2_with fail
    refine (hIn _).mono ?_
    rintro _ _ ⟨rfl, rfl⟩
    go_wp2_with fail
    have sL : w.heap.size < (w.alloc (Obj.cells #[.int .i64 (q : Int), .int .i64 f.pc, .slice f_a_slots f.slots.length f_c_slots, .slice f_a_ups f.ups.length f_c_ups, .slice f_a_stack f.stack.length f_c_stack, .bool f.guard] 76)).heap.size := by omega
    generalize w.alloc (Obj.cells #[.int .i64 (q : Int), .int .i64 f.pc, .slice f_a_slots f.slots.length f_c_slots, .slice f_a_ups f.ups.length f_c_ups, .slice f_a_stack f.stack.length f_c_stack, .bool f.guard] 76) = w0 at *
    clear y4a
    have hPC : ∀ W, Below w0.heap.size w0 W → W.cell? ⟨w.heap.size, 1, none⟩ = some (.int .i64 f.pc) ∧ W.cell? ⟨w.heap.size, 2, none⟩ = some (.slice f_a_slots f.slots.length f_c_slots) := fun W h => by
      have r := (h.block w.heap.size sL).trans r0
      exact ⟨cell_of_row _ _ 1 _ _ _ r, cell_of_row _ _ 2 _ _ _ r⟩
    have bE : Below w0.heap.size w0 ((w0.alloc (.cells #[] 9)).alloc (.cells #[] 3)) := (bel_alloc w0 _).trans ((bel_alloc _ _).mono (by simp))
    have e1 : ((w0.alloc (.cells #[] 9)).alloc (.cells #[] 3)).ownsRow w0.heap.size 9 1 (.slice (some ⟨w.heap.size + 1, 0, none⟩) 0 0) 0 [] := by
      rw [show w.heap.size + 1 = w0.heap.size from s0.symm]
      exact (own_lit0 w0 w0.heap.size 9 1 (Nat.le_refl _)).alloc _
    have e2 : ((w0.alloc (.cells #[] 9)).alloc (.cells #[] 3)).ownsRow w0.heap.size 3 1 (.slice (some ⟨w.heap.size + 1 + 1, 0, none⟩) 0 0) 0 [] := by
      have := own_lit0 (w0.alloc (.cells #[] 9)) w0.heap.size 3 1 (by simp)
      rw [size_alloc] at this
      rw [show w.heap.size + 1 = w0.heap.size from s0.symm]
      exact this
    clear r0
    clear s0
    go_loopw [8, 9, 11] (fun v v2 i wr => ∃ (k : Nat) (b : Option Addr) (c : Nat) (b2 : Option Addr) (c2 : Nat), i = .int .i64 k ∧ k ≤ L.length ∧ v = .slice b ((L.take k).filter (inSc f.pc)).length c ∧ v2 = .slice b2 ((L.take k).filter (inSc f.pc)).length c2 ∧ wr.ownsRow w0.heap.size 9 1 (.slice b ((L.take k).filter (inSc f.pc)).length c) ((L.take k).filter (inSc f.pc)).length (((L.take k).filter (inSc f.pc)).map (fun n => Value.string n.text)) ∧ wr.ownsRow w0.heap.size 3 1 (.slice b2 ((L.take k).filter (inSc f.pc)).length c2) ((L.take k).filter (inSc f.pc)).length (((L.take k).filter (inSc f.pc)).map (fun n => Value.int .i64 (cellI (cellAt nc f.slots n.slot)))) ∧ (∀ g, (Value.slice b ((L.take k).filter (inSc f.pc)).length c).ownBlock = some g → ¬ (Value.slice b2 ((L.take k).filter (inSc f.pc)).length c2).ownBlock = some g) ∧ Below w0.heap.size w0 wr) (fun _ _ i _ => L.length - (intOf i).toNat)
    case atStart => exact ⟨0, _, _, _, _, rfl, Nat.zero_le _, rfl, rfl, e1, e2, fun g hg hg2 => by simp [Value.ownBlock] at hg hg2; omega, bE⟩
    case round =>
      obtain ⟨k, b, c, b2, c2, rfl, hk, rfl, rfl, own1, own2, hne, hB⟩ := hrel
      clear e1 e2 bE
      have hml : ((L.take k).filter (inSc f.pc)).length ≤ k := Nat.le_trans (List.length_filter_le _ _) (by simp; omega)
      by_cases hlt : k < L.length
      · obtain ⟨g, o, rfl, hx⟩ := hnames k hlt
        have hft := filter_take (inSc f.pc) L k hlt
        have HC : Hid (∀ W, Below wr.heap.size wr W → W.cell? ⟨w.heap.size, 1, none⟩ = some (.int .i64 f.pc) ∧ W.cell? ⟨w.heap.size, 2, none⟩ = some (.slice f_a_slots f.slots.length f_c_slots) ∧ W.cell? ⟨g, o + 4 * k, none⟩ = some (.string (L[k]).text) ∧ W.cell? ⟨g, o + 4 * k + 1, none⟩ = some (.int .i64 (L[k]).slot) ∧ W.cell? ⟨g, o + 4 * k + 2, none⟩ = some (.int .i64 (L[k]).frm) ∧ W.cell? ⟨g, o + 4 * k + 3, none⟩ = some (.int .i64 (L[k]).upto)) := fun W h => by
          have h0 := hB.trans (h.mono hB.size)
          exact ⟨(hPC W h0).1, (hPC W h0).2, hx W (B0.trans (h0.mono B0.size))⟩
        have HSL : Hid (∀ W, Below wr.heap.size wr W → Below w.heap.size w W) := fun W h => B0.trans ((hB.trans (h.mono hB.size)).mono B0.size)
        clear hnames hx hPC
        generalize (L.take k).filter (inSc f.pc) = M at *
        generalize L[k] = n at *
        have mk : k * 4 = 4 * k := Nat.mul_comm _ _
        have hki : (k : Int) < (L.length : Int) := by omega
        obtain ⟨p1, p2, x0, x1, x2, x3⟩ := HC.out wr (Below.refl _ _)
        by_cases h1 : n.frm ≤ f.pc
        · by_cases h2 : f.pc < n.upto
          · have hin : inSc f.pc n = true := decide_eq_true ⟨h1, h2⟩
            rw [if_pos hin] at hft
            have HFT : Hid ((L.take (k + 1)).filter (inSc f.pc) = M ++ [n]) := hft
            have hd1 : decide (f.pc < n.frm) = false := decide_eq_false (by omega)
            have hd2 : decide (n.upto ≤ f.pc) = false := decide_eq_false (by omega)
            clear hft hin
            go_wp2_with fail
            go_quiet (fail)
            have bq1 := bel_dnv wr nq
            generalize wr.drewN nq = wq1 at bq1 ⊢
            clear p1 p2 x0 x1 x2 x3
            obtain ⟨p1, p2, x0, x1, x2, x3⟩ := HC.out wq1 bq1
            by_cases hs : 0 ≤ n.slot ∧ n.slot ≤ (f.slots.length : Int) - 1
            · obtain ⟨m, hm⟩ : ∃ m : Nat, n.slot = m := ⟨n.slot.toNat, by omega⟩
              have hml2 : m < f.slots.length := by omega
              obtain ⟨gs, os, rfl, hsx⟩ := hslots m hml2
              have hct := cellAt_in (nc := nc) hml2
              rw [← hm] at hct
              have hi1 := in_yesv n.slot 0 ((f.slots.length : Int) - 1) hs
              rw [hm] at hi1 x1
              have xs1 := hsx wq1 (HSL.out wq1 bq1)
              have hmi : (m : Int) < (f.slots.length : Int) := by omega
              have hm0i : (0 : Int) ≤ (m : Int) := by omega
              generalize f.slots[m] = cv at *
              by_cases hc2 : 0 ≤ cv ∧ cv ≤ (nc : Int) - 1
              · have hi2 := in_yesv cv 0 ((nc : Int) - 1) hc2
                rw [if_pos (by omega)] at hct
                have hval : cellI (cellAt nc f.slots n.slot) = cv := by rw [hct]; show ((cv.toNat : Nat) : Int) = cv; omega
                clear hct hs
                go_wp2_with fail
                go_quiet (first | (go_at_call 61; with_reducible refine Calls.quiet_of_same (hi1 _)) | (go_at_call 61; with_reducible refine Calls.quiet_of_same (hi2 _)))
                have bq2 := bel_dnv wq1 nq
                generalize wq1.drewN nq = wq2 at bq2 ⊢
                clear p1 p2 x0 x1 x2 x3 xs1
                obtain ⟨p1, p2, x0, x1, x2, x3⟩ := HC.out wq2 (bq1.trans (bq2.mono bq1.size))
                rw [hm] at x1
                have xs1 := hsx wq2 (HSL.out wq2 (bq1.trans (bq2.mono bq1.size)))
                go_wp2_with fail
                go_quiet (fail)
                have bq3 := bel_dnv wq2 nq
                generalize wq2.drewN nq = wq3 at bq3 ⊢
                clear p1 p2 x0 x1 x2 x3 xs1
                obtain ⟨p1, p2, x0, x1, x2, x3⟩ := HC.out wq3 ((bq1.trans (bq2.mono bq1.size)).trans (bq3.mono (Nat.le_trans bq1.size bq2.size)))
                have own1a := (own_below own1 (((bq1.trans (bq2.mono bq1.size)).trans (bq3.mono (Nat.le_trans bq1.size bq2.size))))).alloc (.cells #[.string n.text] 9)
                have hzq := (((bq1.trans (bq2.mono bq1.size)).trans (bq3.mono (Nat.le_trans bq1.size bq2.size)))).size
                have hzr := hB.size
                go_wp2_with (at_builtin; go_must (refine wpList_append_any _ rfl _ _ 29 rfl w0.heap.size 9 j0 (.string ByteArray.empty) 1 16 Try.underlying29 hj0 hjz0 hjz1 hjz2 rfl (by decide) _ _ _ rfl own1a (some ⟨wq3.heap.size, 0, none⟩) 1 1 [.string n.text] rfl rfl (fun j u hu => ⟨_, rfl, World.news_of_block (heap_alloc_new _ _) j u hu⟩) (by intro u hu; simp at hu; subst hu; rfl) (by unfold maxLen; omega) (by omega) (by simp only [size_alloc]; omega) _ rfl ?_))
                intro b1' c1' wa ownA grA atA
                have own2a : wa.ownsRow w0.heap.size 3 1 (.slice b2 M.length c2) M.length (M.map (fun n => Value.int .i64 (cellI (cellAt nc f.slots n.slot)))) := own_keep ((own_below own2 (((bq1.trans (bq2.mono bq1.size)).trans (bq3.mono (Nat.le_trans bq1.size bq2.size))))).alloc (.cells #[.string n.text] 9)) (fun g cs hg hh => grA.block g (Array.getElem?_eq_some_iff.1 hh).1 (fun e => hne g e.symm hg))
                have hne1 : ∀ g, (Value.slice b1' (M.length + 1) c1').ownBlock = some g → ¬ (Value.slice b2 M.length c2).ownBlock = some g := by
                  intro g hg hg2
                  rcases atA with h | h
                  · exact hne g (h ▸ hg) hg2
                  · rw [h] at hg
                    have hq := (World.ownsRow.lt own2 g hg2).2
                    simp only [Option.some.injEq] at hg
                    omega
                have BA : Below w0.heap.size w0 wa := ((hB.trans ((((bq1.trans (bq2.mono bq1.size)).trans (bq3.mono (Nat.le_trans bq1.size bq2.size)))).mono hB.size)).alloc (by have := hB.size; omega) _).grown grA (by simp only [size_alloc]; have := hB.size; omega) (fun k hk => (World.ownsRow.lt own1a k hk).1)
                have hza := BA.size
                have own2b := own2a.alloc (.cells #[.int .i64 (cv)] 3)
                have ownAb := ownA
                clear own1a own2a grA atA
                go_wp2_with (at_builtin; go_must (refine wpList_append_any _ rfl _ _ 72 rfl w0.heap.size 3 m0 (.int .i64 0) 1 8 Try.underlying72 hm0 hmz0 hmz1 hmz2 rfl (by decide) _ _ _ rfl own2b (some ⟨wa.heap.size, 0, none⟩) 1 1 [.int .i64 (cv)] rfl rfl (fun j u hu => ⟨_, rfl, World.news_of_block (heap_alloc_new _ _) j u hu⟩) (by intro u hu; simp at hu; subst hu; rfl) (by unfold maxLen; omega) (by omega) (by simp only [size_alloc]; omega) _ rfl ?_))
                intro b2' c2' wb ownB grB atB
                have ownAc : wb.ownsRow w0.heap.size 9 1 (.slice b1' (M.length + 1) c1') (M.length + 1) (M.map (fun n => Value.string n.text) ++ [.string n.text]) := own_keep (ownAb.alloc (.cells #[.int .i64 (cv)] 3)) (fun g cs hg hh => grB.block g (Array.getElem?_eq_some_iff.1 hh).1 (fun e => hne1 g hg e.symm))
                have hne2 : ∀ g, (Value.slice b1' (M.length + 1) c1').ownBlock = some g → ¬ (Value.slice b2' (M.length + 1) c2').ownBlock = some g := by
                  intro g hg hg2
                  rcases atB with h | h
                  · exact hne1 g hg (h ▸ hg2)
                  · rw [h] at hg2
                    have hq := (World.ownsRow.lt ownAb g hg).2
                    simp only [Option.some.injEq] at hg2
                    omega
                have BB : Below w0.heap.size w0 wb := (BA.alloc hza _).grown grB (by simp only [size_alloc]; omega) (fun k hk => (World.ownsRow.lt own2b k hk).1)
                clear ownAb own2b grB atB ownA
                have HVL : Hid (cellI (cellAt nc f.slots n.slot) = (cv)) := hval
                clear hval
                go_wp2_with fail
                go_roundw
                case rel => exact ⟨k + 1, b1', c1', b2', c2', by go_num, by omega, by rw [HFT.out]; simp, by rw [HFT.out]; simp, by rw [HFT.out]; simpa using ownAc, by rw [HFT.out]; simpa [HVL.out] using ownB, by rw [HFT.out]; simpa using hne2, BB⟩
                case measure => simp [intOf]; omega
              · have hi2 := in_nov cv 0 ((nc : Int) - 1) hc2
                rw [if_neg (by omega)] at hct
                have hval : cellI (cellAt nc f.slots n.slot) = -1 := by rw [hct]; rfl
                clear hct hs
                go_wp2_with fail
                go_quiet (first | (go_at_call 61; with_reducible refine Calls.quiet_of_same (hi1 _)) | (go_at_call 61; with_reducible refine Calls.quiet_of_same (hi2 _)))
                have bq2 := bel_dnv wq1 nq
                generalize wq1.drewN nq = wq2 at bq2 ⊢
                clear p1 p2 x0 x1 x2 x3 xs1
                obtain ⟨p1, p2, x0, x1, x2, x3⟩ := HC.out wq2 (bq1.trans (bq2.mono bq1.size))
                have own1a := (own_below own1 ((bq1.trans (bq2.mono bq1.size)))).alloc (.cells #[.string n.text] 9)
                have hzq := ((bq1.trans (bq2.mono bq1.size))).size
                have hzr := hB.size
                go_wp2_with (at_builtin; go_must (refine wpList_append_any _ rfl _ _ 29 rfl w0.heap.size 9 j0 (.string ByteArray.empty) 1 16 Try.underlying29 hj0 hjz0 hjz1 hjz2 rfl (by decide) _ _ _ rfl own1a (some ⟨wq2.heap.size, 0, none⟩) 1 1 [.string n.text] rfl rfl (fun j u hu => ⟨_, rfl, World.news_of_block (heap_alloc_new _ _) j u hu⟩) (by intro u hu; simp at hu; subst hu; rfl) (by unfold maxLen; omega) (by omega) (by simp only [size_alloc]; omega) _ rfl ?_))
                intro b1' c1' wa ownA grA atA
                have own2a : wa.ownsRow w0.heap.size 3 1 (.slice b2 M.length c2) M.length (M.map (fun n => Value.int .i64 (cellI (cellAt nc f.slots n.slot)))) := own_keep ((own_below own2 ((bq1.trans (bq2.mono bq1.size)))).alloc (.cells #[.string n.text] 9)) (fun g cs hg hh => grA.block g (Array.getElem?_eq_some_iff.1 hh).1 (fun e => hne g e.symm hg))
                have hne1 : ∀ g, (Value.slice b1' (M.length + 1) c1').ownBlock = some g → ¬ (Value.slice b2 M.length c2).ownBlock = some g := by
                  intro g hg hg2
                  rcases atA with h | h
                  · exact hne g (h ▸ hg) hg2
                  · rw [h] at hg
                    have hq := (World.ownsRow.lt own2 g hg2).2
                    simp only [Option.some.injEq] at hg
                    omega
                have BA : Below w0.heap.size w0 wa := ((hB.trans (((bq1.trans (bq2.mono bq1.size))).mono hB.size)).alloc (by have := hB.size; omega) _).grown grA (by simp only [size_alloc]; have := hB.size; omega) (fun k hk => (World.ownsRow.lt own1a k hk).1)
                have hza := BA.size
                have own2b := own2a.alloc (.cells #[.int .i64 (-1)] 3)
                have ownAb := ownA
                clear own1a own2a grA atA
                go_wp2_with (at_builtin; go_must (refine wpList_append_any _ rfl _ _ 72 rfl w0.heap.size 3 m0 (.int .i64 0) 1 8 Try.underlying72 hm0 hmz0 hmz1 hmz2 rfl (by decide) _ _ _ rfl own2b (some ⟨wa.heap.size, 0, none⟩) 1 1 [.int .i64 (-1)] rfl rfl (fun j u hu => ⟨_, rfl, World.news_of_block (heap_alloc_new _ _) j u hu⟩) (by intro u hu; simp at hu; subst hu; rfl) (by unfold maxLen; omega) (by omega) (by simp only [size_alloc]; omega) _ rfl ?_))
                intro b2' c2' wb ownB grB atB
                have ownAc : wb.ownsRow w0.heap.size 9 1 (.slice b1' (M.length + 1) c1') (M.length + 1) (M.map (fun n => Value.string n.text) ++ [.string n.text]) := own_keep (ownAb.alloc (.cells #[.int .i64 (-1)] 3)) (fun g cs hg hh => grB.block g (Array.getElem?_eq_some_iff.1 hh).1 (fun e => hne1 g hg e.symm))
                have hne2 : ∀ g, (Value.slice b1' (M.length + 1) c1').ownBlock = some g → ¬ (Value.slice b2' (M.length + 1) c2').ownBlock = some g := by
                  intro g hg hg2
                  rcases atB with h | h
                  · exact hne1 g hg (h ▸ hg2)
                  · rw [h] at hg2
                    have hq := (World.ownsRow.lt ownAb g hg).2
                    simp only [Option.some.injEq] at hg2
                    omega
                have BB : Below w0.heap.size w0 wb := (BA.alloc hza _).grown grB (by simp only [size_alloc]; omega) (fun k hk => (World.ownsRow.lt own2b k hk).1)
                clear ownAb own2b grB atB ownA
                have HVL : Hid (cellI (cellAt nc f.slots n.slot) = (-1)) := hval
                clear hval
                go_wp2_with fail
                go_roundw
                case rel => exact ⟨k + 1, b1', c1', b2', c2', by go_num, by omega, by rw [HFT.out]; simp, by rw [HFT.out]; simp, by rw [HFT.out]; simpa using ownAc, by rw [HFT.out]; simpa [HVL.out] using ownB, by rw [HFT.out]; simpa using hne2, BB⟩
                case measure => simp [intOf]; omega
            · have hi1 := in_nov n.slot 0 ((f.slots.length : Int) - 1) hs
              have hval : cellI (cellAt nc f.slots n.slot) = -1 := by rw [cellAt_out (by omega)]; rfl
              go_wp2_with fail
              go_quiet (first | (go_at_call 61; with_reducible refine Calls.quiet_of_same (hi1 _)))
              have bq2 := bel_dnv wq1 nq
              generalize wq1.drewN nq = wq2 at bq2 ⊢
              clear p1 p2 x0 x1 x2 x3
              obtain ⟨p1, p2, x0, x1, x2, x3⟩ := HC.out wq2 (bq1.trans (bq2.mono bq1.size))
              have own1a := (own_below own1 ((bq1.trans (bq2.mono bq1.size)))).alloc (.cells #[.string n.text] 9)
              have hzq := ((bq1.trans (bq2.mono bq1.size))).size
              have hzr := hB.size
              go_wp2_with (at_builtin; go_must (refine wpList_append_any _ rfl _ _ 29 rfl w0.heap.size 9 j0 (.string ByteArray.empty) 1 16 Try.underlying29 hj0 hjz0 hjz1 hjz2 rfl (by decide) _ _ _ rfl own1a (some ⟨wq2.heap.size, 0, none⟩) 1 1 [.string n.text] rfl rfl (fun j u hu => ⟨_, rfl, World.news_of_block (heap_alloc_new _ _) j u hu⟩) (by intro u hu; simp at hu; subst hu; rfl) (by unfold maxLen; omega) (by omega) (by simp only [size_alloc]; omega) _ rfl ?_))
              intro b1' c1' wa ownA grA atA
              have own2a : wa.ownsRow w0.heap.size 3 1 (.slice b2 M.length c2) M.length (M.map (fun n => Value.int .i64 (cellI (cellAt nc f.slots n.slot)))) := own_keep ((own_below own2 ((bq1.trans (bq2.mono bq1.size)))).alloc (.cells #[.string n.text] 9)) (fun g cs hg hh => grA.block g (Array.getElem?_eq_some_iff.1 hh).1 (fun e => hne g e.symm hg))
              have hne1 : ∀ g, (Value.slice b1' (M.length + 1) c1').ownBlock = some g → ¬ (Value.slice b2 M.length c2).ownBlock = some g := by
                intro g hg hg2
                rcases atA with h | h
                · exact hne g (h ▸ hg) hg2
                · rw [h] at hg
                  have hq := (World.ownsRow.lt own2 g hg2).2
                  simp only [Option.some.injEq] at hg
                  omega
              have BA : Below w0.heap.size w0 wa := ((hB.trans (((bq1.trans (bq2.mono bq1.size))).mono hB.size)).alloc (by have := hB.size; omega) _).grown grA (by simp only [size_alloc]; have := hB.size; omega) (fun k hk => (World.ownsRow.lt own1a k hk).1)
              have hza := BA.size
              have own2b := own2a.alloc (.cells #[.int .i64 (-1)] 3)
              have ownAb := ownA
              clear own1a own2a grA atA
              go_wp2_with (at_builtin; go_must (refine wpList_append_any _ rfl _ _ 72 rfl w0.heap.size 3 m0 (.int .i64 0) 1 8 Try.underlying72 hm0 hmz0 hmz1 hmz2 rfl (by decide) _ _ _ rfl own2b (some ⟨wa.heap.size, 0, none⟩) 1 1 [.int .i64 (-1)] rfl rfl (fun j u hu => ⟨_, rfl, World.news_of_block (heap_alloc_new _ _) j u hu⟩) (by intro u hu; simp at hu; subst hu; rfl) (by unfold maxLen; omega) (by omega) (by simp only [size_alloc]; omega) _ rfl ?_))
              intro b2' c2' wb ownB grB atB
              have ownAc : wb.ownsRow w0.heap.size 9 1 (.slice b1' (M.length + 1) c1') (M.length + 1) (M.map (fun n => Value.string n.text) ++ [.string n.text]) := own_keep (ownAb.alloc (.cells #[.int .i64 (-1)] 3)) (fun g cs hg hh => grB.block g (Array.getElem?_eq_some_iff.1 hh).1 (fun e => hne1 g hg e.symm))
              have hne2 : ∀ g, (Value.slice b1' (M.length + 1) c1').ownBlock = some g → ¬ (Value.slice b2' (M.length + 1) c2').ownBlock = some g := by
                intro g hg hg2
                rcases atB with h | h
                · exact hne1 g hg (h ▸ hg2)
                · rw [h] at hg2
                  have hq := (World.ownsRow.lt ownAb g hg).2
                  simp only [Option.some.injEq] at hg2
                  omega
              have BB : Below w0.heap.size w0 wb := (BA.alloc hza _).grown grB (by simp only [size_alloc]; omega) (fun k hk => (World.ownsRow.lt own2b k hk).1)
              clear ownAb own2b grB atB ownA
              have HVL : Hid (cellI (cellAt nc f.slots n.slot) = (-1)) := hval
              clear hval
              go_wp2_with fail
              go_roundw
              case rel => exact ⟨k + 1, b1', c1', b2', c2', by go_num, by omega, by rw [HFT.out]; simp, by rw [HFT.out]; simp, by rw [HFT.out]; simpa using ownAc, by rw [HFT.out]; simpa [HVL.out] using ownB, by rw [HFT.out]; simpa using hne2, BB⟩
              case measure => simp [intOf]; omega
          · have hin : ¬ inSc f.pc n = true := by unfold inSc; simp; omega
            rw [if_neg hin, List.append_nil] at hft
            have HFT : Hid ((L.take (k + 1)).filter (inSc f.pc) = M) := hft
            have hd1 : decide (f.pc < n.frm) = false := decide_eq_false (by omega)
            have h2' : n.upto ≤ f.pc := by omega
            have OWN : Hid (wr.ownsRow w0.heap.size 9 1 (.slice b M.length c) M.length (M.map (fun n => Value.string n.text)) ∧ wr.ownsRow w0.heap.size 3 1 (.slice b2 M.length c2) M.length (M.map (fun n => Value.int .i64 (cellI (cellAt nc f.slots n.slot))))) := ⟨own1, own2⟩
            clear hft hin own1 own2
            go_wp2_with fail
            go_quiet (fail)
            have bq1 := bel_dnv wr nq
            generalize wr.drewN nq = wq1 at bq1 ⊢
            go_wp2_with fail
            go_roundw
            case rel => exact ⟨k + 1, b, c, b2, c2, by go_num, by omega, by rw [HFT.out], by rw [HFT.out], by rw [HFT.out]; exact own_below OWN.out.1 bq1, by rw [HFT.out]; exact own_below OWN.out.2 bq1, by rw [HFT.out]; exact hne, hB.trans (bq1.mono hB.size)⟩
            case measure => simp [intOf]; omega
        · have hin : ¬ inSc f.pc n = true := by unfold inSc; simp; omega
          rw [if_neg hin, List.append_nil] at hft
          have HFT : Hid ((L.take (k + 1)).filter (inSc f.pc) = M) := hft
          have h1' : f.pc < n.frm := by omega
          have OWN : Hid (wr.ownsRow w0.heap.size 9 1 (.slice b M.length c) M.length (M.map (fun n => Value.string n.text)) ∧ wr.ownsRow w0.heap.size 3 1 (.slice b2 M.length c2) M.length (M.map (fun n => Value.int .i64 (cellI (cellAt nc f.slots n.slot))))) := ⟨own1, own2⟩
          clear hft hin own1 own2
          go_wp2_with fail
          go_quiet (fail)
          have bq1 := bel_dnv wr nq
          generalize wr.drewN nq = wq1 at bq1 ⊢
          go_wp2_with fail
          go_roundw
          case rel => exact ⟨k + 1, b, c, b2, c2, by go_num, by omega, by rw [HFT.out], by rw [HFT.out], by rw [HFT.out]; exact own_below OWN.out.1 bq1, by rw [HFT.out]; exact own_below OWN.out.2 bq1, by rw [HFT.out]; exact hne, hB.trans (bq1.mono hB.size)⟩
          case measure => simp [intOf]; omega
      · obtain rfl : k = L.length := by omega
        rw [List.take_length] at own1 own2
        simp only [List.take_length]
        go_wp2_with fail
        exact bodyPost_ret (v := .tuple #[.slice b (L.filter (inSc f.pc)).length c, .slice b2 (L.filter (inSc f.pc)).length c2]) (by simp [results, Try.results31, go_sem]) rfl ⟨⟨b, c, b2, c2, rfl, ⟨own1.1, own1.2.imp id fun ⟨g, cap, cur, e1, e2, e3⟩ => ⟨g, cap, cur, e1, by omega, e3⟩⟩, ⟨own2.1, own2.2.imp id fun ⟨g, cap, cur, e1, e2, e3⟩ => ⟨g, cap, cur, e1, by omega, e3⟩⟩⟩, B0.trans (hB.mono B0.size)⟩
  · have HV : scope ps f = [] := by unfold scope; rw [if_neg (by omega)]
    have hIn := in_nov f.proto 0 ((ps.length : Int) - 1) hp
    rw [HV]
    have e1 : (((w.alloc (Obj.cells #[.int .i64 f.proto, .int .i64 f.pc, .slice f_a_slots f.slots.length f_c_slots, .slice f_a_ups f.ups.length f_c_ups, .slice f_a_stack f.stack.length f_c_stack, .bool f.guard] 76)).alloc (.cells #[] 9)).alloc (.cells #[] 3)).ownsRow w.heap.size 9 1 (.slice (some ⟨w.heap.size + 1, 0, none⟩) 0 0) 0 [] := by
      have := own_lit0 (w.alloc (Obj.cells #[.int .i64 f.proto, .int .i64 f.pc, .slice f_a_slots f.slots.length f_c_slots, .slice f_a_ups f.ups.length f_c_ups, .slice f_a_stack f.stack.length f_c_stack, .bool f.guard] 76)) w.heap.size 9 1 (by simp)
      rw [size_alloc] at this
      exact this.alloc _
    have e2 : (((w.alloc (Obj.cells #[.int .i64 f.proto, .int .i64 f.pc, .slice f_a_slots f.slots.length f_c_slots, .slice f_a_ups f.ups.length f_c_ups, .slice f_a_stack f.stack.length f_c_stack, .bool f.guard] 76)).alloc (.cells #[] 9)).alloc (.cells #[] 3)).ownsRow w.heap.size 3 1 (.slice (some ⟨w.heap.size + 1 + 1, 0, none⟩) 0 0) 0 [] := by
      have := own_lit0 ((w.alloc (Obj.cells #[.int .i64 f.proto, .int .i64 f.pc, .slice f_a_slots f.slots.length f_c_slots, .slice f_a_ups f.ups.length f_c_ups, .slice f_a_stack f.stack.length f_c_stack, .bool f.guard] 76)).alloc (.cells #[] 9)) w.heap.size 3 1 (by simp; omega)
      rw [size_alloc, size_alloc] at this
      exact this
    have BF := (rows3 w (Obj.cells #[.int .i64 f.proto, .int .i64 f.pc, .slice f_a_slots f.slots.length f_c_slots, .slice f_a_ups f.ups.length f_c_ups, .slice f_a_stack f.stack.length f_c_stack, .bool f.guard] 76) (.cells #[] 9) (.cells #[] 3)).2.2.2.2
    clear HV hS hb r0 s0 B0
    go_enter Try.func31, Try.ntmps31
    go_wp2_with fail
    refine (hIn _).mono ?_
    rintro _ _ ⟨rfl, rfl⟩
    go_wp2_with fail
    exact bodyPost_ret (v := .tuple #[.slice (some ⟨w.heap.size + 1, 0, none⟩) 0 0, .slice (some ⟨w.heap.size + 1 + 1, 0, none⟩) 0 0]) (by simp [results, Try.results31, go_sem]) rfl ⟨⟨_, _, _, _, rfl, e1, e2⟩, BF⟩
end Go.Proofs.Ytnbkgpmibgdlmaa
