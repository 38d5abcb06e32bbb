/- The names that can be named in a frame: the program. -/
import Derived.Test.YtnbkgpmibgdlmaaVofD
import Derived.Test.YtnbkgpmibgdlmaaAppA
namespace Go.Proofs.Ytnbkgpmibgdlmaa
open Go.RowKit

theorem info_nmv : (Try.prog.info? 131).map (fun i => (i.zero, i.size, i.bytes)) = some (some (.agg #[.string ByteArray.empty, .int .i64 0, .int .i64 0, .int .i64 0]), 4, 40) := by kernel_rfl
def NameD.cs (n : NameD) : List Value := [.string n.text, .int .i64 n.slot, .int .i64 n.frm, .int .i64 n.upto]
def nmCells (l : List NameD) : List Value := l.flatMap NameD.cs
theorem nmCells_snoc (l : List NameD) (n : NameD) : nmCells (l ++ [n]) = nmCells l ++ n.cs := by simp [nmCells]
theorem filter_take (P : NameD → Bool) (l : List NameD) (k : Nat) (h : k < l.length) : (l.take (k + 1)).filter P = (l.take k).filter P ++ (if P l[k] = true then [l[k]] else []) := by
  rw [List.take_succ_eq_append_getElem h, List.filter_append]
  congr 1
  simp [List.filter_cons]
set_option maxRecDepth 100000 in
set_option maxHeartbeats 3200000 in
theorem scope_impl (ps : List ProtoD) (pa : Option Addr) (pcap : Nat) (f : FrameD) (fs : List Value) (lo hi : Nat) (w : World) (hh : hi ≤ w.heap.size) (hn : ps.length ≤ maxLen) (hb : ∀ p ∈ ps, p.names.length ≤ 1048576) (hS : RowAt 5 ProtoC w lo hi ps pa) (hF : FrameC w lo hi f fs) :
    Calls Try.prog 69 #[.agg fs.toArray, .slice pa ps.length pcap] w fun e w' => (∃ a c, e = .returned (.slice a (scope ps f).length c) ∧ w'.ownsRow w.heap.size 131 4 (.slice a (scope ps f).length c) (scope ps f).length (nmCells (scope ps f))) ∧ Below w.heap.size w w' := by
  obtain ⟨i0, hi0, hz0, hz1, hz2⟩ := info_parts info_nmv
  obtain ⟨okf, f_a_slots, f_c_slots, f_a_ups, f_c_ups, f_a_stack, f_c_stack, rfl, f_l_slots, f_r_slots, f_l_ups, f_r_ups, f_l_stack, f_r_stack⟩ := hF
  clear f_r_slots f_r_ups f_r_stack
  unfold maxLen at hn
  have wl : IntKind.i64.wrap ((ps.length : Int) - 1) = (ps.length : Int) - 1 := by rw [IntKind.wrap_i64]; omega
  have B0 := bel_alloc w (Obj.cells #[.int .i64 f.proto, .int .i64 f.pc, .slice f_a_slots f.slots.length f_c_slots, .slice f_a_ups f.ups.length f_c_ups, .slice f_a_stack f.stack.length f_c_stack, .bool f.guard] 76)
  have r0 := heap_alloc_new w (Obj.cells #[.int .i64 f.proto, .int .i64 f.pc, .slice f_a_slots f.slots.length f_c_slots, .slice f_a_ups f.ups.length f_c_ups, .slice f_a_stack f.stack.length f_c_stack, .bool f.guard] 76)
  have s0 := size_alloc w (Obj.cells #[.int .i64 f.proto, .int .i64 f.pc, .slice f_a_slots f.slots.length f_c_slots, .slice f_a_ups f.ups.length f_c_ups, .slice f_a_stack f.stack.length f_c_stack, .bool f.guard] 76)
  by_cases hp : 0 ≤ f.proto ∧ f.proto ≤ (ps.length : Int) - 1
  · obtain ⟨q, hq⟩ : ∃ q : Nat, f.proto = q := ⟨f.proto.toNat, by omega⟩
    have hql : q < ps.length := by omega
    obtain ⟨g', o', cp, rfl, _, hg', hP, _, hc'⟩ := hS q hql
    have hnl := hb _ (List.getElem_mem hql)
    have HV : scope ps f = (ps[q]).names.filter (inSc f.pc) := by
      unfold scope
      rw [if_pos (by omega), hq, Int.toNat_natCast, List.getElem?_eq_getElem hql]
    rw [HV]
    clear HV hb
    generalize ps[q] = p at *
    obtain ⟨okp, p_a_ups, p_c_ups, p_a_code, p_c_code, p_a_names, p_c_names, rfl, p_l_ups, p_r_ups, p_l_code, p_r_code, p_l_names, p_r_names⟩ := hP
    have y4 := hc' 4 (by decide)
    simp only [List.getElem?_cons_zero, List.getElem?_cons_succ] at y4
    have hgw' : g' < w.heap.size := by omega
    have mq : q * 5 = 5 * q := Nat.mul_comm _ _
    have u4 : ∀ A : Obj, (w.alloc A).cell? ⟨g', o' + 5 * q + 4, none⟩ = _ := fun A => ((bel_alloc w A).cell (p := ⟨g', o' + 5 * q + 4, none⟩) hgw').trans y4
    rw [hq] at hp
    have h1 : ∀ W, Calls Try.prog 95 #[.int .i64 (q : Int), .int .i64 0, .int .i64 ((ps.length : Int) - 1)] W fun e w' => e = .returned (.bool true) ∧ w' = W := fun W => (in_impl q 0 ((ps.length : Int) - 1) W).mono fun e w' h => by rw [show inR q 0 ((ps.length : Int) - 1) = true from decide_eq_true hp] at h; exact ⟨h.1, h.2.symm⟩
    have hnames : ∀ k (hk : k < p.names.length), ∃ g o, p_a_names = some ⟨g, o, none⟩ ∧ ∀ W, Below w.heap.size w W → W.cell? ⟨g, o + 4 * k, none⟩ = some (.string (p.names[k]).text) ∧ W.cell? ⟨g, o + 4 * k + 1, none⟩ = some (.int .i64 (p.names[k]).slot) ∧ W.cell? ⟨g, o + 4 * k + 2, none⟩ = some (.int .i64 (p.names[k]).frm) ∧ W.cell? ⟨g, o + 4 * k + 3, none⟩ = some (.int .i64 (p.names[k]).upto) := by
      intro k hk
      obtain ⟨g, o, vs, e, _, hg, hv, _, hq⟩ := p_r_names k hk
      obtain ⟨_, rfl⟩ := hv
      refine ⟨g, o, e, fun W hW => ?_⟩
      have key := fun j (hj : j < 4) => (hW.cell (p := ⟨g, o + 4 * k + j, none⟩) (by show g < _; omega)).trans (hq j hj)
      exact ⟨key 0 (by decide), key 1 (by decide), key 2 (by decide), key 3 (by decide)⟩
    clear hS hc' y4 p_r_ups p_r_code p_r_names
    rw [hq] at B0 r0 s0
    generalize p.names = L at *
    have pc0 := cell_of_row _ _ 1 _ _ _ r0
    simp only [List.getElem?_toArray, List.getElem?_cons_zero, List.getElem?_cons_succ] at pc0
    have sL : w.heap.size < (w.alloc (Obj.cells #[.int .i64 (q : Int), .int .i64 f.pc, .slice f_a_slots f.slots.length f_c_slots, .slice f_a_ups f.ups.length f_c_ups, .slice f_a_stack f.stack.length f_c_stack, .bool f.guard] 76)).heap.size := by omega
    go_enter Try.func69, Try.ntmps69
    go_wp2_with fail
    refine (h1 _).mono ?_
    rintro _ _ ⟨rfl, rfl⟩
    go_wp2_with fail
    generalize w.alloc (Obj.cells #[.int .i64 (q : Int), .int .i64 f.pc, .slice f_a_slots f.slots.length f_c_slots, .slice f_a_ups f.ups.length f_c_ups, .slice f_a_stack f.stack.length f_c_stack, .bool f.guard] 76) = w0 at *
    clear s0 u4
    have hPC : ∀ W, Below w0.heap.size w0 W → W.cell? ⟨w.heap.size, 1, none⟩ = some (.int .i64 f.pc) := fun W h => (h.cell (p := ⟨w.heap.size, 1, none⟩) sL).trans pc0
    clear pc0 r0
    go_loopw [5, 22] (fun v x wr => ∃ (k : Nat) (b : Option Addr) (c : Nat), x = .int .i64 k ∧ k ≤ L.length ∧ v = .slice b ((L.take k).filter (inSc f.pc)).length c ∧ wr.ownsRow w0.heap.size 131 4 (.slice b ((L.take k).filter (inSc f.pc)).length c) ((L.take k).filter (inSc f.pc)).length (nmCells ((L.take k).filter (inSc f.pc))) ∧ Below w0.heap.size w0 wr) (fun _ x _ => L.length - (intOf x).toNat)
    case atStart => exact ⟨0, none, 0, rfl, Nat.zero_le _, rfl, ⟨rfl, .inl ⟨rfl, rfl⟩⟩, Below.refl _ _⟩
    case round =>
      obtain ⟨k, b, c, rfl, hk, rfl, own, hB⟩ := hrel
      have hpc := hPC wr hB
      have hPW : w.heap.size < wr.heap.size := Nat.lt_of_lt_of_le sL hB.size
      have hpcA : ∀ A, (wr.alloc A).cell? ⟨w.heap.size, 1, none⟩ = some (.int .i64 f.pc) := fun A => ((bel_alloc wr A).cell (p := ⟨w.heap.size, 1, none⟩) hPW).trans hpc
      have hml : ((L.take k).filter (inSc f.pc)).length ≤ k := Nat.le_trans (List.length_filter_le _ _) (by simp; omega)
      by_cases hlt : k < L.length
      · obtain ⟨g, o, rfl, hx⟩ := hnames k hlt
        obtain ⟨x0, x1, x2, x3⟩ := hx wr (B0.trans (hB.mono B0.size))
        have hft := filter_take (inSc f.pc) L k hlt
        clear hnames hx
        generalize (L.take k).filter (inSc f.pc) = M at *
        generalize L[k] = n at *
        have mk : k * 4 = 4 * k := Nat.mul_comm _ _
        by_cases h1 : n.frm ≤ f.pc
        · by_cases h2 : f.pc < n.upto
          · have hin : inSc f.pc n = true := decide_eq_true ⟨h1, h2⟩
            rw [if_pos hin] at hft
            have HFT : Hid ((L.take (k + 1)).filter (inSc f.pc) = M ++ [n]) := hft
            have ownA := World.ownsRow.alloc own (.cells #[.string n.text, .int .i64 n.slot, .int .i64 n.frm, .int .i64 n.upto] 131)
            have ownB := World.ownsRow.alloc ownA (.cells #[.string n.text, .int .i64 n.slot, .int .i64 n.frm, .int .i64 n.upto] 131)
            have hs2 := hB.size
            clear hft hin own ownA
            go_wp2_with (at_builtin; go_must (refine wpList_append_any _ rfl _ _ 79 rfl w0.heap.size 131 i0 (.agg #[.string ByteArray.empty, .int .i64 0, .int .i64 0, .int .i64 0]) 4 40 Try.underlying79 hi0 hz0 hz1 hz2 rfl (by decide) _ _ _ rfl ownB (some ⟨(wr.alloc (.cells #[.string n.text, .int .i64 n.slot, .int .i64 n.frm, .int .i64 n.upto] 131)).heap.size, 0, none⟩) 1 1 n.cs (by rw [size_alloc]; rfl) rfl (fun j u hu => ⟨_, rfl, World.news_of_block (heap_alloc_new _ _) j u hu⟩) (by intro u hu; simp [NameD.cs] at hu; rcases hu with rfl | rfl | rfl | rfl <;> rfl) (by unfold maxLen; omega) (by omega) (by simp only [size_alloc]; omega) _ rfl ?_))
            intro b1 c1 w1 own1 gr1 _
            have B1 : Below w0.heap.size w0 w1 := by
              have q1 : Below w0.heap.size w0 ((wr.alloc (.cells #[.string n.text, .int .i64 n.slot, .int .i64 n.frm, .int .i64 n.upto] 131)).alloc (.cells #[.string n.text, .int .i64 n.slot, .int .i64 n.frm, .int .i64 n.upto] 131)) := (hB.alloc hs2 _).alloc (by simp only [size_alloc]; omega) _
              exact q1.grown gr1 (by simp only [size_alloc]; omega) (fun k hk => (World.ownsRow.lt ownB k hk).1)
            clear ownB gr1
            go_wp2_with fail
            go_roundw
            case rel => exact ⟨k + 1, b1, c1, by go_num, by omega, by rw [HFT.out]; simp, by rw [HFT.out, nmCells_snoc]; simpa using own1, B1⟩
            case measure => simp [intOf]; omega
          · have hin : ¬ inSc f.pc n = true := by unfold inSc; simp; omega
            rw [if_neg hin, List.append_nil] at hft
            have HFT : Hid ((L.take (k + 1)).filter (inSc f.pc) = M) := hft
            have h2' : n.upto ≤ f.pc := by omega
            have OWN : Hid (wr.ownsRow w0.heap.size 131 4 (.slice b M.length c) M.length (nmCells M)) := own
            clear hft hin own
            go_wp2_with fail
            go_roundw
            case rel => exact ⟨k + 1, b, c, by go_num, by omega, by rw [HFT.out], by rw [HFT.out]; exact World.ownsRow.alloc OWN.out _, hB.alloc hB.size _⟩
            case measure => simp [intOf]; omega
        · have hin : ¬ inSc f.pc n = true := by unfold inSc; simp; omega
          rw [if_neg hin, List.append_nil] at hft
          have HFT : Hid ((L.take (k + 1)).filter (inSc f.pc) = M) := hft
          have h1' : f.pc < n.frm := by omega
          have OWN : Hid (wr.ownsRow w0.heap.size 131 4 (.slice b M.length c) M.length (nmCells M)) := own
          clear hft hin own
          go_wp2_with fail
          go_roundw
          case rel => exact ⟨k + 1, b, c, by go_num, by omega, by rw [HFT.out], by rw [HFT.out]; exact World.ownsRow.alloc OWN.out _, hB.alloc hB.size _⟩
          case measure => simp [intOf]; omega
      · obtain rfl : k = L.length := by omega
        rw [List.take_length] at own
        simp only [List.take_length]
        go_wp2_with fail
        go_ret
        exact ⟨⟨b, c, rfl, ⟨own.1, own.2.imp id fun ⟨g, cap, cur, e1, e2, e3⟩ => ⟨g, cap, cur, e1, by omega, e3⟩⟩⟩, B0.trans (hB.mono B0.size)⟩
  · have HV : scope ps f = [] := by unfold scope; rw [if_neg (by omega)]
    have h1 : ∀ W, Calls Try.prog 95 #[.int .i64 f.proto, .int .i64 0, .int .i64 ((ps.length : Int) - 1)] W fun e w' => e = .returned (.bool false) ∧ w' = W := fun W => (in_impl f.proto 0 ((ps.length : Int) - 1) W).mono fun e w' h => by rw [show inR f.proto 0 ((ps.length : Int) - 1) = false from decide_eq_false hp] at h; exact ⟨h.1, h.2.symm⟩
    rw [HV]
    clear HV hS hb r0 s0
    go_enter Try.func69, Try.ntmps69
    go_wp2_with fail
    refine (h1 _).mono ?_
    rintro _ _ ⟨rfl, rfl⟩
    go_wp2_with fail
    go_ret
    exact ⟨⟨none, 0, rfl, ⟨rfl, .inl ⟨rfl, rfl⟩⟩⟩, B0⟩
end Go.Proofs.Ytnbkgpmibgdlmaa
