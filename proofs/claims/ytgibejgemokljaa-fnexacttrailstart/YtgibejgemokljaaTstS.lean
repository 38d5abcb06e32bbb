/- Code is copied, a trail at its start: the specification. -/
import Derived.Test.YtgibejgemokljaaTstA
import Derived.Test.YtgibejgemokljaaTstP
import Derived.Test.YtgibejgemokljaaVstS
namespace Go.Proofs.Ytgibejgemokljaa
open Go.RowKit

set_option maxRecDepth 100000 in
set_option maxHeartbeats 1600000 in
theorem copycode_spec (ps : List ProtoD) (a : Option Addr) (ca lo hi : Nat) (w : World) (hh : hi ≤ w.heap.size) (hw : wtR ProtoD.wt ps ≤ 1048576) (hS : RowAt 5 ProtoC w lo hi ps a) :
    Calls Try.prog 58 #[.slice a ps.length ca] w fun e w' => (∃ b cb, e = .returned (.slice b ps.length cb) ∧ RowD 5 ProtoOwn w' (In w.heap.size w'.heap.size) ps b) ∧ Below w.heap.size w w' := by
  have hn := len_wtR ProtoD.wt ps
  obtain ⟨i0, hi0, hza0, hzb0, hzc0⟩ := info_parts infO_Up
  obtain ⟨i1, hi1, hza1, hzb1, hzc1⟩ := info_parts infO_Instr
  obtain ⟨i2, hi2, hza2, hzb2, hzc2⟩ := info_parts infO_Name
  obtain ⟨i4, hi4, hza4, hzb4, hzc4⟩ := info_parts infO_Proto
  have own0 := own_lit0 w w.heap.size 116 5 (Nat.le_refl _)
  have B0 := bel_alloc w (Obj.cells #[] 116)
  go_enter Try.func58, Try.ntmps58
  go_wp2_with fail
  go_loopw [3, 4] (fun x y wr => ∃ (i : Nat) (b : Option Addr) (c : Nat), x = .slice b i c ∧ y = .int .i64 i ∧ i ≤ ps.length ∧ GrowD 5 ProtoOwn wr w.heap.size 116 (ps.take i) i b c ∧ Below w.heap.size w wr) (fun _ y _ => ps.length - (intOf y).toNat)
  case atStart => exact ⟨0, _, 0, rfl, rfl, Nat.zero_le _, GrowD.nil own0, B0⟩
  case round =>
    obtain ⟨i, b, c, rfl, rfl, hil, hG, hbl⟩ := hrel
    by_cases hlt : i < ps.length
    · obtain ⟨g, o, cp, rfl, _, hg, hP, _, hc⟩ := hS i hlt
      have hwm := wtR_mem ProtoD.wt ps i hlt
      have hP1 := ProtoC_keeps.below hP hbl hh
      have hzr := hbl.size
      have hhr : hi ≤ wr.heap.size := Nat.le_trans hh hbl.size
      obtain ⟨ok, a_ups, c_ups, a_code, c_code, a_names, c_names, rfl, l_ups, r_ups, l_code, r_code, l_names, r_names⟩ := hP1
      have x0 := (hbl.cell (p := ⟨g, o + 5 * i + 0, none⟩) (by show g < _; omega)).trans (hc 0 (by decide))
      have x1 := (hbl.cell (p := ⟨g, o + 5 * i + 1, none⟩) (by show g < _; omega)).trans (hc 1 (by decide))
      have x2 := (hbl.cell (p := ⟨g, o + 5 * i + 2, none⟩) (by show g < _; omega)).trans (hc 2 (by decide))
      have x3 := (hbl.cell (p := ⟨g, o + 5 * i + 3, none⟩) (by show g < _; omega)).trans (hc 3 (by decide))
      have x4 := (hbl.cell (p := ⟨g, o + 5 * i + 4, none⟩) (by show g < _; omega)).trans (hc 4 (by decide))
      simp only [List.getElem?_cons_zero, List.getElem?_cons_succ, Nat.add_zero] at x0 x1 x2 x3 x4
      have mc : i * 5 = 5 * i := Nat.mul_comm _ _
      have HT : Hid (ps.take (i + 1) = ps.take i ++ [ps[i]]) := List.take_succ_eq_append_getElem hlt
      obtain ⟨x, hx⟩ : ∃ x, x = ps[i] := ⟨_, rfl⟩
      rw [← hx] at x0 x1 x2 x3 x4 hwm HT ok l_ups r_ups l_code r_code l_names r_names
      clear hx hP hc
      have hwx : x.wt ≤ 1048576 := by omega
      unfold ProtoD.wt at hwx
      have hu0 : x.ups.length ≤ 1048576 := by omega
      have hu1 : x.code.length ≤ 1048576 := by have := len_wtR InstrD.wt x.code; omega
      have hu2 : x.names.length ≤ 1048576 := by have := len_wtR NameD.wt x.names; omega
      have HN0 : Hid (∀ W, Below wr.heap.size wr W → ∀ (j : Nat) (u : Value), (x.ups.flatMap UpL)[j]? = some u → ∃ ad, a_ups = some ad ∧ W.cell? (ad.add j) = some u) := fun W hW => news_flat (by decide) UpL (fun _ => rfl) (fun _ _ _ _ _ h => h.2) (r_ups.below UpC_keeps hW hhr)
      have HO0 : Hid (∀ j (h : j < x.ups.length), (x.ups[j]).Ok) := row_ok (P := UpD.Ok) (fun _ _ _ _ _ h => h.1) r_ups
      have HN1 : Hid (∀ W, Below wr.heap.size wr W → ∀ (j : Nat) (u : Value), (x.code.flatMap InstrL)[j]? = some u → ∃ ad, a_code = some ad ∧ W.cell? (ad.add j) = some u) := fun W hW => news_flat (by decide) InstrL (fun _ => rfl) (fun _ _ _ _ _ h => h.2) (r_code.below InstrC_keeps hW hhr)
      have HO1 : Hid (∀ j (h : j < x.code.length), (x.code[j]).Ok) := row_ok (P := InstrD.Ok) (fun _ _ _ _ _ h => h.1) r_code
      have HN2 : Hid (∀ W, Below wr.heap.size wr W → ∀ (j : Nat) (u : Value), (x.names.flatMap NameL)[j]? = some u → ∃ ad, a_names = some ad ∧ W.cell? (ad.add j) = some u) := fun W hW => news_flat (by decide) NameL (fun _ => rfl) (fun _ _ _ _ _ h => h.2) (r_names.below NameC_keeps hW hhr)
      have HO2 : Hid (∀ j (h : j < x.names.length), (x.names[j]).Ok) := row_ok (P := NameD.Ok) (fun _ _ _ _ _ h => h.1) r_names
      obtain ⟨LS, hLS, hpush⟩ := hG.split ProtoOwn_keeps hbl.size
      have HL : Hid (wr.ownsRow w.heap.size 116 5 (.slice b i c) i LS) := hLS
      have HP : Hid (∀ (w1 w' : World) (a' : Option Addr) (c' : Nat) (x : ProtoD) (l : List Value), Below wr.heap.size wr w1 → ProtoOwn w1 (In wr.heap.size w1.heap.size) x l → l.length = 5 → w'.ownsRow w.heap.size 116 5 (.slice a' (i + 1) c') (i + 1) (LS ++ l) → w1.grownBy w' (Value.slice b i c).ownBlock → ((Value.slice a' (i + 1) c').ownBlock = (Value.slice b i c).ownBlock ∨ (Value.slice a' (i + 1) c').ownBlock = some w1.heap.size) → GrowD 5 ProtoOwn w' w.heap.size 116 (ps.take i ++ [x]) (i + 1) a' c') := hpush
      have HBL : Hid (Below w.heap.size w wr) := hbl
      clear hLS hpush hG hbl r_ups r_code r_names
      go_upto_region 6 with fail
      obtain ⟨W0, hW0⟩ : ∃ W, W = wr.alloc (Obj.cells #[.int .i64 x.params, .int .i64 x.slots, .slice a_ups x.ups.length c_ups, .slice a_code x.code.length c_code, .slice a_names x.names.length c_names] 116) := ⟨_, rfl⟩
      rw [← hW0]
      have rP0 : W0.heap[wr.heap.size]? = some (.cells #[.int .i64 x.params, .int .i64 x.slots, .slice a_ups x.ups.length c_ups, .slice a_code x.code.length c_code, .slice a_names x.names.length c_names] 116 (0, 0)) := by rw [hW0]; exact heap_alloc_new _ _
      have bW0 : Below wr.heap.size wr W0 := by rw [hW0]; exact bel_alloc _ _
      have zW0 : wr.heap.size < W0.heap.size := by rw [hW0]; simp
      clear hW0 x0 x1 x2 x3 x4
      have c0 := cell_of_row W0 wr.heap.size 2 _ _ _ rP0
      simp only [List.getElem?_toArray, List.getElem?_cons_zero, List.getElem?_cons_succ] at c0
      have al0 : (W0.alloc (Obj.cells #[] 158)).cell? ⟨wr.heap.size, 2, none⟩ = some (.slice a_ups x.ups.length c_ups) := ((bel_alloc W0 (Obj.cells #[] 158)).cell (p := ⟨wr.heap.size, 2, none⟩) (by show wr.heap.size < _; omega)).trans c0
      have nw0 := HN0.out (W0.alloc (Obj.cells #[] 158)) (bW0.trans ((bel_alloc W0 (Obj.cells #[] 158)).mono bW0.size))
      have HNW0 : Hid (∀ (j : Nat) (u : Value), (x.ups.flatMap UpL)[j]? = some u → ∃ ad, a_ups = some ad ∧ (W0.alloc (Obj.cells #[] 158)).cell? (ad.add j) = some u) := nw0
      clear nw0
      go_upto_region 7 with (at_builtin; go_must (
        refine wpList_append_any _ rfl _ _ 112 rfl W0.heap.size 158 i0 _ 2 16 Try.underlying112 hi0 hza0 hzb0 hzc0 rfl (by decide) _ _ _ rfl (own_lit0 W0 W0.heap.size 158 2 (Nat.le_refl _)) a_ups x.ups.length c_ups (x.ups.flatMap UpL) rfl (by rw [flat_len UpL 2 (fun _ => rfl), Nat.mul_comm]) HNW0.out (one_flat UpL (fun x u hu => by simp only [UpL, List.mem_cons, List.not_mem_nil, or_false] at hu; rcases hu with rfl | rfl <;> rfl) _) (by unfold maxLen; omega) (by omega) (by simp) _ rfl ?_
        intro b0 d0 w0 own0 gr0 at0
        simp only [Nat.zero_add, List.nil_append] at own0 at0 ⊢
        have bg0 : Below W0.heap.size W0 w0 := (bel_alloc W0 (Obj.cells #[] 158)).grown gr0 (by simp) (fun k hk => by cases hk; exact Nat.le_refl _)
        have rp0 := (bg0.block wr.heap.size (by omega)).trans rP0
        have f0 := frozen_of_row w0 wr.heap.size 2 _ _ rp0
        have e0 := cell_of_row w0 wr.heap.size 2 _ _ _ rp0
        simp only [List.getElem?_toArray, List.getElem?_cons_zero, List.getElem?_cons_succ] at e0
        have sg0 := bg0.size
        clear at0 gr0))
      have U0 : RowD 2 UpOwn w0 (In W0.heap.size w0.heap.size) x.ups b0 := rowD_of_own UpL (fun _ => rfl) (fun j h => ⟨HO0.out j h, rfl⟩) rfl own0
      obtain ⟨W1, hW1⟩ : ∃ W, W = w0.setCell ⟨wr.heap.size, 2, none⟩ (.slice b0 x.ups.length d0) := ⟨_, rfl⟩
      rw [← hW1]
      have rP1 : W1.heap[wr.heap.size]? = some (.cells #[.int .i64 x.params, .int .i64 x.slots, .slice b0 x.ups.length d0, .slice a_code x.code.length c_code, .slice a_names x.names.length c_names] 116 (0, 0)) := by rw [hW1]; exact heap_setCell_same _ _ _ _ _ _ rp0
      have bW1 : Below wr.heap.size wr W1 := by rw [hW1]; exact (bW0.trans (bg0.mono bW0.size)).setCell (Nat.le_refl _) _
      have zW1 : w0.heap.size ≤ W1.heap.size := by rw [hW1]; simp
      have hz1 : W0.heap.size ≤ W1.heap.size := by omega
      have U0 : RowD 2 UpOwn W1 (In W0.heap.size W1.heap.size) x.ups b0 := by rw [hW1]; exact (U0.set UpOwn_keeps _ _ (fun b hb => In.ne hb (by show wr.heap.size < _; omega))).later UpOwn_keeps (fun b hb => ⟨hb.1, by simpa using hb.2⟩) (fun _ _ => rfl)
      clear hW1 rp0 f0 e0 bg0 own0 c0 al0 rP0
      have c1 := cell_of_row W1 wr.heap.size 3 _ _ _ rP1
      simp only [List.getElem?_toArray, List.getElem?_cons_zero, List.getElem?_cons_succ] at c1
      have al1 : (W1.alloc (Obj.cells #[] 148)).cell? ⟨wr.heap.size, 3, none⟩ = some (.slice a_code x.code.length c_code) := ((bel_alloc W1 (Obj.cells #[] 148)).cell (p := ⟨wr.heap.size, 3, none⟩) (by show wr.heap.size < _; omega)).trans c1
      have nw1 := HN1.out (W1.alloc (Obj.cells #[] 148)) (bW1.trans ((bel_alloc W1 (Obj.cells #[] 148)).mono bW1.size))
      have HNW1 : Hid (∀ (j : Nat) (u : Value), (x.code.flatMap InstrL)[j]? = some u → ∃ ad, a_code = some ad ∧ (W1.alloc (Obj.cells #[] 148)).cell? (ad.add j) = some u) := nw1
      clear nw1
      go_upto_region 8 with (at_builtin; go_must (
        refine wpList_append_any _ rfl _ _ 113 rfl W1.heap.size 148 i1 _ 7 72 Try.underlying113 hi1 hza1 hzb1 hzc1 rfl (by decide) _ _ _ rfl (own_lit0 W1 W1.heap.size 148 7 (Nat.le_refl _)) a_code x.code.length c_code (x.code.flatMap InstrL) rfl (by rw [flat_len InstrL 7 (fun _ => rfl), Nat.mul_comm]) HNW1.out (one_flat InstrL (fun x u hu => by simp only [InstrL, List.mem_cons, List.not_mem_nil, or_false] at hu; rcases hu with rfl | rfl | rfl | rfl | rfl | rfl | rfl <;> rfl) _) (by unfold maxLen; omega) (by omega) (by simp) _ rfl ?_
        intro b1 d1 w1 own1 gr1 at1
        simp only [Nat.zero_add, List.nil_append] at own1 at1 ⊢
        have bg1 : Below W1.heap.size W1 w1 := (bel_alloc W1 (Obj.cells #[] 148)).grown gr1 (by simp) (fun k hk => by cases hk; exact Nat.le_refl _)
        have rp1 := (bg1.block wr.heap.size (by omega)).trans rP1
        have f1 := frozen_of_row w1 wr.heap.size 3 _ _ rp1
        have e1 := cell_of_row w1 wr.heap.size 3 _ _ _ rp1
        simp only [List.getElem?_toArray, List.getElem?_cons_zero, List.getElem?_cons_succ] at e1
        have sg1 := bg1.size
        clear at1 gr1))
      have U1 : RowD 7 InstrOwn w1 (In W1.heap.size w1.heap.size) x.code b1 := rowD_of_own InstrL (fun _ => rfl) (fun j h => ⟨HO1.out j h, rfl⟩) rfl own1
      obtain ⟨W2, hW2⟩ : ∃ W, W = w1.setCell ⟨wr.heap.size, 3, none⟩ (.slice b1 x.code.length d1) := ⟨_, rfl⟩
      rw [← hW2]
      have rP2 : W2.heap[wr.heap.size]? = some (.cells #[.int .i64 x.params, .int .i64 x.slots, .slice b0 x.ups.length d0, .slice b1 x.code.length d1, .slice a_names x.names.length c_names] 116 (0, 0)) := by rw [hW2]; exact heap_setCell_same _ _ _ _ _ _ rp1
      have bW2 : Below wr.heap.size wr W2 := by rw [hW2]; exact (bW1.trans (bg1.mono bW1.size)).setCell (Nat.le_refl _) _
      have zW2 : w1.heap.size ≤ W2.heap.size := by rw [hW2]; simp
      have hz2 : W1.heap.size ≤ W2.heap.size := by omega
      have U1 : RowD 7 InstrOwn W2 (In W1.heap.size W2.heap.size) x.code b1 := by rw [hW2]; exact (U1.set InstrOwn_keeps _ _ (fun b hb => In.ne hb (by show wr.heap.size < _; omega))).later InstrOwn_keeps (fun b hb => ⟨hb.1, by simpa using hb.2⟩) (fun _ _ => rfl)
      have U0 : RowD 2 UpOwn W2 (In W0.heap.size W1.heap.size) x.ups b0 := by rw [hW2]; exact (U0.below UpOwn_keeps (fun b hb => by have := hb.2; omega) bg1).set UpOwn_keeps _ _ (fun b hb => In.ne hb (by show wr.heap.size < _; omega))
      clear hW2 rp1 f1 e1 bg1 own1 c1 al1 rP1
      have c2 := cell_of_row W2 wr.heap.size 4 _ _ _ rP2
      simp only [List.getElem?_toArray, List.getElem?_cons_zero, List.getElem?_cons_succ] at c2
      have al2 : (W2.alloc (Obj.cells #[] 161)).cell? ⟨wr.heap.size, 4, none⟩ = some (.slice a_names x.names.length c_names) := ((bel_alloc W2 (Obj.cells #[] 161)).cell (p := ⟨wr.heap.size, 4, none⟩) (by show wr.heap.size < _; omega)).trans c2
      have nw2 := HN2.out (W2.alloc (Obj.cells #[] 161)) (bW2.trans ((bel_alloc W2 (Obj.cells #[] 161)).mono bW2.size))
      have HNW2 : Hid (∀ (j : Nat) (u : Value), (x.names.flatMap NameL)[j]? = some u → ∃ ad, a_names = some ad ∧ (W2.alloc (Obj.cells #[] 161)).cell? (ad.add j) = some u) := nw2
      clear nw2
      go_wp2_with (at_builtin; go_must (first
        | (
          refine wpList_append_any _ rfl _ _ 114 rfl W2.heap.size 161 i2 _ 4 40 Try.underlying114 hi2 hza2 hzb2 hzc2 rfl (by decide) _ _ _ rfl (own_lit0 W2 W2.heap.size 161 4 (Nat.le_refl _)) a_names x.names.length c_names (x.names.flatMap NameL) rfl (by rw [flat_len NameL 4 (fun _ => rfl), Nat.mul_comm]) HNW2.out (one_flat NameL (fun x u hu => by simp only [NameL, List.mem_cons, List.not_mem_nil, or_false] at hu; rcases hu with rfl | rfl | rfl | rfl <;> rfl) _) (by unfold maxLen; omega) (by omega) (by simp) _ rfl ?_
          intro b2 d2 w2 own2 gr2 at2
          simp only [Nat.zero_add, List.nil_append] at own2 at2 ⊢
          have bg2 : Below W2.heap.size W2 w2 := (bel_alloc W2 (Obj.cells #[] 161)).grown gr2 (by simp) (fun k hk => by cases hk; exact Nat.le_refl _)
          have rp2 := (bg2.block wr.heap.size (by omega)).trans rP2
          have f2 := frozen_of_row w2 wr.heap.size 4 _ _ rp2
          have e2 := cell_of_row w2 wr.heap.size 4 _ _ _ rp2
          simp only [List.getElem?_toArray, List.getElem?_cons_zero, List.getElem?_cons_succ] at e2
          have sg2 := bg2.size
          clear at2 gr2
          have U2 : RowD 4 NameOwn w2 (In W2.heap.size w2.heap.size) x.names b2 := rowD_of_own NameL (fun _ => rfl) (fun j h => ⟨HO2.out j h, rfl⟩) rfl own2
          obtain ⟨W3, hW3⟩ : ∃ W, W = w2.setCell ⟨wr.heap.size, 4, none⟩ (.slice b2 x.names.length d2) := ⟨_, rfl⟩
          have rP3 : W3.heap[wr.heap.size]? = some (.cells #[.int .i64 x.params, .int .i64 x.slots, .slice b0 x.ups.length d0, .slice b1 x.code.length d1, .slice b2 x.names.length d2] 116 (0, 0)) := by rw [hW3]; exact heap_setCell_same _ _ _ _ _ _ rp2
          have bW3 : Below wr.heap.size wr W3 := by rw [hW3]; exact (bW2.trans (bg2.mono bW2.size)).setCell (Nat.le_refl _) _
          have zW3 : w2.heap.size ≤ W3.heap.size := by rw [hW3]; simp
          have hz3 : W2.heap.size ≤ W3.heap.size := by omega
          have U2 : RowD 4 NameOwn W3 (In W2.heap.size W3.heap.size) x.names b2 := by rw [hW3]; exact (U2.set NameOwn_keeps _ _ (fun b hb => In.ne hb (by show wr.heap.size < _; omega))).later NameOwn_keeps (fun b hb => ⟨hb.1, by simpa using hb.2⟩) (fun _ _ => rfl)
          have U0 : RowD 2 UpOwn W3 (In W0.heap.size W1.heap.size) x.ups b0 := by rw [hW3]; exact (U0.below UpOwn_keeps (fun b hb => by have := hb.2; omega) bg2).set UpOwn_keeps _ _ (fun b hb => In.ne hb (by show wr.heap.size < _; omega))
          have U1 : RowD 7 InstrOwn W3 (In W1.heap.size W2.heap.size) x.code b1 := by rw [hW3]; exact (U1.below InstrOwn_keeps (fun b hb => by have := hb.2; omega) bg2).set InstrOwn_keeps _ _ (fun b hb => In.ne hb (by show wr.heap.size < _; omega))
          have OW := (own_below HL.out bW3).alloc (Obj.cells #[.int .i64 x.params, .int .i64 x.slots, .slice b0 x.ups.length d0, .slice b1 x.code.length d1, .slice b2 x.names.length d2] 116)
          have PO : ProtoOwn W3 (In wr.heap.size W3.heap.size) x [.int .i64 x.params, .int .i64 x.slots, .slice b0 x.ups.length d0, .slice b1 x.code.length d1, .slice b2 x.names.length d2] := ⟨ok, _, parts5 (lo := wr.heap.size) (hi := W3.heap.size) (c0 := W0.heap.size) (d0 := W1.heap.size) (c1 := W1.heap.size) (d1 := W2.heap.size) (c2 := W2.heap.size) (d2 := W3.heap.size) (c3 := W3.heap.size) (d3 := W3.heap.size) (c4 := W3.heap.size) (d4 := W3.heap.size) (by omega) (by omega) (by omega) (by omega) (by omega) (by omega) (by omega) (by omega) (by omega) (by omega) (by omega), b0, d0, b1, d1, b2, d2, rfl, l_ups, U0, l_code, U1, l_names, U2⟩
          have POA : ProtoOwn (W3.alloc (Obj.cells #[.int .i64 x.params, .int .i64 x.slots, .slice b0 x.ups.length d0, .slice b1 x.code.length d1, .slice b2 x.names.length d2] 116)) (In wr.heap.size (W3.alloc (Obj.cells #[.int .i64 x.params, .int .i64 x.slots, .slice b0 x.ups.length d0, .slice b1 x.code.length d1, .slice b2 x.names.length d2] 116)).heap.size) x [.int .i64 x.params, .int .i64 x.slots, .slice b0 x.ups.length d0, .slice b1 x.code.length d1, .slice b2 x.names.length d2] := ProtoOwn_keeps _ _ _ _ _ _ (fun b hb => ⟨hb.1, by have := hb.2; simp; omega⟩) (fun b hb => (bel_alloc W3 (Obj.cells #[.int .i64 x.params, .int .i64 x.slots, .slice b0 x.ups.length d0, .slice b1 x.code.length d1, .slice b2 x.names.length d2] 116)).block b hb.2) PO
          have HPO : Hid (ProtoOwn (W3.alloc (Obj.cells #[.int .i64 x.params, .int .i64 x.slots, .slice b0 x.ups.length d0, .slice b1 x.code.length d1, .slice b2 x.names.length d2] 116)) (In wr.heap.size (W3.alloc (Obj.cells #[.int .i64 x.params, .int .i64 x.slots, .slice b0 x.ups.length d0, .slice b1 x.code.length d1, .slice b2 x.names.length d2] 116)).heap.size) x [.int .i64 x.params, .int .i64 x.slots, .slice b0 x.ups.length d0, .slice b1 x.code.length d1, .slice b2 x.names.length d2]) := POA
          have HOW : Hid ((W3.alloc (Obj.cells #[.int .i64 x.params, .int .i64 x.slots, .slice b0 x.ups.length d0, .slice b1 x.code.length d1, .slice b2 x.names.length d2] 116)).ownsRow w.heap.size 116 5 (.slice b i c) i LS) := OW
          have HBA : Hid (Below wr.heap.size wr (W3.alloc (Obj.cells #[.int .i64 x.params, .int .i64 x.slots, .slice b0 x.ups.length d0, .slice b1 x.code.length d1, .slice b2 x.names.length d2] 116))) := bW3.trans ((bel_alloc W3 (Obj.cells #[.int .i64 x.params, .int .i64 x.slots, .slice b0 x.ups.length d0, .slice b1 x.code.length d1, .slice b2 x.names.length d2] 116)).mono bW3.size)
          have k0 := cell_of_row w2 wr.heap.size 0 _ _ _ rp2
          have k1 := cell_of_row w2 wr.heap.size 1 _ _ _ rp2
          have k2 := cell_of_row w2 wr.heap.size 2 _ _ _ rp2
          have k3 := cell_of_row w2 wr.heap.size 3 _ _ _ rp2
          have k4 := cell_of_row w2 wr.heap.size 4 _ _ _ rp2
          simp only [List.getElem?_toArray, List.getElem?_cons_zero, List.getElem?_cons_succ] at k0 k1 k2 k3 k4
          have sz3 := bW3.size
          rw [hW3] at HPO HOW HBA sz3
          clear PO POA OW U0 U1 U2 own2 rP2 rP3 rp2 bg2 zW3 hz3 bW3 hW3 al2 c2)
        | (refine wpList_append_any _ rfl _ _ 48 rfl w.heap.size 116 i4 _ 5 88 Try.underlying48 hi4 hza4 hzb4 hzc4 rfl (by decide) _ _ _ rfl HOW.out (some ⟨w2.heap.size, 0, none⟩) 1 1 [.int .i64 x.params, .int .i64 x.slots, .slice b0 x.ups.length d0, .slice b1 x.code.length d1, .slice b2 x.names.length d2] rfl rfl (fun j u hu => ⟨_, rfl, World.news_of_block (alloc_at (by simp)) j u hu⟩) (by simp [Value.oneCell']) (by unfold maxLen; omega) (by omega) (by rw [size_alloc]; omega) _ rfl ?_; intro b5 d5 w5 own5 gr5 at5)))
      go_roundw
      case rel => exact ⟨i + 1, b5, d5, rfl, by go_num, by omega, by rw [HT.out]; exact HP.out _ _ _ _ _ _ HBA.out HPO.out rfl own5 gr5 at5, (HBL.out.trans (HBA.out.mono HBL.out.size)).grown gr5 (by have := HBL.out.size; have := HBA.out.size; omega) (fun k hk => (own_lt HL.out hk).1)⟩
      case measure => simp [intOf]; omega
    · obtain rfl : i = ps.length := by omega
      rw [List.take_length] at hG
      have HR : Hid (RowD 5 ProtoOwn wr (In w.heap.size wr.heap.size) ps b) := hG.row
      clear hS hG
      go_wp2_with fail
      go_ret
      exact ⟨⟨b, c, rfl, HR.out⟩, hbl⟩
set_option maxRecDepth 100000 in
set_option maxHeartbeats 3200000 in
theorem tstart_spec (ps : List ProtoD) (a : Option Addr) (ca lo hi : Nat) (n : Int) (hN : IntOk n) (w : World) (hh : hi ≤ w.heap.size) (hw : wtR ProtoD.wt ps ≤ 1048576) (hS : RowAt 5 ProtoC w lo hi ps a) :
    Calls Try.prog 13 #[.slice a ps.length ca, .int .i64 n] w fun e w' => (∃ cs', e = .returned (.tuple #[.agg cs'.toArray, .bool (trailB ps n)]) ∧ TrailOwn w' (In w.heap.size w'.heap.size) (trailV ps n) cs') ∧ Below w.heap.size w w' := by
  have hl := len_wtR ProtoD.wt ps
  have hpl : ps.length ≤ maxLen := by unfold maxLen; omega
  have B0 := bel_alloc w (Obj.cells #[.slice none 0 0, .int .i64 0, .slice none 0 0, .slice none 0 0, .slice none 0 0, .slice none 0 0, .slice none 0 0, .slice none 0 0, .int .i64 0, .int .i64 0, .int .i64 0, .int .i64 0, .string ⟨#[]⟩] 51)
  go_enter Try.func13, Try.ntmps13
  go_wp2_with fail
  refine (code_spec ps a ca lo hi _ (by simp; omega) hw (hS.below ProtoC_keeps B0 hh)).mono ?_
  rintro e w1 ⟨rfl, hb1⟩
  have B1 := boxed hb1
  have hz1 : w.heap.size < w1.heap.size := by have := hb1.size; simp at this; omega
  have qR := (hb1.block w.heap.size (by simp)).trans (heap_alloc_new w (Obj.cells #[.slice none 0 0, .int .i64 0, .slice none 0 0, .slice none 0 0, .slice none 0 0, .slice none 0 0, .slice none 0 0, .slice none 0 0, .int .i64 0, .int .i64 0, .int .i64 0, .int .i64 0, .string ⟨#[]⟩] 51))
  have hS1 := hS.below ProtoC_keeps B1 hh
  clear hb1 hS B0
  cases hok : codeOk ps with
  | false =>
    have HT : Hid (trailB ps n = false) := by show _ = _; unfold trailB; rw [hok]; rfl
    clear hok
    have k0 := cell_of_row _ _ 0 _ _ _ qR
    have n0 := frozen_of_row _ _ 0 _ _ qR
    have k1 := cell_of_row _ _ 1 _ _ _ qR
    have n1 := frozen_of_row _ _ 1 _ _ qR
    have k2 := cell_of_row _ _ 2 _ _ _ qR
    have n2 := frozen_of_row _ _ 2 _ _ qR
    have k3 := cell_of_row _ _ 3 _ _ _ qR
    have n3 := frozen_of_row _ _ 3 _ _ qR
    have k4 := cell_of_row _ _ 4 _ _ _ qR
    have n4 := frozen_of_row _ _ 4 _ _ qR
    have k5 := cell_of_row _ _ 5 _ _ _ qR
    have n5 := frozen_of_row _ _ 5 _ _ qR
    have k6 := cell_of_row _ _ 6 _ _ _ qR
    have n6 := frozen_of_row _ _ 6 _ _ qR
    have k7 := cell_of_row _ _ 7 _ _ _ qR
    have n7 := frozen_of_row _ _ 7 _ _ qR
    have k8 := cell_of_row _ _ 8 _ _ _ qR
    have n8 := frozen_of_row _ _ 8 _ _ qR
    have k9 := cell_of_row _ _ 9 _ _ _ qR
    have n9 := frozen_of_row _ _ 9 _ _ qR
    have k10 := cell_of_row _ _ 10 _ _ _ qR
    have n10 := frozen_of_row _ _ 10 _ _ qR
    have k11 := cell_of_row _ _ 11 _ _ _ qR
    have n11 := frozen_of_row _ _ 11 _ _ qR
    have k12 := cell_of_row _ _ 12 _ _ _ qR
    have n12 := frozen_of_row _ _ 12 _ _ qR
    simp only [List.getElem?_toArray, List.getElem?_cons_zero, List.getElem?_cons_succ] at k0 k1 k2 k3 k4 k5 k6 k7 k8 k9 k10 k11 k12
    go_wp2_with fail
    exact bodyPost_ret (v := .tuple #[.agg #[.slice none 0 0, .int .i64 0, .slice none 0 0, .slice none 0 0, .slice none 0 0, .slice none 0 0, .slice none 0 0, .slice none 0 0, .int .i64 0, .int .i64 0, .int .i64 0, .int .i64 0, .string ⟨#[]⟩], .bool false]) (by simp [results, Try.results13, go_sem, *]) rfl ⟨⟨[.slice none 0 0, .int .i64 0, .slice none 0 0, .slice none 0 0, .slice none 0 0, .slice none 0 0, .slice none 0 0, .slice none 0 0, .int .i64 0, .int .i64 0, .int .i64 0, .int .i64 0, .string ⟨#[]⟩], by rw [HT.out], trail0_own HT.out _ _⟩, by repeat (first | (with_reducible exact B1) | (with_reducible refine Below.setCell ?_ (by simp <;> omega) _))⟩
  | true =>
    go_wp2_with fail
    refine (in_spec n 1 1000 _).mono ?_
    rintro e w' ⟨rfl, rfl⟩
    cases hin : inR n 1 1000 with
    | false =>
      have HT : Hid (trailB ps n = false) := by show _ = _; unfold trailB; rw [hok, hin]; rfl
      clear hok hin
      have k0 := cell_of_row _ _ 0 _ _ _ qR
      have n0 := frozen_of_row _ _ 0 _ _ qR
      have k1 := cell_of_row _ _ 1 _ _ _ qR
      have n1 := frozen_of_row _ _ 1 _ _ qR
      have k2 := cell_of_row _ _ 2 _ _ _ qR
      have n2 := frozen_of_row _ _ 2 _ _ qR
      have k3 := cell_of_row _ _ 3 _ _ _ qR
      have n3 := frozen_of_row _ _ 3 _ _ qR
      have k4 := cell_of_row _ _ 4 _ _ _ qR
      have n4 := frozen_of_row _ _ 4 _ _ qR
      have k5 := cell_of_row _ _ 5 _ _ _ qR
      have n5 := frozen_of_row _ _ 5 _ _ qR
      have k6 := cell_of_row _ _ 6 _ _ _ qR
      have n6 := frozen_of_row _ _ 6 _ _ qR
      have k7 := cell_of_row _ _ 7 _ _ _ qR
      have n7 := frozen_of_row _ _ 7 _ _ qR
      have k8 := cell_of_row _ _ 8 _ _ _ qR
      have n8 := frozen_of_row _ _ 8 _ _ qR
      have k9 := cell_of_row _ _ 9 _ _ _ qR
      have n9 := frozen_of_row _ _ 9 _ _ qR
      have k10 := cell_of_row _ _ 10 _ _ _ qR
      have n10 := frozen_of_row _ _ 10 _ _ qR
      have k11 := cell_of_row _ _ 11 _ _ _ qR
      have n11 := frozen_of_row _ _ 11 _ _ qR
      have k12 := cell_of_row _ _ 12 _ _ _ qR
      have n12 := frozen_of_row _ _ 12 _ _ qR
      simp only [List.getElem?_toArray, List.getElem?_cons_zero, List.getElem?_cons_succ] at k0 k1 k2 k3 k4 k5 k6 k7 k8 k9 k10 k11 k12
      go_wp2_with fail
      exact bodyPost_ret (v := .tuple #[.agg #[.slice none 0 0, .int .i64 0, .slice none 0 0, .slice none 0 0, .slice none 0 0, .slice none 0 0, .slice none 0 0, .slice none 0 0, .int .i64 0, .int .i64 0, .int .i64 0, .int .i64 0, .string ⟨#[]⟩], .bool false]) (by simp [results, Try.results13, go_sem, *]) rfl ⟨⟨[.slice none 0 0, .int .i64 0, .slice none 0 0, .slice none 0 0, .slice none 0 0, .slice none 0 0, .slice none 0 0, .slice none 0 0, .int .i64 0, .int .i64 0, .int .i64 0, .int .i64 0, .string ⟨#[]⟩], by rw [HT.out], trail0_own HT.out _ _⟩, by repeat (first | (with_reducible exact B1) | (with_reducible refine Below.setCell ?_ (by simp <;> omega) _))⟩
    | true =>
      have HT : Hid (trailB ps n = true) := by show _ = _; unfold trailB; rw [hok, hin]; rfl
      clear hok hin
      go_wp2_with fail
      refine (copycode_spec ps a ca lo hi w1 (Nat.le_trans hh B1.size) hw hS1).mono ?_
      rintro e w2 ⟨⟨b, cb, rfl, U0⟩, hb2⟩
      have B2 := B1.trans (hb2.mono B1.size)
      have hz2 := hb2.size
      have q2 := (hb2.block w.heap.size hz1).trans qR
      go_wp2_with fail
      refine (vmstart_spec ps a ca lo hi w2 (Nat.le_trans hh B2.size) hw (hS1.below ProtoC_keeps hb2 (Nat.le_trans hh B1.size))).mono ?_
      rintro e w3 ⟨⟨cs1, rfl, V1⟩, hb3⟩
      have B3 := B2.trans (hb3.mono B2.size)
      have hz3 := hb3.size
      have q3 := (hb3.block w.heap.size (by omega)).trans q2
      have U0 := U0.below ProtoOwn_keeps (fun b hb => hb.2) hb3
      have V1o := V1
      obtain ⟨_, _, _, e_a_heap_tables, e_c_heap_tables, e_a_heap_cells, e_c_heap_cells, e_a_funs, e_c_funs, e_a_frames, e_c_frames, e_a_out, e_c_out, rfl, e_r_heap, e_l_funs, e_r_funs, e_l_frames, e_r_frames, e_l_out, e_r_out⟩ := V1o
      clear e_r_heap e_l_funs e_r_funs e_l_frames e_r_frames e_l_out e_r_out
      go_wp2_with fail
      obtain ⟨W4, hW4⟩ : ∃ W, W = w3.alloc (Obj.cells #[.slice e_a_heap_tables (startV ps).heap.tables.length e_c_heap_tables, .slice e_a_heap_cells (startV ps).heap.cells.length e_c_heap_cells, .slice e_a_funs (startV ps).funs.length e_c_funs, .slice e_a_frames (startV ps).frames.length e_c_frames, .slice e_a_out (startV ps).out.length e_c_out, .int .i64 (startV ps).steps, .int .i64 (startV ps).kind, .int .i64 (startV ps).value.k, .int .i64 (startV ps).value.n, .string (startV ps).value.s] 43) := ⟨_, rfl⟩
      rw [← hW4]
      have hb4 : Below w3.heap.size w3 W4 := by rw [hW4]; exact bel_alloc _ _
      have rM : W4.heap[w3.heap.size]? = some (Obj.cells #[.slice e_a_heap_tables (startV ps).heap.tables.length e_c_heap_tables, .slice e_a_heap_cells (startV ps).heap.cells.length e_c_heap_cells, .slice e_a_funs (startV ps).funs.length e_c_funs, .slice e_a_frames (startV ps).frames.length e_c_frames, .slice e_a_out (startV ps).out.length e_c_out, .int .i64 (startV ps).steps, .int .i64 (startV ps).kind, .int .i64 (startV ps).value.k, .int .i64 (startV ps).value.n, .string (startV ps).value.s] 43) := by rw [hW4]; exact heap_alloc_new _ _
      have hz4 : w3.heap.size + 1 ≤ W4.heap.size := by rw [hW4]; simp
      clear hW4
      have B4 := B3.trans (hb4.mono B3.size)
      have q4 := (hb4.block w.heap.size (by omega)).trans q3
      have U0 := U0.below ProtoOwn_keeps (fun b hb => by have := hb.2; omega) hb4
      have V1 := VmOwn_keeps.below (fun b hb => hb.2) hb4 V1
      refine (vmstart_spec ps a ca lo hi W4 (Nat.le_trans hh B4.size) hw (hS1.below ProtoC_keeps ((hb2.trans (hb3.mono hb2.size)).trans (hb4.mono (by omega))) (Nat.le_trans hh B1.size))).mono ?_
      rintro e w5 ⟨⟨cs2, rfl, V2⟩, hb5⟩
      have B5 := B4.trans (hb5.mono B4.size)
      have hz5 := hb5.size
      have q5 := (hb5.block w.heap.size (by omega)).trans q4
      have rM5 := (hb5.block w3.heap.size (by omega)).trans rM
      have U0 := U0.below ProtoOwn_keeps (fun b hb => by have := hb.2; omega) hb5
      have V1 := VmOwn_keeps.below (fun b hb => by have := hb.2; omega) hb5 V1
      have V2o := V2
      obtain ⟨_, _, _, f_a_heap_tables, f_c_heap_tables, f_a_heap_cells, f_c_heap_cells, f_a_funs, f_c_funs, f_a_frames, f_c_frames, f_a_out, f_c_out, rfl, f_r_heap, f_l_funs, f_r_funs, f_l_frames, f_r_frames, f_l_out, f_r_out⟩ := V2o
      clear f_r_heap f_l_funs f_r_funs f_l_frames f_r_frames f_l_out f_r_out hb2 hb3 hb4 hb5 hS1 qR q2 q3 q4 rM
      have k0 := cell_of_row _ _ 0 _ _ _ q5
      have n0 := frozen_of_row _ _ 0 _ _ q5
      have k1 := cell_of_row _ _ 1 _ _ _ q5
      have n1 := frozen_of_row _ _ 1 _ _ q5
      have k2 := cell_of_row _ _ 2 _ _ _ q5
      have n2 := frozen_of_row _ _ 2 _ _ q5
      have k3 := cell_of_row _ _ 3 _ _ _ q5
      have n3 := frozen_of_row _ _ 3 _ _ q5
      have k4 := cell_of_row _ _ 4 _ _ _ q5
      have n4 := frozen_of_row _ _ 4 _ _ q5
      have k5 := cell_of_row _ _ 5 _ _ _ q5
      have n5 := frozen_of_row _ _ 5 _ _ q5
      have k6 := cell_of_row _ _ 6 _ _ _ q5
      have n6 := frozen_of_row _ _ 6 _ _ q5
      have k7 := cell_of_row _ _ 7 _ _ _ q5
      have n7 := frozen_of_row _ _ 7 _ _ q5
      have k8 := cell_of_row _ _ 8 _ _ _ q5
      have n8 := frozen_of_row _ _ 8 _ _ q5
      have k9 := cell_of_row _ _ 9 _ _ _ q5
      have n9 := frozen_of_row _ _ 9 _ _ q5
      have k10 := cell_of_row _ _ 10 _ _ _ q5
      have n10 := frozen_of_row _ _ 10 _ _ q5
      have k11 := cell_of_row _ _ 11 _ _ _ q5
      have n11 := frozen_of_row _ _ 11 _ _ q5
      have k12 := cell_of_row _ _ 12 _ _ _ q5
      have n12 := frozen_of_row _ _ 12 _ _ q5
      simp only [List.getElem?_toArray, List.getElem?_cons_zero, List.getElem?_cons_succ] at k0 k1 k2 k3 k4 k5 k6 k7 k8 k9 k10 k11 k12
      go_wp2_with fail
      obtain ⟨wf, hwf⟩ : ∃ wf, wf = (((((((((((((w5.setCell ⟨w.heap.size, 0, none⟩ (.slice b ps.length cb)).setCell ⟨w.heap.size, 1, none⟩ (.int .i64 n)).setCell ⟨w.heap.size, 2, none⟩ (.slice (some ⟨w3.heap.size, 0, none⟩) 1 1)).setCell ⟨w.heap.size, 3, none⟩ (.slice f_a_heap_tables (startV ps).heap.tables.length f_c_heap_tables)).setCell ⟨w.heap.size, 4, none⟩ (.slice f_a_heap_cells (startV ps).heap.cells.length f_c_heap_cells)).setCell ⟨w.heap.size, 5, none⟩ (.slice f_a_funs (startV ps).funs.length f_c_funs)).setCell ⟨w.heap.size, 6, none⟩ (.slice f_a_frames (startV ps).frames.length f_c_frames)).setCell ⟨w.heap.size, 7, none⟩ (.slice f_a_out (startV ps).out.length f_c_out)).setCell ⟨w.heap.size, 8, none⟩ (.int .i64 (startV ps).steps)).setCell ⟨w.heap.size, 9, none⟩ (.int .i64 (startV ps).kind)).setCell ⟨w.heap.size, 10, none⟩ (.int .i64 (startV ps).value.k)).setCell ⟨w.heap.size, 11, none⟩ (.int .i64 (startV ps).value.n)).setCell ⟨w.heap.size, 12, none⟩ (.string (startV ps).value.s)) := ⟨_, rfl⟩
      have Uf : RowD 5 ProtoOwn wf (In w1.heap.size w2.heap.size) ps b := by rw [hwf]; exact (((((((((((((U0.set ProtoOwn_keeps _ _ (fun b hb => In.ne hb (by show w.heap.size < _; omega))).set ProtoOwn_keeps _ _ (fun b hb => In.ne hb (by show w.heap.size < _; omega))).set ProtoOwn_keeps _ _ (fun b hb => In.ne hb (by show w.heap.size < _; omega))).set ProtoOwn_keeps _ _ (fun b hb => In.ne hb (by show w.heap.size < _; omega))).set ProtoOwn_keeps _ _ (fun b hb => In.ne hb (by show w.heap.size < _; omega))).set ProtoOwn_keeps _ _ (fun b hb => In.ne hb (by show w.heap.size < _; omega))).set ProtoOwn_keeps _ _ (fun b hb => In.ne hb (by show w.heap.size < _; omega))).set ProtoOwn_keeps _ _ (fun b hb => In.ne hb (by show w.heap.size < _; omega))).set ProtoOwn_keeps _ _ (fun b hb => In.ne hb (by show w.heap.size < _; omega))).set ProtoOwn_keeps _ _ (fun b hb => In.ne hb (by show w.heap.size < _; omega))).set ProtoOwn_keeps _ _ (fun b hb => In.ne hb (by show w.heap.size < _; omega))).set ProtoOwn_keeps _ _ (fun b hb => In.ne hb (by show w.heap.size < _; omega))).set ProtoOwn_keeps _ _ (fun b hb => In.ne hb (by show w.heap.size < _; omega)))
      have V1f : VmOwn wf (In w2.heap.size w3.heap.size) (startV ps) [.slice e_a_heap_tables (startV ps).heap.tables.length e_c_heap_tables, .slice e_a_heap_cells (startV ps).heap.cells.length e_c_heap_cells, .slice e_a_funs (startV ps).funs.length e_c_funs, .slice e_a_frames (startV ps).frames.length e_c_frames, .slice e_a_out (startV ps).out.length e_c_out, .int .i64 (startV ps).steps, .int .i64 (startV ps).kind, .int .i64 (startV ps).value.k, .int .i64 (startV ps).value.n, .string (startV ps).value.s] := by rw [hwf]; exact (VmOwn_keeps.set _ _ (fun b hb => In.ne hb (by show w.heap.size < _; omega)) (VmOwn_keeps.set _ _ (fun b hb => In.ne hb (by show w.heap.size < _; omega)) (VmOwn_keeps.set _ _ (fun b hb => In.ne hb (by show w.heap.size < _; omega)) (VmOwn_keeps.set _ _ (fun b hb => In.ne hb (by show w.heap.size < _; omega)) (VmOwn_keeps.set _ _ (fun b hb => In.ne hb (by show w.heap.size < _; omega)) (VmOwn_keeps.set _ _ (fun b hb => In.ne hb (by show w.heap.size < _; omega)) (VmOwn_keeps.set _ _ (fun b hb => In.ne hb (by show w.heap.size < _; omega)) (VmOwn_keeps.set _ _ (fun b hb => In.ne hb (by show w.heap.size < _; omega)) (VmOwn_keeps.set _ _ (fun b hb => In.ne hb (by show w.heap.size < _; omega)) (VmOwn_keeps.set _ _ (fun b hb => In.ne hb (by show w.heap.size < _; omega)) (VmOwn_keeps.set _ _ (fun b hb => In.ne hb (by show w.heap.size < _; omega)) (VmOwn_keeps.set _ _ (fun b hb => In.ne hb (by show w.heap.size < _; omega)) (VmOwn_keeps.set _ _ (fun b hb => In.ne hb (by show w.heap.size < _; omega)) V1)))))))))))))
      have V2f : VmOwn wf (In W4.heap.size w5.heap.size) (startV ps) [.slice f_a_heap_tables (startV ps).heap.tables.length f_c_heap_tables, .slice f_a_heap_cells (startV ps).heap.cells.length f_c_heap_cells, .slice f_a_funs (startV ps).funs.length f_c_funs, .slice f_a_frames (startV ps).frames.length f_c_frames, .slice f_a_out (startV ps).out.length f_c_out, .int .i64 (startV ps).steps, .int .i64 (startV ps).kind, .int .i64 (startV ps).value.k, .int .i64 (startV ps).value.n, .string (startV ps).value.s] := by rw [hwf]; exact (VmOwn_keeps.set _ _ (fun b hb => In.ne hb (by show w.heap.size < _; omega)) (VmOwn_keeps.set _ _ (fun b hb => In.ne hb (by show w.heap.size < _; omega)) (VmOwn_keeps.set _ _ (fun b hb => In.ne hb (by show w.heap.size < _; omega)) (VmOwn_keeps.set _ _ (fun b hb => In.ne hb (by show w.heap.size < _; omega)) (VmOwn_keeps.set _ _ (fun b hb => In.ne hb (by show w.heap.size < _; omega)) (VmOwn_keeps.set _ _ (fun b hb => In.ne hb (by show w.heap.size < _; omega)) (VmOwn_keeps.set _ _ (fun b hb => In.ne hb (by show w.heap.size < _; omega)) (VmOwn_keeps.set _ _ (fun b hb => In.ne hb (by show w.heap.size < _; omega)) (VmOwn_keeps.set _ _ (fun b hb => In.ne hb (by show w.heap.size < _; omega)) (VmOwn_keeps.set _ _ (fun b hb => In.ne hb (by show w.heap.size < _; omega)) (VmOwn_keeps.set _ _ (fun b hb => In.ne hb (by show w.heap.size < _; omega)) (VmOwn_keeps.set _ _ (fun b hb => In.ne hb (by show w.heap.size < _; omega)) (VmOwn_keeps.set _ _ (fun b hb => In.ne hb (by show w.heap.size < _; omega)) V2)))))))))))))
      have Mf : wf.heap[w3.heap.size]? = some (Obj.cells #[.slice e_a_heap_tables (startV ps).heap.tables.length e_c_heap_tables, .slice e_a_heap_cells (startV ps).heap.cells.length e_c_heap_cells, .slice e_a_funs (startV ps).funs.length e_c_funs, .slice e_a_frames (startV ps).frames.length e_c_frames, .slice e_a_out (startV ps).out.length e_c_out, .int .i64 (startV ps).steps, .int .i64 (startV ps).kind, .int .i64 (startV ps).value.k, .int .i64 (startV ps).value.n, .string (startV ps).value.s] 43) := by rw [hwf]; exact ((heap_setCell_other _ _ _ _ (by show w3.heap.size ≠ w.heap.size; omega)).trans ((heap_setCell_other _ _ _ _ (by show w3.heap.size ≠ w.heap.size; omega)).trans ((heap_setCell_other _ _ _ _ (by show w3.heap.size ≠ w.heap.size; omega)).trans ((heap_setCell_other _ _ _ _ (by show w3.heap.size ≠ w.heap.size; omega)).trans ((heap_setCell_other _ _ _ _ (by show w3.heap.size ≠ w.heap.size; omega)).trans ((heap_setCell_other _ _ _ _ (by show w3.heap.size ≠ w.heap.size; omega)).trans ((heap_setCell_other _ _ _ _ (by show w3.heap.size ≠ w.heap.size; omega)).trans ((heap_setCell_other _ _ _ _ (by show w3.heap.size ≠ w.heap.size; omega)).trans ((heap_setCell_other _ _ _ _ (by show w3.heap.size ≠ w.heap.size; omega)).trans ((heap_setCell_other _ _ _ _ (by show w3.heap.size ≠ w.heap.size; omega)).trans ((heap_setCell_other _ _ _ _ (by show w3.heap.size ≠ w.heap.size; omega)).trans ((heap_setCell_other _ _ _ _ (by show w3.heap.size ≠ w.heap.size; omega)).trans ((heap_setCell_other _ _ _ _ (by show w3.heap.size ≠ w.heap.size; omega)).trans rM5)))))))))))))
      have zf : w5.heap.size ≤ wf.heap.size := by rw [hwf]; simp
      have Bf : Below w.heap.size w wf := by rw [hwf]; repeat (first | (with_reducible exact B5) | (with_reducible refine Below.setCell ?_ (by show w.heap.size ≤ w.heap.size; omega) _))
      exact bodyPost_ret (v := .tuple #[.agg #[.slice b ps.length cb, .int .i64 n, .slice (some ⟨w3.heap.size, 0, none⟩) 1 1, .slice f_a_heap_tables (startV ps).heap.tables.length f_c_heap_tables, .slice f_a_heap_cells (startV ps).heap.cells.length f_c_heap_cells, .slice f_a_funs (startV ps).funs.length f_c_funs, .slice f_a_frames (startV ps).frames.length f_c_frames, .slice f_a_out (startV ps).out.length f_c_out, .int .i64 (startV ps).steps, .int .i64 (startV ps).kind, .int .i64 (startV ps).value.k, .int .i64 (startV ps).value.n, .string (startV ps).value.s], .bool true]) (by simp [results, Try.results13, go_sem, *]) rfl (by rw [← hwf]; exact ⟨⟨[.slice b ps.length cb, .int .i64 n, .slice (some ⟨w3.heap.size, 0, none⟩) 1 1, .slice f_a_heap_tables (startV ps).heap.tables.length f_c_heap_tables, .slice f_a_heap_cells (startV ps).heap.cells.length f_c_heap_cells, .slice f_a_funs (startV ps).funs.length f_c_funs, .slice f_a_frames (startV ps).frames.length f_c_frames, .slice f_a_out (startV ps).out.length f_c_out, .int .i64 (startV ps).steps, .int .i64 (startV ps).kind, .int .i64 (startV ps).value.k, .int .i64 (startV ps).value.n, .string (startV ps).value.s], by rw [HT.out], trail1_own HT.out hN hpl (l := [.slice e_a_heap_tables (startV ps).heap.tables.length e_c_heap_tables, .slice e_a_heap_cells (startV ps).heap.cells.length e_c_heap_cells, .slice e_a_funs (startV ps).funs.length e_c_funs, .slice e_a_frames (startV ps).frames.length e_c_frames, .slice e_a_out (startV ps).out.length e_c_out, .int .i64 (startV ps).steps, .int .i64 (startV ps).kind, .int .i64 (startV ps).value.k, .int .i64 (startV ps).value.n, .string (startV ps).value.s]) (lo := w.heap.size) (hi := wf.heap.size) (l0 := w1.heap.size) (h0 := w2.heap.size) (l1 := w2.heap.size) (g := w3.heap.size) (l2 := W4.heap.size) (h2 := w5.heap.size) (by omega) (by omega) (by omega) (by omega) (by omega) (by omega) (by omega) Uf V1f rfl Mf V2f⟩, Bf⟩)
end Go.Proofs.Ytgibejgemokljaa
