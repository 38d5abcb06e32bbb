/- CodeOk: the specification, on. -/
import Derived.Test.YtgibejgemokljaaCodS
import Derived.Deep.RegionHeld
import Derived.Test.YtgibejgemokljaaValU
namespace Go.Proofs.Ytgibejgemokljaa
open Go.RowKit

set_option maxRecDepth 100000 in
set_option maxHeartbeats 3200000 in
theorem code_spec (ps : List ProtoD) (a : Option Addr) (ca lo hi : Nat) (w : World) (hh : hi ≤ w.heap.size) (hw : wtR ProtoD.wt ps ≤ 1048576) (hS : RowAt 5 ProtoC w lo hi ps a) :
    Calls Try.prog 56 #[.slice a ps.length ca] w fun e w' => e = .returned (.bool (codeOk ps)) ∧ Below w.heap.size w w' := by
  have hn := len_wtR ProtoD.wt ps
  have hSS := hS
  go_enter Try.func56, Try.ntmps56
  go_wp2_with fail
  go_loopw [3] (fun x wr => ∃ i : Nat, x = .int .i64 i ∧ i ≤ ps.length ∧ Below w.heap.size w wr ∧ ∀ m (h : m < i) (h' : m < ps.length), protoOk ps.length ps[m] = true) (fun x _ => ps.length - (intOf x).toNat)
  case atStart => exact ⟨0, rfl, Nat.zero_le _, Below.refl _ _, fun m h => absurd h (Nat.not_lt_zero _)⟩
  case round =>
    have HSS : Hid (RowAt 5 ProtoC w lo hi ps a) := hSS
    clear hSS
    rename World => wo
    obtain ⟨i, rfl, hil, hbl, hall⟩ := hrel
    have HALL : Hid (∀ m (h : m < i) (h' : m < ps.length), protoOk ps.length ps[m] = true) := hall
    clear hall
    by_cases hlt : i < ps.length
    · obtain ⟨g, o, cx, haa, _, hg, hC, _, hc⟩ := hS i hlt
      have hwm := wtR_mem ProtoD.wt ps i hlt
      have hC1 := ProtoC_keeps.below hC hbl hh
      have HBAD : Hid (protoOk ps.length ps[i] = false → codeOk ps = false) := fun h => by simp [codeOk, all_not _ ps i hlt h]
      have HOK : Hid (protoOk ps.length ps[i] = true → ∀ m (h : m < i + 1) (h' : m < ps.length), protoOk ps.length ps[m] = true) := fun h1 m h h' => by
        by_cases hm : m = i
        · subst hm; exact h1
        · exact HALL.out m (by omega) h'
      clear HALL hC hS
      generalize ps[i] = p at *
      obtain ⟨ok, a_ups, c_ups, a_code, c_code, a_names, c_names, rfl, l_ups, r_ups, l_code, r_code, l_names, r_names⟩ := hC1
      have hwp : p.wt ≤ 1048576 := by omega
      clear hwm
      unfold ProtoD.wt at hwp
      have hlc := len_wtR InstrD.wt p.code
      have x0 := (hbl.cell (p := ⟨g, o + 5 * i + 0, none⟩) (by show g < _; omega)).trans (hc 0 (by decide))
      have x1 := (hbl.cell (p := ⟨g, o + 5 * i + 1, none⟩) (by show g < _; omega)).trans (hc 1 (by decide))
      have x2 := (hbl.cell (p := ⟨g, o + 5 * i + 2, none⟩) (by show g < _; omega)).trans (hc 2 (by decide))
      have x3 := (hbl.cell (p := ⟨g, o + 5 * i + 3, none⟩) (by show g < _; omega)).trans (hc 3 (by decide))
      have x4 := (hbl.cell (p := ⟨g, o + 5 * i + 4, none⟩) (by show g < _; omega)).trans (hc 4 (by decide))
      simp only [List.getElem?_cons_zero, List.getElem?_cons_succ, Nat.add_zero] at x0 x1 x2 x3 x4
      have mc : i * 5 = 5 * i := Nat.mul_comm _ _
      clear hc
      subst haa
      go_wp2_with fail
      refine (in_spec _ _ _ _).mono ?_
      rintro e w1 ⟨rfl, rfl⟩
      obtain ⟨W1, hW1⟩ : ∃ W1, W1 = wo.alloc (Obj.cells #[.int .i64 p.params, .int .i64 p.slots, .slice a_ups p.ups.length c_ups, .slice a_code p.code.length c_code, .slice a_names p.names.length c_names] 116) := ⟨_, rfl⟩
      have hbW : Below wo.heap.size wo W1 := by rw [hW1]; exact bel_alloc _ _
      have rW : W1.heap[wo.heap.size]? = some (Obj.cells #[.int .i64 p.params, .int .i64 p.slots, .slice a_ups p.ups.length c_ups, .slice a_code p.code.length c_code, .slice a_names p.names.length c_names] 116) := by rw [hW1]; exact heap_alloc_new _ _
      have hgW : wo.heap.size < W1.heap.size := (Array.getElem?_eq_some_iff.1 rW).1
      rw [← hW1]
      clear hW1
      have y0 := cell_of_row _ _ 0 _ _ _ rW
      have y1 := cell_of_row _ _ 1 _ _ _ rW
      have y2 := cell_of_row _ _ 2 _ _ _ rW
      have y3 := cell_of_row _ _ 3 _ _ _ rW
      have y4 := cell_of_row _ _ 4 _ _ _ rW
      simp only [List.getElem?_toArray, List.getElem?_cons_zero, List.getElem?_cons_succ] at y0 y1 y2 y3 y4
      have B1 := hbl.trans (hbW.mono hbl.size)
      have r1 := r_code.below InstrC_keeps hbW (Nat.le_trans hh hbl.size)
      have hi1 : hi ≤ W1.heap.size := Nat.le_trans (Nat.le_trans hh hbl.size) hbW.size
      clear x0 x1 x2 x3 x4 rW r_code r_ups r_names
      by_cases hd1 : inR p.params 0 p.slots = true
      · by_cases hd2 : 200 < p.slots
        · go_wp2_with fail
          go_ret
          exact ⟨ret_bool (HBAD.out (by simp [protoOk, headOk, inR]; omega)).symm, B1⟩
        · have hp0 : 0 ≤ p.slots ∧ p.slots ≤ 200 := by unfold inR at hd1; have := of_decide_eq_true hd1; omega
          have hdd : headOk p = true := by unfold headOk; rw [hd1]; simp [inR, hp0]
          go_wp2_with fail
          go_loopw [5] (fun x wr => ∃ k : Nat, x = .int .i64 k ∧ k ≤ p.code.length ∧ Below W1.heap.size W1 wr ∧ ∀ m (h : m < k) (h' : m < p.code.length), instrOk ps.length p p.code[m] = true) (fun x _ => p.code.length - (intOf x).toNat)
          case atStart => exact ⟨0, rfl, Nat.zero_le _, Below.refl _ _, fun m h => absurd h (Nat.not_lt_zero _)⟩
          case round =>
            obtain ⟨k, rfl, hkl, hb2, hall2⟩ := hrel
            have HALL2 : Hid (∀ m (h : m < k) (h' : m < p.code.length), instrOk ps.length p p.code[m] = true) := hall2
            clear hall2
            by_cases hlt2 : k < p.code.length
            · obtain ⟨g', o', cy, rfl, _, hg', hC', _, hc'⟩ := r1 k hlt2
              have HB2 : Hid (instrOk ps.length p p.code[k] = false → p.code.all (instrOk ps.length p) = false) := fun h => all_not _ _ k hlt2 h
              have HO2 : Hid (instrOk ps.length p p.code[k] = true → ∀ m (h : m < k + 1) (h' : m < p.code.length), instrOk ps.length p p.code[m] = true) := fun h1 m h h' => by
                by_cases hm : m = k
                · subst hm; exact h1
                · exact HALL2.out m (by omega) h'
              clear HALL2 r1
              generalize p.code[k] = x at *
              obtain ⟨okx, rfl⟩ := hC'
              have z0 := (hb2.cell (p := ⟨g', o' + 7 * k + 0, none⟩) (by show g' < _; omega)).trans (hc' 0 (by decide))
              have z1 := (hb2.cell (p := ⟨g', o' + 7 * k + 1, none⟩) (by show g' < _; omega)).trans (hc' 1 (by decide))
              have z2 := (hb2.cell (p := ⟨g', o' + 7 * k + 2, none⟩) (by show g' < _; omega)).trans (hc' 2 (by decide))
              have z3 := (hb2.cell (p := ⟨g', o' + 7 * k + 3, none⟩) (by show g' < _; omega)).trans (hc' 3 (by decide))
              have z4 := (hb2.cell (p := ⟨g', o' + 7 * k + 4, none⟩) (by show g' < _; omega)).trans (hc' 4 (by decide))
              have z5 := (hb2.cell (p := ⟨g', o' + 7 * k + 5, none⟩) (by show g' < _; omega)).trans (hc' 5 (by decide))
              have z6 := (hb2.cell (p := ⟨g', o' + 7 * k + 6, none⟩) (by show g' < _; omega)).trans (hc' 6 (by decide))
              simp only [List.getElem?_cons_zero, List.getElem?_cons_succ, Nat.add_zero] at z0 z1 z2 z3 z4 z5 z6
              have mk : k * 7 = 7 * k := Nat.mul_comm _ _
              have kx : g' < wr.heap.size := Nat.lt_of_lt_of_le (by omega) hb2.size
              have ky : wo.heap.size < wr.heap.size := Nat.lt_of_lt_of_le hgW hb2.size
              have y0 := (hb2.cell (p := ⟨wo.heap.size, 0, none⟩) hgW).trans y0
              have y1 := (hb2.cell (p := ⟨wo.heap.size, 1, none⟩) hgW).trans y1
              have y2 := (hb2.cell (p := ⟨wo.heap.size, 2, none⟩) hgW).trans y2
              have y3 := (hb2.cell (p := ⟨wo.heap.size, 3, none⟩) hgW).trans y3
              have y4 := (hb2.cell (p := ⟨wo.heap.size, 4, none⟩) hgW).trans y4
              clear hc' okx
              have hul : p.ups.length ≤ 1048576 := by omega
              go_wp2_with fail
              go_region_held (fun w' => w'.cell? ⟨g', o' + 7 * k, none⟩ = some (.int .i64 x.op) ∧ w'.cell? ⟨g', o' + 7 * k + 1, none⟩ = some (.int .i64 x.a) ∧ w'.cell? ⟨g', o' + 7 * k + 2, none⟩ = some (.int .i64 x.v.k) ∧ w'.cell? ⟨g', o' + 7 * k + 3, none⟩ = some (.int .i64 x.v.n) ∧ w'.cell? ⟨g', o' + 7 * k + 4, none⟩ = some (.string x.v.s) ∧ w'.cell? ⟨g', o' + 7 * k + 5, none⟩ = some (.string x.s) ∧ w'.cell? ⟨g', o' + 7 * k + 6, none⟩ = some (.int .i64 x.line) ∧ w'.cell? ⟨wo.heap.size, 0, none⟩ = some (.int .i64 p.params) ∧ w'.cell? ⟨wo.heap.size, 1, none⟩ = some (.int .i64 p.slots) ∧ w'.cell? ⟨wo.heap.size, 2, none⟩ = some (.slice a_ups p.ups.length c_ups) ∧ w'.cell? ⟨wo.heap.size, 3, none⟩ = some (.slice (some ⟨g', o', none⟩) p.code.length c_code) ∧ w'.cell? ⟨wo.heap.size, 4, none⟩ = some (.slice a_names p.names.length c_names)) (go_keep) (first | (go_at_call 99; refine (instr_spec ps.length p x (some ⟨g, o, none⟩) ca a_ups _ a_names c_ups c_code c_names _ (by omega) hp0 hul (by omega)).mono ?_; rintro e w3 ⟨rfl, hb3⟩; have q0 := (hb3.cell (p := ⟨g', o' + 7 * k, none⟩) kx).trans z0; have q1 := (hb3.cell (p := ⟨g', o' + 7 * k + 1, none⟩) kx).trans z1; have q2 := (hb3.cell (p := ⟨g', o' + 7 * k + 2, none⟩) kx).trans z2; have q3 := (hb3.cell (p := ⟨g', o' + 7 * k + 3, none⟩) kx).trans z3; have q4 := (hb3.cell (p := ⟨g', o' + 7 * k + 4, none⟩) kx).trans z4; have q5 := (hb3.cell (p := ⟨g', o' + 7 * k + 5, none⟩) kx).trans z5; have q6 := (hb3.cell (p := ⟨g', o' + 7 * k + 6, none⟩) kx).trans z6; have r0 := (hb3.cell (p := ⟨wo.heap.size, 0, none⟩) ky).trans y0; have r1 := (hb3.cell (p := ⟨wo.heap.size, 1, none⟩) ky).trans y1; have r2 := (hb3.cell (p := ⟨wo.heap.size, 2, none⟩) ky).trans y2; have r3 := (hb3.cell (p := ⟨wo.heap.size, 3, none⟩) ky).trans y3; have r4 := (hb3.cell (p := ⟨wo.heap.size, 4, none⟩) ky).trans y4))
              have Q3 : Below W1.heap.size W1 w3 := hb2.drew.trans (hb3.mono hb2.size)
              go_wp2_with fail
              · rename_i hx
                have hx' : instrOk ps.length p x = false := by simpa using hx
                go_ret
                exact ⟨ret_bool (HBAD.out (by simp [protoOk, HB2.out hx'])).symm, B1.trans (Q3.mono B1.size)⟩
              · rename_i hx
                have hx' : instrOk ps.length p x = true := by simpa using hx
                go_roundw
                case rel => exact ⟨k + 1, by go_num, by omega, Q3, HO2.out hx'⟩
                case measure => simp [intOf]; omega
            · obtain rfl : k = p.code.length := by omega
              have hyes := HOK.out (by unfold protoOk; rw [hdd, all_take _ _ fun m h => HALL2.out m h h]; rfl)
              have HYES : Hid (∀ m (h : m < i + 1) (h' : m < ps.length), protoOk ps.length ps[m] = true) := hyes
              clear hyes r1
              have y3 := (hb2.cell (p := ⟨wo.heap.size, 3, none⟩) hgW).trans y3
              go_wp2_with fail
              go_roundw
              case rel => exact ⟨i + 1, by go_num, by omega, B1.trans (hb2.mono B1.size), HYES.out⟩
              case measure => simp [intOf]; omega
      · have hd1' : inR p.params 0 p.slots = false := by simpa using hd1
        go_wp2_with fail
        go_ret
        exact ⟨ret_bool (HBAD.out (by simp [protoOk, headOk, hd1'])).symm, B1⟩
    · obtain rfl : i = ps.length := by omega
      have hal : ps.all (protoOk ps.length) = true := all_take _ _ fun m h => HALL.out m h h
      clear HALL hS
      by_cases hpos : 0 < ps.length
      · obtain ⟨g, o, cx, rfl, _, hg, hC, _, hc⟩ := HSS.out 0 hpos
        have hf : firstOk ps = (ps[0].params == 0 && ps[0].ups.length == 0) := by
          cases ps with
          | nil => simp at hpos
          | cons q qs => rfl
        have hfo : codeOk ps = (ps[0].params == 0 && ps[0].ups.length == 0) := by unfold codeOk; rw [hal, hf]; simp
        clear hf hal HSS
        generalize ps[0] = p at *
        obtain ⟨ok, a_ups, c_ups, a_code, c_code, a_names, c_names, rfl, l_ups, r_ups, l_code, r_code, l_names, r_names⟩ := hC
        have u0 := (hbl.cell (p := ⟨g, o + 5 * 0 + 0, none⟩) (by show g < _; omega)).trans (hc 0 (by decide))
        have u2 := (hbl.cell (p := ⟨g, o + 5 * 0 + 2, none⟩) (by show g < _; omega)).trans (hc 2 (by decide))
        simp only [List.getElem?_cons_zero, List.getElem?_cons_succ, Nat.add_zero, Nat.mul_zero] at u0 u2
        clear hc r_ups r_code r_names
        by_cases hpar : p.params = 0
        · by_cases hups : p.ups.length = 0
          · have hft : codeOk ps = true := by rw [hfo]; simp [hpar, hups]
            rw [hpar] at u0
            rw [hups] at u2
            clear hfo
            go_wp2_with fail
            go_ret
            exact ⟨ret_bool hft.symm, hbl⟩
          · have hft : codeOk ps = false := by rw [hfo]; simp [hups]
            rw [hpar] at u0
            clear hfo
            have hu : ((p.ups.length : Int) == 0) = false := by simpa using hups
            go_wp2_with fail
            go_ret
            exact ⟨ret_bool hft.symm, hbl⟩
        · have hft : codeOk ps = false := by rw [hfo]; simp [hpar]
          clear hfo
          go_wp2_with fail
          go_ret
          exact ⟨ret_bool hft.symm, hbl⟩
      · obtain rfl : ps = [] := List.eq_nil_of_length_eq_zero (by omega)
        go_wp2_with fail
        go_ret
        exact ⟨rfl, hbl⟩
end Go.Proofs.Ytgibejgemokljaa
