/- The value of a name: the specification. -/
import Derived.Test.YtnbkgpmibgdlmaaVofS
import Derived.Test.YtnbkgpmibgdlmaaVofJ
import Derived.Deep.RegionHeld3
namespace Go.Proofs.Ytnbkgpmibgdlmaa
open Go.RowKit

theorem row1_cell {w : World} {B : Nat} {T : TypeId} {a : Option Addr} {n c : Nat} {xs : List Value} (h : w.ownsRow B T 1 (.slice a n c) n xs) (i : Nat) (hi : i < xs.length) (hn : 0 < n) : ∃ g, a = some ⟨g, 0, none⟩ ∧ w.cell? ⟨g, i, none⟩ = some xs[i] := by
  rcases h.2 with ⟨_, h0⟩ | ⟨g, cap, cur, e, _⟩
  · omega
  · simp only [Value.slice.injEq] at e
    obtain ⟨rfl, _, _⟩ := e
    have := World.ownsRow.cells h rfl i xs[i] (by simp [hi])
    have hadd : (⟨g, 0, none⟩ : Addr).add i = ⟨g, i, none⟩ := by unfold Addr.add; split <;> simp_all
    rw [hadd] at this
    exact ⟨g, rfl, this⟩
theorem cellAt_lt {nc : Nat} {sl : List Int} {k : Int} {c : Nat} (h : cellAt nc sl k = some c) : c < nc := by
  unfold cellAt at h
  split at h
  · split at h
    · cases h
    · split at h
      · cases h; omega
      · cases h
  · cases h
set_option maxRecDepth 100000 in
set_option maxHeartbeats 8000000 in
theorem varOf_spec (ps : List ProtoD) (pa : Option Addr) (pcap : Nat) (x : VmD) (cs : List Value) (s : ByteArray) (lo hi : Nat) (w : World) (hh : hi ≤ w.heap.size) (hn : ps.length ≤ maxLen) (hb : ∀ p ∈ ps, p.names.length ≤ 1048576) (hS : RowAt 5 ProtoC w lo hi ps pa) (hC : VmC w lo hi x cs) :
    Calls Try.prog 9 #[.slice pa ps.length pcap, .agg cs.toArray, .string s] w fun e w' => e = .returned (.tuple #[.agg #[.int .i64 (vz (varV ps x s)).k, .int .i64 (vz (varV ps x s)).n, .string (vz (varV ps x s)).s], .bool (varV ps x s).isSome]) ∧ Below w.heap.size w w' := by
  obtain ⟨ok, a_heap_tables, c_heap_tables, a_heap_cells, c_heap_cells, a_funs, c_funs, a_frames, c_frames, a_out, c_out, rfl, l_heap_tables, r_heap_tables, l_heap_cells, r_heap_cells, l_funs, r_funs, l_frames, r_frames, l_out, r_out⟩ := hC
  clear r_heap_tables r_funs r_out
  obtain ⟨rA, rB, s2, B2⟩ := rows2v w (Obj.cells #[.slice a_heap_tables x.heap.tables.length c_heap_tables, .slice a_heap_cells x.heap.cells.length c_heap_cells, .slice a_funs x.funs.length c_funs, .slice a_frames x.frames.length c_frames, .slice a_out x.out.length c_out, .int .i64 x.steps, .int .i64 x.kind, .int .i64 x.value.k, .int .i64 x.value.n, .string x.value.s] 48) (Obj.cells #[.int .i64 0, .int .i64 0, .string ⟨#[]⟩] 36)
  by_cases hf : x.frames.length < 1
  · have HV : Hid (varV ps x s = none) := by
      unfold varV
      have : x.frames = [] := List.eq_nil_of_length_eq_zero (by omega)
      simp [this, Hid]
    have hf0 : (x.frames.length : Int) = 0 := by omega
    have B5 := B2
    have d0 := cell_of_row _ _ 0 _ _ _ rB
    have d1 := cell_of_row _ _ 1 _ _ _ rB
    have d2 := cell_of_row _ _ 2 _ _ _ rB
    simp only [List.getElem?_toArray, List.getElem?_cons_zero, List.getElem?_cons_succ] at d0 d1 d2
    clear rA rB s2 r_frames r_heap_cells
    go_enter Try.func9, Try.ntmps9
    go_wp2_with fail
    exact bodyPost_ret (v := .tuple #[.agg #[.int .i64 0, .int .i64 0, .string ⟨#[]⟩], .bool false]) (by simp [results, Try.results9, go_sem, d0, d1, d2]) rfl ⟨by rw [HV.out]; rfl, by repeat (first | (with_reducible exact B5) | (with_reducible refine Below.drew ?_) | (with_reducible refine Below.setCell ?_ (by first | omega | (simp <;> omega)) _) | (with_reducible refine Below.alloc ?_ (by first | omega | (simp <;> omega)) _))⟩
  · obtain ⟨n, hlt, hx⟩ : ∃ n, ∃ _ : n < x.frames.length, n + 1 = x.frames.length := ⟨x.frames.length - 1, by omega, by omega⟩
    have HV : Hid (varV ps x s = match (scope ps x.frames[n]).reverse.find? (fun n => decide (n.text = s)) with | none => none | some m => seeName x x.frames[n] m) := by
      have : x.frames.getLast? = some x.frames[n] := by
        rw [List.getLast?_eq_getElem?, show x.frames.length - 1 = n by omega]
        exact List.getElem?_eq_getElem hlt
      show varV ps x s = _
      unfold varV
      rw [this]
      rfl
    obtain ⟨g, o, fs, e, _, hg, hF, _, hc⟩ := r_frames n hlt
    subst e
    generalize x.frames[n] = f at *
    have hlen := scope_len f hb
    have hF0 := hF
    obtain ⟨okf, f_a_slots, f_c_slots, f_a_ups, f_c_ups, f_a_stack, f_c_stack, rfl, f_l_slots, f_r_slots, f_l_ups, f_r_ups, f_l_stack, f_r_stack⟩ := hF
    have HN := fun W (h : Below w.heap.size w W) => names_spec ps pa pcap f _ x.heap.cells.length lo hi W (Nat.le_trans hh h.size) l_heap_cells hn hb (hS.below ProtoC_keeps h hh) (FrameC_keeps.below hF0 h hh)
    unfold maxLen at l_frames l_heap_cells
    have e1 : (x.frames.length : Int) - 1 = n := by omega
    have wn : IntKind.i64.wrap (n : Int) = n := by rw [IntKind.wrap_i64]; omega
    have hni : (n : Int) < (x.frames.length : Int) := by omega
    have mc : n * 6 = 6 * n := Nat.mul_comm _ _
    have hne : ¬ ((x.frames.length : Int) = 0) := by omega
    have hcell : ∀ c (hc : c < x.heap.cells.length), ∃ g o, a_heap_cells = some ⟨g, o, none⟩ ∧ ∀ W, Below w.heap.size w W → W.cell? ⟨g, o + 3 * c, none⟩ = some (.int .i64 (x.heap.cells[c]).k) ∧ W.cell? ⟨g, o + 3 * c + 1, none⟩ = some (.int .i64 (x.heap.cells[c]).n) ∧ W.cell? ⟨g, o + 3 * c + 2, none⟩ = some (.string (x.heap.cells[c]).s) := by
      intro c hc
      obtain ⟨g, o, vs, e, _, hg, hv, _, hq⟩ := r_heap_cells c hc
      obtain ⟨_, rfl⟩ := hv
      refine ⟨g, o, e, fun W hW => ?_⟩
      have key := fun j (hj : j < 3) => (hW.cell (p := ⟨g, o + 3 * c + j, none⟩) (by show g < _; omega)).trans (hq j hj)
      exact ⟨key 0 (by decide), key 1 (by decide), key 2 (by decide)⟩
    clear r_frames r_heap_cells hS hb hF0 f_r_slots f_r_ups f_r_stack
    have HNI : Hid (n + 1 = x.frames.length) := hx
    clear hx hf
    go_enter Try.func9, Try.ntmps9
    go_wp2_with fail
    generalize (w.alloc (Obj.cells #[.slice a_heap_tables x.heap.tables.length c_heap_tables, .slice a_heap_cells x.heap.cells.length c_heap_cells, .slice a_funs x.funs.length c_funs, .slice (some ⟨g, o, none⟩) x.frames.length c_frames, .slice a_out x.out.length c_out, .int .i64 x.steps, .int .i64 x.kind, .int .i64 x.value.k, .int .i64 x.value.n, .string x.value.s] 48)).alloc (Obj.cells #[.int .i64 0, .int .i64 0, .string ⟨#[]⟩] 36) = w2 at *
    have sw : w.heap.size + 1 < w2.heap.size := by omega
    clear s2
    have K0 : Hid (∀ W, Below w2.heap.size w2 W → W.cell? ⟨w.heap.size, 3, none⟩ = some (.slice (some ⟨g, o, none⟩) x.frames.length c_frames) ∧ W.cell? ⟨w.heap.size, 1, none⟩ = some (.slice a_heap_cells x.heap.cells.length c_heap_cells) ∧ W.cell? ⟨g, o + 6 * n, none⟩ = some (.int .i64 f.proto) ∧ W.cell? ⟨g, o + 6 * n + 1, none⟩ = some (.int .i64 f.pc) ∧ W.cell? ⟨g, o + 6 * n + 2, none⟩ = some (.slice f_a_slots f.slots.length f_c_slots) ∧ W.cell? ⟨g, o + 6 * n + 3, none⟩ = some (.slice f_a_ups f.ups.length f_c_ups) ∧ W.cell? ⟨g, o + 6 * n + 4, none⟩ = some (.slice f_a_stack f.stack.length f_c_stack) ∧ W.cell? ⟨g, o + 6 * n + 5, none⟩ = some (.bool f.guard)) := fun W h => by
      have r := (h.block w.heap.size (by omega)).trans rA
      have key := fun j (hj : j < 6) => ((B2.trans (h.mono B2.size)).cell (p := ⟨g, o + 6 * n + j, none⟩) (by show g < _; omega)).trans (hc j hj)
      exact ⟨cell_of_row _ _ 3 _ _ _ r, cell_of_row _ _ 1 _ _ _ r, key 0 (by decide), key 1 (by decide), key 2 (by decide), key 3 (by decide), key 4 (by decide), key 5 (by decide)⟩
    have HN := fun W (h : Below w2.heap.size w2 W) => HN W (B2.trans (h.mono B2.size))
    have b0 : Below w2.heap.size w2 w2.drew := (Below.refl _ _).drew
    obtain ⟨z0, z1, z2, z3, z4, z5, z6, z7⟩ := K0.out _ (Below.refl _ _)
    clear hc rA
    generalize scope ps f = zs at *
    go_region_held3 (fun w' => w'.cell? ⟨w.heap.size, 3, none⟩ = some (.slice (some ⟨g, o, none⟩) x.frames.length c_frames) ∧ w'.cell? ⟨w.heap.size, 1, none⟩ = some (.slice a_heap_cells x.heap.cells.length c_heap_cells) ∧ w'.cell? ⟨g, o + 6 * n, none⟩ = some (.int .i64 f.proto) ∧ w'.cell? ⟨g, o + 6 * n + 1, none⟩ = some (.int .i64 f.pc) ∧ w'.cell? ⟨g, o + 6 * n + 2, none⟩ = some (.slice f_a_slots f.slots.length f_c_slots) ∧ w'.cell? ⟨g, o + 6 * n + 3, none⟩ = some (.slice f_a_ups f.ups.length f_c_ups) ∧ w'.cell? ⟨g, o + 6 * n + 4, none⟩ = some (.slice f_a_stack f.stack.length f_c_stack) ∧ w'.cell? ⟨g, o + 6 * n + 5, none⟩ = some (.bool f.guard)) (first | (with_reducible exact K0.out _ b0) | (with_reducible exact K0.out _ BQ)) (first
      | (go_simp; go_at_call 31; with_reducible refine (HN _ b0).mono ?_; rintro e w5 ⟨⟨na, nca, na2, nc2, rfl, own1, own2⟩, hb5⟩; have BQ : Below w2.heap.size w2 w5 := b0.trans (hb5.mono b0.size); obtain ⟨g0, g1, g2, g3, g4, g5, g6, g7⟩ := K0.out _ BQ))
    all_goals
      have B5 := B2.trans (BQ.mono B2.size)
      have rB5 := (BQ.block (w.heap.size + 1) sw).trans rB
      have hw5 := BQ.size
      have d0 := cell_of_row _ _ 0 _ _ _ rB5
      have d1 := cell_of_row _ _ 1 _ _ _ rB5
      have d2 := cell_of_row _ _ 2 _ _ _ rB5
      have f0 := frozen_of_row _ _ 0 _ _ rB5
      have f1 := frozen_of_row _ _ 1 _ _ rB5
      have f2 := frozen_of_row _ _ 2 _ _ rB5
      simp only [List.getElem?_toArray, List.getElem?_cons_zero, List.getElem?_cons_succ] at d0 d1 d2
      have wl : IntKind.i64.wrap ((zs.length : Int) - 1) = (zs.length : Int) - 1 := by rw [IntKind.wrap_i64]; omega
      clear z0 z1 z2 z3 z4 z5 z6 z7 g0 g2 g3 g4 g5 g6 g7 b0 HN hb5 rB rB5 e1 hne wn hni mc
      go_wp2_with fail
      go_loopw [10] (fun i wr => ∃ j : Nat, j ≤ zs.length ∧ i = .int .i64 ((zs.length : Int) - 1 - j) ∧ (∀ p ∈ bkUp zs j, ¬ p.2.text = s) ∧ wr = w5) (fun i _ => (intOf i + 1).toNat)
      case atStart => exact ⟨0, Nat.zero_le _, by simp, fun p hp => absurd hp (by simp [bkUp]), rfl⟩
      case round =>
        obtain ⟨j, hj, rfl, hno, rfl⟩ := hrel
        by_cases hjl : j < zs.length
        · obtain ⟨i, hi⟩ : ∃ i : Nat, (zs.length : Int) - 1 - j = i := ⟨zs.length - 1 - j, by omega⟩
          have hi2 : zs.length - 1 - j = i := by omega
          have hiz : i < zs.length := by omega
          obtain ⟨gn, rfl, xn⟩ := row1_cell own1 i (by simpa using hiz) (by omega)
          obtain ⟨ga, rfl, xa⟩ := row1_cell own2 i (by simpa using hiz) (by omega)
          simp only [List.getElem_map] at xn xa
          have hbk : bkAt zs j = (i, zs[i]) := by rw [bkAt_some hjl]; simp only [hi2]
          have hup := bkUp_succ zs j
          rw [hbk] at hup
          have HUP : Hid (bkUp zs (j + 1) = bkUp zs j ++ [(i, zs[i])]) := hup
          have hii : (i : Int) < (zs.length : Int) := by omega
          have hi0 : (0 : Int) ≤ (i : Int) := by omega
          have wi : IntKind.i64.wrap ((i : Int) - 1) = (i : Int) - 1 := by rw [IntKind.wrap_i64]; omega
          have HI : Hid ((zs.length : Int) - 1 - j = i) := hi
          clear own1 own2 hbk hup hi hi2
          rw [HI.out]
          by_cases hx : (zs[i]).text = s
          · have hfd := find_some (zs := zs) (s := s) (k := j + 1) (by omega) HUP.out hno hx
            have HV2 : Hid (varV ps x s = seeName x f zs[i]) := by show varV ps x s = _; rw [HV.out, hfd]
            have he : ((zs[i]).text.toList == s.toList) = true := by rw [hx]; simp
            have HX : Hid ((zs[i]).text = s) := hx
            clear hfd hx hno HUP HV
            generalize zs[i] = m at *
            have hsee : seeName x f m = match cellAt x.heap.cells.length f.slots m.slot with | none => none | some c => x.heap.cells[c]? := rfl
            have hcl := fun c => cellAt_lt (nc := x.heap.cells.length) (sl := f.slots) (k := m.slot) (c := c)
            generalize cellAt x.heap.cells.length f.slots m.slot = C at *
            cases C with
            | none =>
              have HZ : Hid (varV ps x s = none) := by show varV ps x s = none; rw [HV2.out, hsee]
              have HI2 : cellI none = -1 := rfl
              rw [HI2] at xa
              clear hsee hcl HV2 hcell
              go_wp2_with fail
              exact bodyPost_ret (v := .tuple #[.agg #[.int .i64 0, .int .i64 0, .string ⟨#[]⟩], .bool false]) (by simp [results, Try.results9, go_sem, d0, d1, d2]) rfl ⟨by rw [HZ.out]; rfl, by repeat (first | (with_reducible exact B5) | (with_reducible refine Below.drew ?_) | (with_reducible refine Below.setCell ?_ (by first | omega | (simp <;> omega)) _) | (with_reducible refine Below.alloc ?_ (by first | omega | (simp <;> omega)) _))⟩
            | some c =>
              have hcl2 := hcl c rfl
              obtain ⟨gc, oc, rfl, hx3⟩ := hcell c hcl2
              obtain ⟨v0, v1, v2⟩ := hx3 _ B5
              simp only [List.getElem?_eq_getElem hcl2] at hsee
              have HZ : Hid (varV ps x s = some x.heap.cells[c]) := by show varV ps x s = _; rw [HV2.out, hsee]
              have HI2 : cellI (some c) = (c : Int) := rfl
              rw [HI2] at xa
              clear hsee hcl HV2 hcell hx3
              generalize x.heap.cells[c] = v at *
              obtain ⟨vk, vn, vs⟩ := v
              dsimp only at v0 v1 v2
              have hci : (c : Int) < (x.heap.cells.length : Int) := by omega
              have m3 : c * 3 = 3 * c := Nat.mul_comm _ _
              have hnn : ¬ (c : Int) < 0 := by omega
              go_wp2_with fail
              go_region
              all_goals
                go_wp2_with fail
                exact bodyPost_ret (v := .tuple #[.agg #[.int .i64 vk, .int .i64 vn, .string vs], .bool true]) (by simp [results, Try.results9, go_sem, d0, d1, d2]) rfl ⟨by rw [HZ.out]; rfl, by repeat (first | (with_reducible exact B5) | (with_reducible refine Below.drew ?_) | (with_reducible refine Below.setCell ?_ (by first | omega | (simp <;> omega)) _) | (with_reducible refine Below.alloc ?_ (by first | omega | (simp <;> omega)) _))⟩
          · have he : ((zs[i]).text.toList == s.toList) = false := beq_eq_false_iff_ne.2 (fun e => hx (tl_injv e))
            have HX : Hid (¬ (zs[i]).text = s) := hx
            clear hx
            generalize zs[i] = m at *
            go_wp2_with fail
            go_roundw
            case rel => exact ⟨j + 1, by omega, by have := HI.out; congr 1; omega, fun p hp => by
              rw [HUP.out] at hp
              rcases List.mem_append.1 hp with hp | hp
              · exact hno p hp
              · rw [List.mem_singleton] at hp; subst hp; exact HX.out, trivial⟩
            case measure => simp [intOf]
        · obtain rfl : j = zs.length := by omega
          have HZ : Hid (varV ps x s = none) := by show varV ps x s = none; rw [HV.out, find_none hno]
          clear HV own1 own2 hcell
          go_wp2_with fail
          exact bodyPost_ret (v := .tuple #[.agg #[.int .i64 0, .int .i64 0, .string ⟨#[]⟩], .bool false]) (by simp [results, Try.results9, go_sem, d0, d1, d2]) rfl ⟨by rw [HZ.out]; rfl, by repeat (first | (with_reducible exact B5) | (with_reducible refine Below.drew ?_) | (with_reducible refine Below.setCell ?_ (by first | omega | (simp <;> omega)) _) | (with_reducible refine Below.alloc ?_ (by first | omega | (simp <;> omega)) _))⟩
end Go.Proofs.Ytnbkgpmibgdlmaa
