/- Heaps compared: the specification. -/
import Derived.Test.YtgibejgemokljaaSamC
namespace Go.Proofs.Ytgibejgemokljaa
open Go.RowKit

set_option maxRecDepth 100000 in
set_option maxHeartbeats 1600000 in
theorem heap_spec (x y : HeapD) (cs cs' : List Value) (lo hi lo' hi' : Nat) (V : Bool) (hV : V = true ↔ x = y) (w : World) (hh : hi ≤ w.heap.size) (hh' : hi' ≤ w.heap.size) (hC : HeapC w lo hi x cs) (hD : HeapC w lo' hi' y cs') :
    Calls Try.prog 34 #[.agg cs.toArray, .agg cs'.toArray] w fun e w' => e = .returned (.bool V) ∧ Below w.heap.size w w' := by
  obtain ⟨ok, a_tables, c_tables, a_cells, c_cells, rfl, l_tables, r_tables, l_cells, r_cells⟩ := hC
  obtain ⟨n_ok, n_a_tables, n_c_tables, n_a_cells, n_c_cells, rfl, n_l_tables, n_r_tables, n_l_cells, n_r_cells⟩ := hD
  obtain ⟨rA, rB, hs0, B0⟩ := rows2' w (Obj.cells #[.slice a_tables x.tables.length c_tables, .slice a_cells x.cells.length c_cells] 38) (Obj.cells #[.slice n_a_tables y.tables.length n_c_tables, .slice n_a_cells y.cells.length n_c_cells] 38)
  have r_tables := r_tables.below PairSC_keeps B0 hh
  have n_r_tables := n_r_tables.below PairSC_keeps B0 hh'
  have r_cells := r_cells.below ValC_keeps B0 hh
  have n_r_cells := n_r_cells.below ValC_keeps B0 hh'
  unfold maxLen at l_tables
  go_enter Try.func34, Try.ntmps34
  go_upto_region 1 with fail
  obtain ⟨W0, hW0⟩ : ∃ W0, W0 = (w.alloc (Obj.cells #[.slice a_tables x.tables.length c_tables, .slice a_cells x.cells.length c_cells] 38)).alloc (Obj.cells #[.slice n_a_tables y.tables.length n_c_tables, .slice n_a_cells y.cells.length n_c_cells] 38) := ⟨_, rfl⟩
  rw [← hW0]
  rw [← hW0] at rA rB hs0 B0 r_tables n_r_tables r_cells n_r_cells
  have p0 := cell_of_row _ _ 0 _ _ _ rA
  have p1 := cell_of_row _ _ 1 _ _ _ rA
  have u0 := cell_of_row _ _ 0 _ _ _ rB
  have u1 := cell_of_row _ _ 1 _ _ _ rB
  simp only [List.getElem?_toArray, List.getElem?_cons_zero, List.getElem?_cons_succ] at p0 p1 u0 u1
  clear rA rB hW0
  have hzz := B0.size
  by_cases h0 : x.cells = y.cells
  · have H0 : Hid (x.cells = y.cells) := h0
    clear h0
    go_wp2_with fail
    refine (sval_spec x.cells y.cells a_cells n_a_cells c_cells n_c_cells lo hi lo' hi' true ⟨fun _ => H0.out, fun _ => rfl⟩ W0 l_cells r_cells n_r_cells).mono ?_
    rintro e w1 ⟨rfl, m0, rfl⟩
    have D0 : Below w.heap.size w (W0.drewN m0) := below_drewN' B0
    by_cases hl : x.tables.length = y.tables.length
    · have HL : Hid (x.tables.length = y.tables.length) := hl
      go_wp2_with fail
      clear hl
      go_loopw [5] (fun z wr => ∃ i m : Nat, z = .int .i64 i ∧ i ≤ x.tables.length ∧ wr = W0.drewN m ∧ ∀ j (_ : j < i) (h1 : j < x.tables.length) (h2 : j < y.tables.length), x.tables[j] = y.tables[j]) (fun z _ => x.tables.length - (intOf z).toNat)
      case atStart => exact ⟨0, m0, rfl, Nat.zero_le _, rfl, fun j h => absurd h (Nat.not_lt_zero _)⟩
      case round =>
        rename World => wo
        obtain ⟨i, m, rfl, hil, rfl, hall⟩ := hrel
        by_cases hlt : i < x.tables.length
        · have hlt2 : i < y.tables.length := by have := HL.out; omega
          obtain ⟨g, o, cx, rfl, _, hg, hC, _, hc⟩ := r_tables i hlt
          obtain ⟨g', o', cy, rfl, _, hg', hC', _, hc'⟩ := n_r_tables i hlt2
          obtain ⟨okt, a_p, c_p, rfl, r_p⟩ := hC
          obtain ⟨okt', n_a_p, n_c_p, rfl, n_r_p⟩ := hC'
          have x0 := hc 0 (by decide)
          have y0 := hc' 0 (by decide)
          simp only [List.getElem?_cons_zero, Nat.add_zero, Nat.one_mul] at x0 y0
          have HNX : Hid (¬ x.tables[i] = y.tables[i] → V = false) := fun h => vno hV fun e => ne_rows hlt hlt2 h (by rw [e])
          have HY : Hid (x.tables[i] = y.tables[i] → ∀ j (_ : j < i + 1) (h1 : j < x.tables.length) (h2 : j < y.tables.length), x.tables[j] = y.tables[j]) := fun h j hj h1 h2 => by
            by_cases e : j = i
            · subst e; exact h
            · exact hall j (by omega) h1 h2
          clear hc hc' hall hV
          have HRT : Hid (RowAt 1 PairSC W0 lo hi x.tables (some ⟨g, o, none⟩)) := r_tables
          clear r_tables n_r_tables
          unfold maxLen at okt
          generalize x.tables[i] = t at *
          generalize y.tables[i] = s at *
          by_cases hts : t.length = s.length
          · have HTS : Hid (t.length = s.length) := hts
            rw [← hts] at y0
            clear hts
            go_wp2_with fail
            go_quiet (fail)
            go_wp2_with fail
            go_loopw [6] (fun z wr => ∃ k m2 : Nat, z = .int .i64 k ∧ k ≤ t.length ∧ wr = W0.drewN m2 ∧ ∀ j (_ : j < k) (h1 : j < t.length) (h2 : j < s.length), t[j] = s[j]) (fun z _ => t.length - (intOf z).toNat)
            case atStart => exact ⟨0, _, rfl, Nat.zero_le _, by first | rfl | exact World.drewN_drewN _ _ _, fun j h => absurd h (Nat.not_lt_zero _)⟩
            case round =>
              obtain ⟨k, m2, rfl, hkl, rfl, hall2⟩ := hrel
              by_cases hkt : k < t.length
              · have hkt2 : k < s.length := by have := HTS.out; omega
                obtain ⟨g1, o1, cx1, rfl, _, _, ⟨_, rfl⟩, _, hc1⟩ := r_p k hkt
                obtain ⟨g1', o1', cy1, rfl, _, _, ⟨_, rfl⟩, _, hc1'⟩ := n_r_p k hkt2
                have x10 := hc1 0 (by decide)
                have y10 := hc1' 0 (by decide)
                have x11 := hc1 1 (by decide)
                have y11 := hc1' 1 (by decide)
                have x12 := hc1 2 (by decide)
                have y12 := hc1' 2 (by decide)
                have x13 := hc1 3 (by decide)
                have y13 := hc1' 3 (by decide)
                have x14 := hc1 4 (by decide)
                have y14 := hc1' 4 (by decide)
                have x15 := hc1 5 (by decide)
                have y15 := hc1' 5 (by decide)
                simp only [List.getElem?_cons_zero, List.getElem?_cons_succ, Nat.add_zero] at x10 y10 x11 y11 x12 y12 x13 y13 x14 y14 x15 y15
                have mk : k * 6 = 6 * k := Nat.mul_comm _ _
                have HN2 : Hid (¬ t[k] = s[k] → V = false) := fun h => HNX.out fun e => ne_rows hkt hkt2 h e
                have HY2 : Hid (t[k] = s[k] → ∀ j (_ : j < k + 1) (h1 : j < t.length) (h2 : j < s.length), t[j] = s[j]) := fun h j hj h1 h2 => by
                  by_cases e : j = k
                  · subst e; exact h
                  · exact hall2 j (by omega) h1 h2
                have HRP : Hid (RowAt 6 PairC W0 lo hi t (some ⟨g1, o1, none⟩) ∧ RowAt 6 PairC W0 lo' hi' s (some ⟨g1', o1', none⟩)) := ⟨r_p, n_r_p⟩
                clear hc1 hc1' hall2 r_p n_r_p
                generalize t[k] = x1 at *
                generalize s[k] = y1 at *
                by_cases he : x1 = y1
                · have HYY := HY2.out he
                  have HY3 : Hid (∀ j (_ : j < k + 1) (h1 : j < t.length) (h2 : j < s.length), t[j] = s[j]) := HYY
                  clear HYY HY2 HN2
                  subst he
                  go_wp2_with fail
                  go_quiet (fail)
                  go_wp2_with fail
                  go_roundw
                  case rel => exact ⟨k + 1, _, by go_num, by omega, by first | rfl | exact World.drewN_drewN _ _ _, HY3.out⟩
                  case measure => simp [intOf]; omega
                · have hv : V = false := HN2.out he
                  have HE : Hid (¬ x1 = y1) := he
                  clear HY2 HN2 he HNX HY
                  subst hv
                  by_cases k0 : x1.key.k = y1.key.k
                  · skip
                    by_cases k1 : x1.key.n = y1.key.n
                    · skip
                      by_cases k2 : x1.key.s = y1.key.s
                      · skip
                        by_cases k3 : x1.val.k = y1.val.k
                        · skip
                          by_cases k4 : x1.val.n = y1.val.n
                          · skip
                            have k5 : ¬ x1.val.s = y1.val.s := fun e => HE.out (by obtain ⟨⟨a, b, c⟩, ⟨d, e', f⟩⟩ := x1; obtain ⟨⟨a', b', c'⟩, ⟨d', e'', f'⟩⟩ := y1; simp_all)
                            have hs := str_ne k5
                            go_wp2_with fail
                            go_quiet (fail)
                            go_wp2_with fail
                            go_ret
                            exact ⟨rfl, by repeat (first | (with_reducible exact B0) | (with_reducible exact D0) | (with_reducible refine below_drewN' ?_))⟩
                          · skip
                            go_wp2_with fail
                            go_quiet (fail)
                            go_wp2_with fail
                            go_ret
                            exact ⟨rfl, by repeat (first | (with_reducible exact B0) | (with_reducible exact D0) | (with_reducible refine below_drewN' ?_))⟩
                        · skip
                          go_wp2_with fail
                          go_quiet (fail)
                          go_wp2_with fail
                          go_ret
                          exact ⟨rfl, by repeat (first | (with_reducible exact B0) | (with_reducible exact D0) | (with_reducible refine below_drewN' ?_))⟩
                      · skip
                        have hs := str_ne k2
                        go_wp2_with fail
                        go_quiet (fail)
                        go_wp2_with fail
                        go_ret
                        exact ⟨rfl, by repeat (first | (with_reducible exact B0) | (with_reducible exact D0) | (with_reducible refine below_drewN' ?_))⟩
                    · skip
                      go_wp2_with fail
                      go_quiet (fail)
                      go_wp2_with fail
                      go_ret
                      exact ⟨rfl, by repeat (first | (with_reducible exact B0) | (with_reducible exact D0) | (with_reducible refine below_drewN' ?_))⟩
                  · skip
                    go_wp2_with fail
                    go_quiet (fail)
                    go_wp2_with fail
                    go_ret
                    exact ⟨rfl, by repeat (first | (with_reducible exact B0) | (with_reducible exact D0) | (with_reducible refine below_drewN' ?_))⟩

              · obtain rfl : k = t.length := by omega
                have HYO : Hid (∀ j (_ : j < i + 1) (h1 : j < x.tables.length) (h2 : j < y.tables.length), x.tables[j] = y.tables[j]) := HY.out (ext_rows HTS.out fun j h1 h2 => hall2 j h1 h1 h2)
                clear hall2 HY HNX r_p n_r_p
                go_wp2_with fail
                go_roundw
                case rel => exact ⟨i + 1, _, by go_num, by omega, by first | rfl | exact World.drewN_drewN _ _ _, HYO.out⟩
                case measure => simp [intOf]; omega
          · have hv : V = false := HNX.out fun e => hts (by rw [e])
            have hts' : ¬ ((t.length : Int) = (s.length : Int)) := by omega
            clear HNX HY
            subst hv
            go_wp2_with fail
            go_quiet (fail)
            go_wp2_with fail
            go_ret
            exact ⟨rfl, by repeat (first | (with_reducible exact B0) | (with_reducible exact D0) | (with_reducible refine below_drewN' ?_))⟩
        · obtain rfl : i = x.tables.length := by omega
          have hv : V = true := vyes hV (by
            have h1 : x.tables = y.tables := ext_rows HL.out fun j h1 h2 => hall j h1 h1 h2
            have h2 := H0.out
            obtain ⟨xt, xc⟩ := x
            obtain ⟨yt, yc⟩ := y
            simp_all)
          clear hall hV r_tables n_r_tables
          subst hv
          go_wp2_with fail
          go_ret
          exact ⟨rfl, by repeat (first | (with_reducible exact B0) | (with_reducible exact D0) | (with_reducible refine below_drewN' ?_))⟩
    · have hv : V = false := vno hV fun e => hl (by rw [e])
      have hl' : ¬ ((x.tables.length : Int) = (y.tables.length : Int)) := by omega
      clear hV
      subst hv
      go_wp2_with fail
      go_ret
      exact ⟨rfl, D0⟩
  · have hv : V = false := vno hV fun e => h0 (by rw [e])
    have H0 : Hid (¬ x.cells = y.cells) := h0
    clear h0 hV
    subst hv
    go_wp2_with fail
    refine (sval_spec x.cells y.cells a_cells n_a_cells c_cells n_c_cells lo hi lo' hi' false ⟨fun h => absurd h (by decide), fun h => absurd h H0.out⟩ W0 l_cells r_cells n_r_cells).mono ?_
    rintro e w1 ⟨rfl, m0, rfl⟩
    go_wp2_with fail
    go_ret
    exact ⟨rfl, below_drewN' B0⟩
end Go.Proofs.Ytgibejgemokljaa
