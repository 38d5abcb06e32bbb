/- ReadCmd of the specification. -/
import Derived.Test.YtadjhnaiphnpoaaDoorRcV
import Derived.Test.YtadjhnaiphnpoaaDoorCmS
import Derived.Test.YtadjhnaiphnpoaaDoorDgA
namespace Go.Proofs.YtadjhnaiphnpoaaDoor
open Go.RowKit Go.Lib

theorem CV.drew {w wr : World} {b : Nat} {W x : ByteArray} {n : Int} (h : CV w wr b W n x) : CV w wr.drew b W n x := ⟨h.var, h.res, h.bel.drew, h.up⟩
theorem cv_new (w : World) (W : ByteArray) : CV w ((w.alloc (.cells #[.string ⟨#[]⟩, .int .i64 0, .string ⟨#[]⟩] 35)).alloc (.cells #[.string W, .int .i64 0, .string ⟨#[]⟩] 35)) (w.heap.size + 1) W 0 ⟨#[]⟩ := by
  have s1 := size_alloc w (.cells #[.string ⟨#[]⟩, .int .i64 0, .string ⟨#[]⟩] 35)
  have h1 := heap_alloc_new (w.alloc (.cells #[.string ⟨#[]⟩, .int .i64 0, .string ⟨#[]⟩] 35)) (.cells #[.string W, .int .i64 0, .string ⟨#[]⟩] 35)
  rw [s1] at h1
  exact ⟨h1, by rw [Below.heap_alloc _ _ _ (by omega)]; exact heap_alloc_new w _, ((Below.refl _ _).alloc (Nat.le_refl _) _).alloc (by omega) _, by omega⟩

set_option maxRecDepth 100000 in
set_option maxHeartbeats 1600000 in
theorem read_spec (s : ByteArray) (w : World) (hs : s.size ≤ 2097152) :
    Calls Tryd.prog 23 #[.string s] w fun e w' => e = .returned (readV s) ∧ Below w.heap.size w w' := by
  go_enter Tryd.func23, Tryd.ntmps23
  go_wp2_with fail
  go_loop [4] (fun a => ∃ i : Nat, i ≤ s.size ∧ a = .int .i64 i ∧ ∀ j b, j < i → s.data.toList[j]? = some b → b ≠ 32) (fun a => s.size - (RowKit.intOf a).toNat)
  case atStart => exact ⟨0, Nat.zero_le _, rfl, fun j b h => absurd h (Nat.not_lt_zero _)⟩
  case round =>
    obtain ⟨i, hi, rfl, hno⟩ := hrel
    by_cases hlt : i < s.size
    · have hb := byte_at s i hlt
      by_cases h32 : s[i].toNat = 32
      · have hk : blankAt s.data.toList = i := blankAt_eq _ i hno (fun b h => by rw [hb] at h; have e := Option.some.inj h; subst e; exact UInt8.toNat_inj.1 h32) (by rw [← Lib.size_eq]; exact hi)
        have HW : Hid (wordOf s = s.extract 0 i) := by show _ = _; rw [wordOf, hk]
        have HR : Hid (restOf s = s.extract (i + 1) s.size) := by show _ = _; rw [restOf, hk, if_pos hlt]
        clear hno hb hk
        go_wp2_with fail
        rw [← HW.out, ← HR.out]
        clear HW HR h32 hlt
        have V0 : CV w ((w.alloc (.cells #[.string ⟨#[]⟩, .int .i64 0, .string ⟨#[]⟩] 35)).alloc (.cells #[.string (wordOf s), .int .i64 0, .string ⟨#[]⟩] 35)) (w.heap.size + 1) (wordOf s) 0 ⟨#[]⟩ := cv_new w (wordOf s)
        refine (kind_spec (wordOf s) _).mono ?_
        rintro e w1 ⟨rfl, hb1⟩
        have V := V0.below hb1
        clear V0 hb1
        rcases kind_cases (wordOf s) with h | h | h | h
        · have HV : Hid _ := readV_plain (.inl h)
          rw [h]
          clear h
          obtain ⟨c0, c1, c2, f1, f2⟩ := V.cells
          obtain ⟨r0, r1, r2, g0, g1, g2⟩ := V.resc
          by_cases hs0 : s.toList = []
          · have HF : Hid (readV s = .tuple #[cmdZ, .bool false]) := by show _ = _; rw [HV.out, readT, if_pos hs0]
            have hs1 : (s.toList == []) = true := by rw [hs0]; rfl
            have BW := V.bel
            clear hs0
            go_wp2_with fail
            exact bodyPost_ret (v := .tuple #[.agg #[.string ⟨#[]⟩, .int .i64 0, .string ⟨#[]⟩], .bool false]) (by simp [results, Tryd.results23, go_sem, *]) rfl ⟨by rw [HF.out]; rfl, by repeat (first | (with_reducible exact BW) | (with_reducible refine Below.setCell ?_ (by simp <;> omega) _))⟩
          · have hs1 : (s.toList == []) = false := by simpa using hs0
            have HC := cmd_spec (wordOf s) 0 ⟨#[]⟩ 
            go_wp2_with fail
            refine (HC _ (by rw [word_size]; have := blank_le s; omega) (by decide) (by decide) (by decide)).mono ?_
            rintro e w9 ⟨rfl, hb9⟩
            clear HC c0 c1 c2 f1 f2 r0 r1 r2 g0 g1 g2
            have V9 := V.below hb9
            obtain ⟨c0, c1, c2, f1, f2⟩ := V9.cells
            obtain ⟨r0, r1, r2, g0, g1, g2⟩ := V9.resc
            have BW := V9.bel
            clear V V9 hb9
            by_cases he : (cmdT (wordOf s) 0 ⟨#[]⟩).toList = s.toList
            · have HF : Hid (readV s = .tuple #[cmdV (wordOf s) 0 ⟨#[]⟩, .bool true]) := by show _ = _; rw [HV.out, readT, if_neg hs0, if_pos he]
              have he1 : ((cmdT (wordOf s) 0 ⟨#[]⟩).toList == s.toList) = true := by rw [he]; simp
              clear he hs0
              generalize cmdT (wordOf s) 0 ⟨#[]⟩ = t at *
              go_wp2_with fail
              exact bodyPost_ret (v := .tuple #[.agg #[.string (wordOf s), .int .i64 0, .string ⟨#[]⟩], .bool true]) (by simp [results, Tryd.results23, go_sem, *]) rfl ⟨by rw [HF.out]; rfl, by repeat (first | (with_reducible exact BW) | (with_reducible refine Below.setCell ?_ (by simp <;> omega) _))⟩
            · have HF : Hid (readV s = .tuple #[cmdZ, .bool false]) := by show _ = _; rw [HV.out, readT, if_neg hs0, if_neg he]
              have he1 : ((cmdT (wordOf s) 0 ⟨#[]⟩).toList == s.toList) = false := by simpa using he
              clear he hs0 c0 c1 c2 f1 f2
              generalize cmdT (wordOf s) 0 ⟨#[]⟩ = t at *
              go_wp2_with fail
              exact bodyPost_ret (v := .tuple #[.agg #[.string ⟨#[]⟩, .int .i64 0, .string ⟨#[]⟩], .bool false]) (by simp [results, Tryd.results23, go_sem, *]) rfl ⟨by rw [HF.out]; rfl, by repeat (first | (with_reducible exact BW) | (with_reducible refine Below.setCell ?_ (by simp <;> omega) _))⟩
        · have HV : Hid _ := readV_plain (.inr h)
          rw [h]
          clear h
          obtain ⟨c0, c1, c2, f1, f2⟩ := V.cells
          obtain ⟨r0, r1, r2, g0, g1, g2⟩ := V.resc
          by_cases hs0 : s.toList = []
          · have HF : Hid (readV s = .tuple #[cmdZ, .bool false]) := by show _ = _; rw [HV.out, readT, if_pos hs0]
            have hs1 : (s.toList == []) = true := by rw [hs0]; rfl
            have BW := V.bel
            clear hs0
            go_wp2_with fail
            exact bodyPost_ret (v := .tuple #[.agg #[.string ⟨#[]⟩, .int .i64 0, .string ⟨#[]⟩], .bool false]) (by simp [results, Tryd.results23, go_sem, *]) rfl ⟨by rw [HF.out]; rfl, by repeat (first | (with_reducible exact BW) | (with_reducible refine Below.setCell ?_ (by simp <;> omega) _))⟩
          · have hs1 : (s.toList == []) = false := by simpa using hs0
            have HC := cmd_spec (wordOf s) 0 ⟨#[]⟩ 
            go_wp2_with fail
            refine (HC _ (by rw [word_size]; have := blank_le s; omega) (by decide) (by decide) (by decide)).mono ?_
            rintro e w9 ⟨rfl, hb9⟩
            clear HC c0 c1 c2 f1 f2 r0 r1 r2 g0 g1 g2
            have V9 := V.below hb9
            obtain ⟨c0, c1, c2, f1, f2⟩ := V9.cells
            obtain ⟨r0, r1, r2, g0, g1, g2⟩ := V9.resc
            have BW := V9.bel
            clear V V9 hb9
            by_cases he : (cmdT (wordOf s) 0 ⟨#[]⟩).toList = s.toList
            · have HF : Hid (readV s = .tuple #[cmdV (wordOf s) 0 ⟨#[]⟩, .bool true]) := by show _ = _; rw [HV.out, readT, if_neg hs0, if_pos he]
              have he1 : ((cmdT (wordOf s) 0 ⟨#[]⟩).toList == s.toList) = true := by rw [he]; simp
              clear he hs0
              generalize cmdT (wordOf s) 0 ⟨#[]⟩ = t at *
              go_wp2_with fail
              exact bodyPost_ret (v := .tuple #[.agg #[.string (wordOf s), .int .i64 0, .string ⟨#[]⟩], .bool true]) (by simp [results, Tryd.results23, go_sem, *]) rfl ⟨by rw [HF.out]; rfl, by repeat (first | (with_reducible exact BW) | (with_reducible refine Below.setCell ?_ (by simp <;> omega) _))⟩
            · have HF : Hid (readV s = .tuple #[cmdZ, .bool false]) := by show _ = _; rw [HV.out, readT, if_neg hs0, if_neg he]
              have he1 : ((cmdT (wordOf s) 0 ⟨#[]⟩).toList == s.toList) = false := by simpa using he
              clear he hs0 c0 c1 c2 f1 f2
              generalize cmdT (wordOf s) 0 ⟨#[]⟩ = t at *
              go_wp2_with fail
              exact bodyPost_ret (v := .tuple #[.agg #[.string ⟨#[]⟩, .int .i64 0, .string ⟨#[]⟩], .bool false]) (by simp [results, Tryd.results23, go_sem, *]) rfl ⟨by rw [HF.out]; rfl, by repeat (first | (with_reducible exact BW) | (with_reducible refine Below.setCell ?_ (by simp <;> omega) _))⟩
        · rw [h]
          have HK : Hid (kindOf (wordOf s) = 2) := h
          clear h
          have V0 := V
          clear V
          have hrs := rest_size s
          go_wp2_with fail
          go_loopw [7] (fun a wr => ∃ (k m : Nat), k ≤ 7 ∧ k ≤ (restOf s).size ∧ m < 10 ^ k ∧ a = .int .i64 k ∧ decFrom 0 ((restOf s).data.toList.take k) = some m ∧ CV w wr (w.heap.size + 1) (wordOf s) m ⟨#[]⟩) (fun a _ => (restOf s).size - (RowKit.intOf a).toNat)
          case atStart => exact ⟨0, 0, by decide, Nat.zero_le _, by decide, rfl, by simp [decFrom], V0⟩
          case round =>
            obtain ⟨k, m, hk7, hk, hm, rfl, hd, V⟩ := hrel
            clear V0
            have hm7 : m < 10000000 := Nat.lt_of_lt_of_le hm (Nat.pow_le_pow_right (by decide) hk7)
            by_cases hlt : k < (restOf s).size
            · by_cases h7 : k < 7
              · have hb := byte_at (restOf s) k hlt
                have hbt := (restOf s)[k].toNat_lt
                cases hdg : digitVal (restOf s)[k] with
                | some d =>
                  have HD : Hid (isDg (restOf s)[k] = true) := by show _ = _; rw [isDg, hdg]; rfl
                  obtain ⟨hv0, hv1, hv⟩ := digitVal_eq hdg
                  have HN : Hid (decFrom 0 ((restOf s).data.toList.take (k + 1)) = some (m * 10 + d)) := decFrom_take _ _ _ _ _ _ hd hb hdg
                  have Hm1 : Hid (m * 10 + d < 10 ^ (k + 1)) := by show _ < _; rw [Nat.pow_succ]; omega
                  clear hd hm hdg hb
                  go_wp2_with fail
                  refine (dg_spec _ _).mono ?_
                  rintro e w2 ⟨rfl, rfl⟩
                  rw [HD.out]
                  obtain ⟨c0, c1, c2, f1, f2⟩ := V.cells
                  go_wp2_with fail
                  go_region
                  all_goals
                    go_wp2_with fail
                    have e : (10 * (m : Int) + ((restOf s)[k].toNat : Int) - 48) = ((m * 10 + d : Nat) : Int) := by omega
                    exact ⟨⟨k + 1, m * 10 + d, by omega, by omega, Hm1.out, by go_num, HN.out, by rw [e]; exact (V.setN _).drew⟩, by simp [RowKit.intOf]; omega⟩
                | none =>
                  have HD : Hid (isDg (restOf s)[k] = false) := by show _ = _; rw [isDg, hdg]; rfl
                  have HE : Hid (∃ b, (restOf s).data.toList[k]? = some b ∧ digitVal b = none) := ⟨_, hb, hdg⟩
                  clear hm hdg hb
                  go_wp2_with fail
                  refine (dg_spec _ _).mono ?_
                  rintro e w2 ⟨rfl, rfl⟩
                  rw [HD.out]
                  have HV : Hid (readV s = readT s (wordOf s) m ⟨#[]⟩) := readV_of HK.out (digits_read hd (by rw [← Lib.size_eq]; exact hk) (.inr (.inr HE.out)))
                  clear hd HK
                  obtain ⟨c0, c1, c2, f1, f2⟩ := V.cells
                  obtain ⟨r0, r1, r2, g0, g1, g2⟩ := V.resc
                  by_cases hs0 : s.toList = []
                  · have HF : Hid (readV s = .tuple #[cmdZ, .bool false]) := by show _ = _; rw [HV.out, readT, if_pos hs0]
                    have hs1 : (s.toList == []) = true := by rw [hs0]; rfl
                    have BW := V.bel
                    clear hs0
                    go_wp2_with fail
                    exact bodyPost_ret (v := .tuple #[.agg #[.string ⟨#[]⟩, .int .i64 0, .string ⟨#[]⟩], .bool false]) (by simp [results, Tryd.results23, go_sem, *]) rfl ⟨by rw [HF.out]; rfl, by repeat (first | (with_reducible exact BW) | (with_reducible refine Below.setCell ?_ (by simp <;> omega) _))⟩
                  · have hs1 : (s.toList == []) = false := by simpa using hs0
                    have HC := cmd_spec (wordOf s) m ⟨#[]⟩ 
                    go_wp2_with fail
                    refine (HC _ (by rw [word_size]; have := blank_le s; omega) (by decide) (by omega) (by omega)).mono ?_
                    rintro e w9 ⟨rfl, hb9⟩
                    clear HC c0 c1 c2 f1 f2 r0 r1 r2 g0 g1 g2
                    have V9 := V.below hb9
                    obtain ⟨c0, c1, c2, f1, f2⟩ := V9.cells
                    obtain ⟨r0, r1, r2, g0, g1, g2⟩ := V9.resc
                    have BW := V9.bel
                    clear V V9 hb9
                    by_cases he : (cmdT (wordOf s) m ⟨#[]⟩).toList = s.toList
                    · have HF : Hid (readV s = .tuple #[cmdV (wordOf s) m ⟨#[]⟩, .bool true]) := by show _ = _; rw [HV.out, readT, if_neg hs0, if_pos he]
                      have he1 : ((cmdT (wordOf s) m ⟨#[]⟩).toList == s.toList) = true := by rw [he]; simp
                      clear he hs0
                      generalize cmdT (wordOf s) m ⟨#[]⟩ = t at *
                      go_wp2_with fail
                      exact bodyPost_ret (v := .tuple #[.agg #[.string (wordOf s), .int .i64 m, .string ⟨#[]⟩], .bool true]) (by simp [results, Tryd.results23, go_sem, *]) rfl ⟨by rw [HF.out]; rfl, by repeat (first | (with_reducible exact BW) | (with_reducible refine Below.setCell ?_ (by simp <;> omega) _))⟩
                    · have HF : Hid (readV s = .tuple #[cmdZ, .bool false]) := by show _ = _; rw [HV.out, readT, if_neg hs0, if_neg he]
                      have he1 : ((cmdT (wordOf s) m ⟨#[]⟩).toList == s.toList) = false := by simpa using he
                      clear he hs0 c0 c1 c2 f1 f2
                      generalize cmdT (wordOf s) m ⟨#[]⟩ = t at *
                      go_wp2_with fail
                      exact bodyPost_ret (v := .tuple #[.agg #[.string ⟨#[]⟩, .int .i64 0, .string ⟨#[]⟩], .bool false]) (by simp [results, Tryd.results23, go_sem, *]) rfl ⟨by rw [HF.out]; rfl, by repeat (first | (with_reducible exact BW) | (with_reducible refine Below.setCell ?_ (by simp <;> omega) _))⟩
              · have hk7' : k = 7 := by omega
                clear hm
                have HV : Hid (readV s = readT s (wordOf s) m ⟨#[]⟩) := readV_of HK.out (digits_read hd (by rw [← Lib.size_eq]; exact hk) (.inr (.inl hk7')))
                clear hd HK
                obtain ⟨c0, c1, c2, f1, f2⟩ := V.cells
                obtain ⟨r0, r1, r2, g0, g1, g2⟩ := V.resc
                by_cases hs0 : s.toList = []
                · have HF : Hid (readV s = .tuple #[cmdZ, .bool false]) := by show _ = _; rw [HV.out, readT, if_pos hs0]
                  have hs1 : (s.toList == []) = true := by rw [hs0]; rfl
                  have BW := V.bel
                  clear hs0
                  go_wp2_with fail
                  exact bodyPost_ret (v := .tuple #[.agg #[.string ⟨#[]⟩, .int .i64 0, .string ⟨#[]⟩], .bool false]) (by simp [results, Tryd.results23, go_sem, *]) rfl ⟨by rw [HF.out]; rfl, by repeat (first | (with_reducible exact BW) | (with_reducible refine Below.setCell ?_ (by simp <;> omega) _))⟩
                · have hs1 : (s.toList == []) = false := by simpa using hs0
                  have HC := cmd_spec (wordOf s) m ⟨#[]⟩ 
                  go_wp2_with fail
                  refine (HC _ (by rw [word_size]; have := blank_le s; omega) (by decide) (by omega) (by omega)).mono ?_
                  rintro e w9 ⟨rfl, hb9⟩
                  clear HC c0 c1 c2 f1 f2 r0 r1 r2 g0 g1 g2
                  have V9 := V.below hb9
                  obtain ⟨c0, c1, c2, f1, f2⟩ := V9.cells
                  obtain ⟨r0, r1, r2, g0, g1, g2⟩ := V9.resc
                  have BW := V9.bel
                  clear V V9 hb9
                  by_cases he : (cmdT (wordOf s) m ⟨#[]⟩).toList = s.toList
                  · have HF : Hid (readV s = .tuple #[cmdV (wordOf s) m ⟨#[]⟩, .bool true]) := by show _ = _; rw [HV.out, readT, if_neg hs0, if_pos he]
                    have he1 : ((cmdT (wordOf s) m ⟨#[]⟩).toList == s.toList) = true := by rw [he]; simp
                    clear he hs0
                    generalize cmdT (wordOf s) m ⟨#[]⟩ = t at *
                    go_wp2_with fail
                    exact bodyPost_ret (v := .tuple #[.agg #[.string (wordOf s), .int .i64 m, .string ⟨#[]⟩], .bool true]) (by simp [results, Tryd.results23, go_sem, *]) rfl ⟨by rw [HF.out]; rfl, by repeat (first | (with_reducible exact BW) | (with_reducible refine Below.setCell ?_ (by simp <;> omega) _))⟩
                  · have HF : Hid (readV s = .tuple #[cmdZ, .bool false]) := by show _ = _; rw [HV.out, readT, if_neg hs0, if_neg he]
                    have he1 : ((cmdT (wordOf s) m ⟨#[]⟩).toList == s.toList) = false := by simpa using he
                    clear he hs0 c0 c1 c2 f1 f2
                    generalize cmdT (wordOf s) m ⟨#[]⟩ = t at *
                    go_wp2_with fail
                    exact bodyPost_ret (v := .tuple #[.agg #[.string ⟨#[]⟩, .int .i64 0, .string ⟨#[]⟩], .bool false]) (by simp [results, Tryd.results23, go_sem, *]) rfl ⟨by rw [HF.out]; rfl, by repeat (first | (with_reducible exact BW) | (with_reducible refine Below.setCell ?_ (by simp <;> omega) _))⟩
            · have hke : k = (restOf s).data.toList.length := by rw [← Lib.size_eq]; omega
              clear hm
              have HV : Hid (readV s = readT s (wordOf s) m ⟨#[]⟩) := readV_of HK.out (digits_read hd (by rw [← Lib.size_eq]; exact hk) (.inl hke))
              clear hd HK
              obtain ⟨c0, c1, c2, f1, f2⟩ := V.cells
              obtain ⟨r0, r1, r2, g0, g1, g2⟩ := V.resc
              by_cases hs0 : s.toList = []
              · have HF : Hid (readV s = .tuple #[cmdZ, .bool false]) := by show _ = _; rw [HV.out, readT, if_pos hs0]
                have hs1 : (s.toList == []) = true := by rw [hs0]; rfl
                have BW := V.bel
                clear hs0
                go_wp2_with fail
                exact bodyPost_ret (v := .tuple #[.agg #[.string ⟨#[]⟩, .int .i64 0, .string ⟨#[]⟩], .bool false]) (by simp [results, Tryd.results23, go_sem, *]) rfl ⟨by rw [HF.out]; rfl, by repeat (first | (with_reducible exact BW) | (with_reducible refine Below.setCell ?_ (by simp <;> omega) _))⟩
              · have hs1 : (s.toList == []) = false := by simpa using hs0
                have HC := cmd_spec (wordOf s) m ⟨#[]⟩ 
                go_wp2_with fail
                refine (HC _ (by rw [word_size]; have := blank_le s; omega) (by decide) (by omega) (by omega)).mono ?_
                rintro e w9 ⟨rfl, hb9⟩
                clear HC c0 c1 c2 f1 f2 r0 r1 r2 g0 g1 g2
                have V9 := V.below hb9
                obtain ⟨c0, c1, c2, f1, f2⟩ := V9.cells
                obtain ⟨r0, r1, r2, g0, g1, g2⟩ := V9.resc
                have BW := V9.bel
                clear V V9 hb9
                by_cases he : (cmdT (wordOf s) m ⟨#[]⟩).toList = s.toList
                · have HF : Hid (readV s = .tuple #[cmdV (wordOf s) m ⟨#[]⟩, .bool true]) := by show _ = _; rw [HV.out, readT, if_neg hs0, if_pos he]
                  have he1 : ((cmdT (wordOf s) m ⟨#[]⟩).toList == s.toList) = true := by rw [he]; simp
                  clear he hs0
                  generalize cmdT (wordOf s) m ⟨#[]⟩ = t at *
                  go_wp2_with fail
                  exact bodyPost_ret (v := .tuple #[.agg #[.string (wordOf s), .int .i64 m, .string ⟨#[]⟩], .bool true]) (by simp [results, Tryd.results23, go_sem, *]) rfl ⟨by rw [HF.out]; rfl, by repeat (first | (with_reducible exact BW) | (with_reducible refine Below.setCell ?_ (by simp <;> omega) _))⟩
                · have HF : Hid (readV s = .tuple #[cmdZ, .bool false]) := by show _ = _; rw [HV.out, readT, if_neg hs0, if_neg he]
                  have he1 : ((cmdT (wordOf s) m ⟨#[]⟩).toList == s.toList) = false := by simpa using he
                  clear he hs0 c0 c1 c2 f1 f2
                  generalize cmdT (wordOf s) m ⟨#[]⟩ = t at *
                  go_wp2_with fail
                  exact bodyPost_ret (v := .tuple #[.agg #[.string ⟨#[]⟩, .int .i64 0, .string ⟨#[]⟩], .bool false]) (by simp [results, Tryd.results23, go_sem, *]) rfl ⟨by rw [HF.out]; rfl, by repeat (first | (with_reducible exact BW) | (with_reducible refine Below.setCell ?_ (by simp <;> omega) _))⟩
        · have HV : Hid _ := readV_text h
          rw [h]
          clear h
          obtain ⟨c0, c1, c2, f1, f2⟩ := V.cells
          obtain ⟨r0, r1, r2, g0, g1, g2⟩ := V.resc
          by_cases hs0 : s.toList = []
          · have HF : Hid (readV s = .tuple #[cmdZ, .bool false]) := by show _ = _; rw [HV.out, readT, if_pos hs0]
            have hs1 : (s.toList == []) = true := by rw [hs0]; rfl
            have BW := V.bel
            clear hs0
            go_wp2_with fail
            exact bodyPost_ret (v := .tuple #[.agg #[.string ⟨#[]⟩, .int .i64 0, .string ⟨#[]⟩], .bool false]) (by simp [results, Tryd.results23, go_sem, *]) rfl ⟨by rw [HF.out]; rfl, by repeat (first | (with_reducible exact BW) | (with_reducible refine Below.setCell ?_ (by simp <;> omega) _))⟩
          · have hs1 : (s.toList == []) = false := by simpa using hs0
            have HC := cmd_spec (wordOf s) 0 (restOf s) 
            go_wp2_with fail
            refine (HC _ (by rw [word_size]; have := blank_le s; omega) (by have := rest_size s; first | omega | decide) (by decide) (by decide)).mono ?_
            rintro e w9 ⟨rfl, hb9⟩
            clear HC c0 c1 c2 f1 f2 r0 r1 r2 g0 g1 g2
            have V9 := (V.setX (restOf s)).below hb9
            obtain ⟨c0, c1, c2, f1, f2⟩ := V9.cells
            obtain ⟨r0, r1, r2, g0, g1, g2⟩ := V9.resc
            have BW := V9.bel
            clear V V9 hb9
            by_cases he : (cmdT (wordOf s) 0 (restOf s)).toList = s.toList
            · have HF : Hid (readV s = .tuple #[cmdV (wordOf s) 0 (restOf s), .bool true]) := by show _ = _; rw [HV.out, readT, if_neg hs0, if_pos he]
              have he1 : ((cmdT (wordOf s) 0 (restOf s)).toList == s.toList) = true := by rw [he]; simp
              clear he hs0
              generalize cmdT (wordOf s) 0 (restOf s) = t at *
              go_wp2_with fail
              exact bodyPost_ret (v := .tuple #[.agg #[.string (wordOf s), .int .i64 0, .string (restOf s)], .bool true]) (by simp [results, Tryd.results23, go_sem, *]) rfl ⟨by rw [HF.out]; rfl, by repeat (first | (with_reducible exact BW) | (with_reducible refine Below.setCell ?_ (by simp <;> omega) _))⟩
            · have HF : Hid (readV s = .tuple #[cmdZ, .bool false]) := by show _ = _; rw [HV.out, readT, if_neg hs0, if_neg he]
              have he1 : ((cmdT (wordOf s) 0 (restOf s)).toList == s.toList) = false := by simpa using he
              clear he hs0 c0 c1 c2 f1 f2
              generalize cmdT (wordOf s) 0 (restOf s) = t at *
              go_wp2_with fail
              exact bodyPost_ret (v := .tuple #[.agg #[.string ⟨#[]⟩, .int .i64 0, .string ⟨#[]⟩], .bool false]) (by simp [results, Tryd.results23, go_sem, *]) rfl ⟨by rw [HF.out]; rfl, by repeat (first | (with_reducible exact BW) | (with_reducible refine Below.setCell ?_ (by simp <;> omega) _))⟩
      · have hno' : Hid (∀ j b, j < i + 1 → s.data.toList[j]? = some b → b ≠ 32) := by
          intro j b hj h
          by_cases e : j = i
          · subst e; rw [hb] at h; have e := Option.some.inj h; subst e; intro e2; exact h32 (by rw [e2]; rfl)
          · exact hno j b (by omega) h
        clear hno hb
        go_wp2_with fail
        go_round
        case rel => exact ⟨i + 1, by omega, by go_num, hno'.out⟩
        case measure => simp [RowKit.intOf]; omega
    · have hie : i = s.size := by omega
      have hk : blankAt s.data.toList = i := blankAt_eq _ i hno (fun b h => by rw [List.getElem?_eq_none (by rw [← Lib.size_eq]; omega)] at h; exact absurd h (by simp)) (by rw [← Lib.size_eq]; exact hi)
      have HW : Hid (wordOf s = s.extract 0 i) := by show _ = _; rw [wordOf, hk]
      have HE : Hid (restOf s = ⟨#[]⟩) := by show _ = _; rw [restOf, hk, if_neg hlt]
      clear hno hk hie
      go_wp2_with fail
      rw [← HW.out]
      clear HW hlt
      have V0 : CV w ((w.alloc (.cells #[.string ⟨#[]⟩, .int .i64 0, .string ⟨#[]⟩] 35)).alloc (.cells #[.string (wordOf s), .int .i64 0, .string ⟨#[]⟩] 35)) (w.heap.size + 1) (wordOf s) 0 ⟨#[]⟩ := cv_new w (wordOf s)
      refine (kind_spec (wordOf s) _).mono ?_
      rintro e w1 ⟨rfl, hb1⟩
      have V := V0.below hb1
      clear V0 hb1
      rcases kind_cases (wordOf s) with h | h | h | h
      · have HV : Hid _ := readV_plain (.inl h)
        rw [h]
        clear h
        obtain ⟨c0, c1, c2, f1, f2⟩ := V.cells
        obtain ⟨r0, r1, r2, g0, g1, g2⟩ := V.resc
        by_cases hs0 : s.toList = []
        · have HF : Hid (readV s = .tuple #[cmdZ, .bool false]) := by show _ = _; rw [HV.out, readT, if_pos hs0]
          have hs1 : (s.toList == []) = true := by rw [hs0]; rfl
          have BW := V.bel
          clear hs0
          go_wp2_with fail
          exact bodyPost_ret (v := .tuple #[.agg #[.string ⟨#[]⟩, .int .i64 0, .string ⟨#[]⟩], .bool false]) (by simp [results, Tryd.results23, go_sem, *]) rfl ⟨by rw [HF.out]; rfl, by repeat (first | (with_reducible exact BW) | (with_reducible refine Below.setCell ?_ (by simp <;> omega) _))⟩
        · have hs1 : (s.toList == []) = false := by simpa using hs0
          have HC := cmd_spec (wordOf s) 0 ⟨#[]⟩ 
          go_wp2_with fail
          refine (HC _ (by rw [word_size]; have := blank_le s; omega) (by decide) (by decide) (by decide)).mono ?_
          rintro e w9 ⟨rfl, hb9⟩
          clear HC c0 c1 c2 f1 f2 r0 r1 r2 g0 g1 g2
          have V9 := V.below hb9
          obtain ⟨c0, c1, c2, f1, f2⟩ := V9.cells
          obtain ⟨r0, r1, r2, g0, g1, g2⟩ := V9.resc
          have BW := V9.bel
          clear V V9 hb9
          by_cases he : (cmdT (wordOf s) 0 ⟨#[]⟩).toList = s.toList
          · have HF : Hid (readV s = .tuple #[cmdV (wordOf s) 0 ⟨#[]⟩, .bool true]) := by show _ = _; rw [HV.out, readT, if_neg hs0, if_pos he]
            have he1 : ((cmdT (wordOf s) 0 ⟨#[]⟩).toList == s.toList) = true := by rw [he]; simp
            clear he hs0
            generalize cmdT (wordOf s) 0 ⟨#[]⟩ = t at *
            go_wp2_with fail
            exact bodyPost_ret (v := .tuple #[.agg #[.string (wordOf s), .int .i64 0, .string ⟨#[]⟩], .bool true]) (by simp [results, Tryd.results23, go_sem, *]) rfl ⟨by rw [HF.out]; rfl, by repeat (first | (with_reducible exact BW) | (with_reducible refine Below.setCell ?_ (by simp <;> omega) _))⟩
          · have HF : Hid (readV s = .tuple #[cmdZ, .bool false]) := by show _ = _; rw [HV.out, readT, if_neg hs0, if_neg he]
            have he1 : ((cmdT (wordOf s) 0 ⟨#[]⟩).toList == s.toList) = false := by simpa using he
            clear he hs0 c0 c1 c2 f1 f2
            generalize cmdT (wordOf s) 0 ⟨#[]⟩ = t at *
            go_wp2_with fail
            exact bodyPost_ret (v := .tuple #[.agg #[.string ⟨#[]⟩, .int .i64 0, .string ⟨#[]⟩], .bool false]) (by simp [results, Tryd.results23, go_sem, *]) rfl ⟨by rw [HF.out]; rfl, by repeat (first | (with_reducible exact BW) | (with_reducible refine Below.setCell ?_ (by simp <;> omega) _))⟩
      · have HV : Hid _ := readV_plain (.inr h)
        rw [h]
        clear h
        obtain ⟨c0, c1, c2, f1, f2⟩ := V.cells
        obtain ⟨r0, r1, r2, g0, g1, g2⟩ := V.resc
        by_cases hs0 : s.toList = []
        · have HF : Hid (readV s = .tuple #[cmdZ, .bool false]) := by show _ = _; rw [HV.out, readT, if_pos hs0]
          have hs1 : (s.toList == []) = true := by rw [hs0]; rfl
          have BW := V.bel
          clear hs0
          go_wp2_with fail
          exact bodyPost_ret (v := .tuple #[.agg #[.string ⟨#[]⟩, .int .i64 0, .string ⟨#[]⟩], .bool false]) (by simp [results, Tryd.results23, go_sem, *]) rfl ⟨by rw [HF.out]; rfl, by repeat (first | (with_reducible exact BW) | (with_reducible refine Below.setCell ?_ (by simp <;> omega) _))⟩
        · have hs1 : (s.toList == []) = false := by simpa using hs0
          have HC := cmd_spec (wordOf s) 0 ⟨#[]⟩ 
          go_wp2_with fail
          refine (HC _ (by rw [word_size]; have := blank_le s; omega) (by decide) (by decide) (by decide)).mono ?_
          rintro e w9 ⟨rfl, hb9⟩
          clear HC c0 c1 c2 f1 f2 r0 r1 r2 g0 g1 g2
          have V9 := V.below hb9
          obtain ⟨c0, c1, c2, f1, f2⟩ := V9.cells
          obtain ⟨r0, r1, r2, g0, g1, g2⟩ := V9.resc
          have BW := V9.bel
          clear V V9 hb9
          by_cases he : (cmdT (wordOf s) 0 ⟨#[]⟩).toList = s.toList
          · have HF : Hid (readV s = .tuple #[cmdV (wordOf s) 0 ⟨#[]⟩, .bool true]) := by show _ = _; rw [HV.out, readT, if_neg hs0, if_pos he]
            have he1 : ((cmdT (wordOf s) 0 ⟨#[]⟩).toList == s.toList) = true := by rw [he]; simp
            clear he hs0
            generalize cmdT (wordOf s) 0 ⟨#[]⟩ = t at *
            go_wp2_with fail
            exact bodyPost_ret (v := .tuple #[.agg #[.string (wordOf s), .int .i64 0, .string ⟨#[]⟩], .bool true]) (by simp [results, Tryd.results23, go_sem, *]) rfl ⟨by rw [HF.out]; rfl, by repeat (first | (with_reducible exact BW) | (with_reducible refine Below.setCell ?_ (by simp <;> omega) _))⟩
          · have HF : Hid (readV s = .tuple #[cmdZ, .bool false]) := by show _ = _; rw [HV.out, readT, if_neg hs0, if_neg he]
            have he1 : ((cmdT (wordOf s) 0 ⟨#[]⟩).toList == s.toList) = false := by simpa using he
            clear he hs0 c0 c1 c2 f1 f2
            generalize cmdT (wordOf s) 0 ⟨#[]⟩ = t at *
            go_wp2_with fail
            exact bodyPost_ret (v := .tuple #[.agg #[.string ⟨#[]⟩, .int .i64 0, .string ⟨#[]⟩], .bool false]) (by simp [results, Tryd.results23, go_sem, *]) rfl ⟨by rw [HF.out]; rfl, by repeat (first | (with_reducible exact BW) | (with_reducible refine Below.setCell ?_ (by simp <;> omega) _))⟩
      · rw [h]
        have HV : Hid (readV s = readT s (wordOf s) 0 ⟨#[]⟩) := readV_of h (fun v hv => by rw [HE.out] at hv; obtain ⟨_, _, e, _⟩ := numR_some hv; exact absurd e.symm (decDigits_ne _))
        clear h
        have V0 := V
        clear V
        go_wp2_with fail
        go_loopw [7] (fun a wr => a = .int .i64 0 ∧ CV w wr (w.heap.size + 1) (wordOf s) 0 ⟨#[]⟩) (fun a _ => 0)
        case atStart => exact ⟨rfl, V0⟩
        case round =>
          obtain ⟨rfl, V⟩ := hrel
          clear V0
          obtain ⟨c0, c1, c2, f1, f2⟩ := V.cells
          obtain ⟨r0, r1, r2, g0, g1, g2⟩ := V.resc
          by_cases hs0 : s.toList = []
          · have HF : Hid (readV s = .tuple #[cmdZ, .bool false]) := by show _ = _; rw [HV.out, readT, if_pos hs0]
            have hs1 : (s.toList == []) = true := by rw [hs0]; rfl
            have BW := V.bel
            clear hs0
            go_wp2_with fail
            exact bodyPost_ret (v := .tuple #[.agg #[.string ⟨#[]⟩, .int .i64 0, .string ⟨#[]⟩], .bool false]) (by simp [results, Tryd.results23, go_sem, *]) rfl ⟨by rw [HF.out]; rfl, by repeat (first | (with_reducible exact BW) | (with_reducible refine Below.setCell ?_ (by simp <;> omega) _))⟩
          · have hs1 : (s.toList == []) = false := by simpa using hs0
            have HC := cmd_spec (wordOf s) 0 ⟨#[]⟩ 
            go_wp2_with fail
            refine (HC _ (by rw [word_size]; have := blank_le s; omega) (by decide) (by decide) (by decide)).mono ?_
            rintro e w9 ⟨rfl, hb9⟩
            clear HC c0 c1 c2 f1 f2 r0 r1 r2 g0 g1 g2
            have V9 := V.below hb9
            obtain ⟨c0, c1, c2, f1, f2⟩ := V9.cells
            obtain ⟨r0, r1, r2, g0, g1, g2⟩ := V9.resc
            have BW := V9.bel
            clear V V9 hb9
            by_cases he : (cmdT (wordOf s) 0 ⟨#[]⟩).toList = s.toList
            · have HF : Hid (readV s = .tuple #[cmdV (wordOf s) 0 ⟨#[]⟩, .bool true]) := by show _ = _; rw [HV.out, readT, if_neg hs0, if_pos he]
              have he1 : ((cmdT (wordOf s) 0 ⟨#[]⟩).toList == s.toList) = true := by rw [he]; simp
              clear he hs0
              generalize cmdT (wordOf s) 0 ⟨#[]⟩ = t at *
              go_wp2_with fail
              exact bodyPost_ret (v := .tuple #[.agg #[.string (wordOf s), .int .i64 0, .string ⟨#[]⟩], .bool true]) (by simp [results, Tryd.results23, go_sem, *]) rfl ⟨by rw [HF.out]; rfl, by repeat (first | (with_reducible exact BW) | (with_reducible refine Below.setCell ?_ (by simp <;> omega) _))⟩
            · have HF : Hid (readV s = .tuple #[cmdZ, .bool false]) := by show _ = _; rw [HV.out, readT, if_neg hs0, if_neg he]
              have he1 : ((cmdT (wordOf s) 0 ⟨#[]⟩).toList == s.toList) = false := by simpa using he
              clear he hs0 c0 c1 c2 f1 f2
              generalize cmdT (wordOf s) 0 ⟨#[]⟩ = t at *
              go_wp2_with fail
              exact bodyPost_ret (v := .tuple #[.agg #[.string ⟨#[]⟩, .int .i64 0, .string ⟨#[]⟩], .bool false]) (by simp [results, Tryd.results23, go_sem, *]) rfl ⟨by rw [HF.out]; rfl, by repeat (first | (with_reducible exact BW) | (with_reducible refine Below.setCell ?_ (by simp <;> omega) _))⟩
      · have HV : Hid _ := (readV_text h).trans (by rw [HE.out])
        rw [h]
        clear h
        obtain ⟨c0, c1, c2, f1, f2⟩ := V.cells
        obtain ⟨r0, r1, r2, g0, g1, g2⟩ := V.resc
        by_cases hs0 : s.toList = []
        · have HF : Hid (readV s = .tuple #[cmdZ, .bool false]) := by show _ = _; rw [HV.out, readT, if_pos hs0]
          have hs1 : (s.toList == []) = true := by rw [hs0]; rfl
          have BW := V.bel
          clear hs0
          go_wp2_with fail
          exact bodyPost_ret (v := .tuple #[.agg #[.string ⟨#[]⟩, .int .i64 0, .string ⟨#[]⟩], .bool false]) (by simp [results, Tryd.results23, go_sem, *]) rfl ⟨by rw [HF.out]; rfl, by repeat (first | (with_reducible exact BW) | (with_reducible refine Below.setCell ?_ (by simp <;> omega) _))⟩
        · have hs1 : (s.toList == []) = false := by simpa using hs0
          have HC := cmd_spec (wordOf s) 0 ⟨#[]⟩ 
          go_wp2_with fail
          refine (HC _ (by rw [word_size]; have := blank_le s; omega) (by have := rest_size s; first | omega | decide) (by decide) (by decide)).mono ?_
          rintro e w9 ⟨rfl, hb9⟩
          clear HC c0 c1 c2 f1 f2 r0 r1 r2 g0 g1 g2
          have V9 := (V.setX ⟨#[]⟩).below hb9
          obtain ⟨c0, c1, c2, f1, f2⟩ := V9.cells
          obtain ⟨r0, r1, r2, g0, g1, g2⟩ := V9.resc
          have BW := V9.bel
          clear V V9 hb9
          by_cases he : (cmdT (wordOf s) 0 ⟨#[]⟩).toList = s.toList
          · have HF : Hid (readV s = .tuple #[cmdV (wordOf s) 0 ⟨#[]⟩, .bool true]) := by show _ = _; rw [HV.out, readT, if_neg hs0, if_pos he]
            have he1 : ((cmdT (wordOf s) 0 ⟨#[]⟩).toList == s.toList) = true := by rw [he]; simp
            clear he hs0
            generalize cmdT (wordOf s) 0 ⟨#[]⟩ = t at *
            go_wp2_with fail
            exact bodyPost_ret (v := .tuple #[.agg #[.string (wordOf s), .int .i64 0, .string ⟨#[]⟩], .bool true]) (by simp [results, Tryd.results23, go_sem, *]) rfl ⟨by rw [HF.out]; rfl, by repeat (first | (with_reducible exact BW) | (with_reducible refine Below.setCell ?_ (by simp <;> omega) _))⟩
          · have HF : Hid (readV s = .tuple #[cmdZ, .bool false]) := by show _ = _; rw [HV.out, readT, if_neg hs0, if_neg he]
            have he1 : ((cmdT (wordOf s) 0 ⟨#[]⟩).toList == s.toList) = false := by simpa using he
            clear he hs0 c0 c1 c2 f1 f2
            generalize cmdT (wordOf s) 0 ⟨#[]⟩ = t at *
            go_wp2_with fail
            exact bodyPost_ret (v := .tuple #[.agg #[.string ⟨#[]⟩, .int .i64 0, .string ⟨#[]⟩], .bool false]) (by simp [results, Tryd.results23, go_sem, *]) rfl ⟨by rw [HF.out]; rfl, by repeat (first | (with_reducible exact BW) | (with_reducible refine Below.setCell ?_ (by simp <;> omega) _))⟩
end Go.Proofs.YtadjhnaiphnpoaaDoor
