/- NextMessage of the specification: its walk. -/
import Derived.Test.YtadjhnaiphnpoaaDoorNmA
namespace Go.Proofs.YtadjhnaiphnpoaaDoor
open Go.RowKit Go.Lib

set_option maxRecDepth 100000 in
set_option maxHeartbeats 1600000 in
theorem next_spec (s : ByteArray) (w : World) (hs : s.size ≤ 2097152) :
    Calls Tryd.prog 12 #[.string s] w fun e w' => e = .returned (nextV s) ∧ Below w.heap.size w w' := by
  have HS : Hid (∀ u, Calls Tryd.prog 36 #[.string s, .string headT] u fun e w' => e = .returned (.bool (st3 s.data.toList headT.data.toList != 2)) ∧ Below u.heap.size u w') := fun u => starts_any s headT u hs
  have hz : headT.size = 16 := rfl
  go_enter Tryd.func12, Tryd.ntmps12
  go_wp2_with fail
  refine Calls.mono (HS.out w) ?_
  rintro e w1 ⟨rfl, hb1⟩
  clear HS
  by_cases h2 : st3 s.data.toList headT.data.toList = 2
  · have HF : Hid _ := nextV_a h2
    rw [h2]
    clear h2
    go_wp2_with fail
    exact bodyPost_ret (v := nmV ⟨#[]⟩ 0 2) (by simp [nmV, results, Tryd.results12, go_sem, *]) rfl ⟨by rw [HF.out], hb1⟩
  · have hB : (st3 s.data.toList headT.data.toList != 2) = true := by simpa using h2
    rw [hB]
    clear hB
    have H2 : Hid (st3 s.data.toList headT.data.toList ≠ 2) := h2
    clear h2
    by_cases h16 : s.size ≤ 16
    · have HF : Hid _ := nextV_b H2.out h16
      go_wp2_with fail
      exact bodyPost_ret (v := nmV ⟨#[]⟩ 0 1) (by simp [nmV, results, Tryd.results12, go_sem, *]) rfl ⟨by rw [HF.out], hb1⟩
    · go_wp2_with fail
      go_loop [6] (fun a => ∃ i : Nat, 16 ≤ i ∧ i ≤ s.size ∧ a = .int .i64 i ∧ ∀ (j : Nat) (b : UInt8), j < i - 16 → (s.data.toList.drop 16)[j]? = some b → isDg b = true) (fun a => s.size - (RowKit.intOf a).toNat)
      case atStart => exact ⟨16, Nat.le_refl _, by omega, rfl, fun j b h => absurd h (by omega)⟩
      case round =>
        obtain ⟨i, hi, his, rfl, hag⟩ := hrel
        by_cases hlt : i < s.size
        · have hb := byte_at s i hlt
          cases hdg : isDg s[i] with
          | true =>
            have hag' : Hid (∀ (j : Nat) (b : UInt8), j < i + 1 - 16 → (s.data.toList.drop 16)[j]? = some b → isDg b = true) := by
              intro j b hj h
              by_cases e : j = i - 16
              · subst e
                rw [List.getElem?_drop, show 16 + (i - 16) = i by omega, hb] at h
                rw [← Option.some.inj h]; exact hdg
              · exact hag j b (by omega) h
            clear hag hb
            go_wp2_with fail
            refine (dg_spec _ _).mono ?_
            rintro e w2 ⟨rfl, rfl⟩
            rw [hdg]
            clear hdg
            go_wp2_with fail
            go_round
            case rel => exact ⟨i + 1, by omega, by omega, by go_num, hag'.out⟩
            case measure => simp [RowKit.intOf]; omega
          | false =>
            have HE : Hid (dgE s = i) := by
              show _ = _
              rw [dgE, dgN_eq _ (i - 16) hag (fun b h => by rw [List.getElem?_drop, show 16 + (i - 16) = i by omega, hb] at h; rw [← Option.some.inj h]; exact hdg) (by rw [List.length_drop, ← Lib.size_eq]; omega)]
              omega
            clear hag hb
            go_wp2_with fail
            refine (dg_spec _ _).mono ?_
            rintro e w2 ⟨rfl, rfl⟩
            rw [hdg]
            clear hdg
            go_wp2_with fail
            refine (size_spec (s.extract 16 i) _ (by rw [ByteArray.size_extract]; omega)).mono ?_
            rintro e w3 ⟨rfl, rfl⟩
            have HX : Hid ((s.extract 16 i).data.toList = (s.data.toList.drop 16).take (dgN (s.data.toList.drop 16))) := by
              show _ = _
              rw [ext_list, ← HE.out, dgE, show 16 + dgN (s.data.toList.drop 16) - 16 = dgN (s.data.toList.drop 16) by omega]
            rw [HX.out]
            cases hz2 : szR ((s.data.toList.drop 16).take (dgN (s.data.toList.drop 16))) with
            | none =>
              have HF : Hid _ := nextV_c H2.out h16 hz2
              rw [szI_none hz2]
              clear hz2
              go_wp2_with fail
              exact bodyPost_ret (v := nmV ⟨#[]⟩ 0 2) (by simp [nmV, results, Tryd.results12, go_sem, *]) rfl ⟨by rw [HF.out], hb1⟩
            | some n =>
              have hn5 := (szR_some hz2).1
              rw [szI_some hz2]
              have HZ : Hid _ := hz2
              clear hz2
              go_wp2_with fail
              refine (starts_any (s.extract i s.size) endT _ (by rw [ByteArray.size_extract]; omega)).mono ?_
              rintro e w4 ⟨rfl, hb4⟩
              have hb14 := hb1.trans (hb4.mono hb1.size)
              rw [ext_end]
              have hEi : dgE s = i := HE.out
              by_cases h3 : st3 (s.data.toList.drop i) endT.data.toList = 2
              · have HF : Hid _ := nextV_d H2.out h16 HZ.out (by rw [hEi]; exact h3)
                rw [h3]
                clear h3 hEi
                go_wp2_with fail
                exact bodyPost_ret (v := nmV ⟨#[]⟩ 0 2) (by simp [nmV, results, Tryd.results12, go_sem, *]) rfl ⟨by rw [HF.out], hb14⟩
              · have hB : (st3 (s.data.toList.drop i) endT.data.toList != 2) = true := by simpa using h3
                rw [hB]
                clear hB
                skip
                by_cases h4 : s.size < i + 4 + n
                · have HF : Hid _ := nextV_e H2.out h16 HZ.out (by rw [hEi]; exact h3) (by rw [hEi]; exact h4)
                  clear h3 hEi
                  go_wp2_with fail
                  exact bodyPost_ret (v := nmV ⟨#[]⟩ 0 1) (by simp [nmV, results, Tryd.results12, go_sem, *]) rfl ⟨by rw [HF.out], hb14⟩
                · have HF : Hid (nextV s = nmV (s.extract (i + 4) (i + 4 + n)) ((i + 4 + n : Nat) : Int) 0) := by have h := nextV_f H2.out h16 HZ.out (by rw [hEi]; exact h3) (by rw [hEi]; exact h4); rw [hEi] at h; exact h
                  clear h3 hEi
                  go_wp2_with fail
                  all_goals exact bodyPost_ret (v := nmV (s.extract (i + 4) (i + 4 + n)) ((i + 4 + n : Nat) : Int) 0) (by simp [nmV, results, Tryd.results12, go_sem, *]) rfl ⟨by rw [HF.out], hb14⟩
        · have HE : Hid (dgE s = i) := by
            show _ = _
            rw [dgE, dgN_eq _ (i - 16) hag (fun b h => by rw [List.getElem?_eq_none (by rw [List.length_drop, ← Lib.size_eq]; omega)] at h; exact absurd h (by simp)) (by rw [List.length_drop, ← Lib.size_eq]; omega)]
            omega
          clear hag
          go_wp2_with fail
          refine (size_spec (s.extract 16 i) _ (by rw [ByteArray.size_extract]; omega)).mono ?_
          rintro e w3 ⟨rfl, rfl⟩
          have HX : Hid ((s.extract 16 i).data.toList = (s.data.toList.drop 16).take (dgN (s.data.toList.drop 16))) := by
            show _ = _
            rw [ext_list, ← HE.out, dgE, show 16 + dgN (s.data.toList.drop 16) - 16 = dgN (s.data.toList.drop 16) by omega]
          rw [HX.out]
          cases hz2 : szR ((s.data.toList.drop 16).take (dgN (s.data.toList.drop 16))) with
          | none =>
            have HF : Hid _ := nextV_c H2.out h16 hz2
            rw [szI_none hz2]
            clear hz2
            go_wp2_with fail
            exact bodyPost_ret (v := nmV ⟨#[]⟩ 0 2) (by simp [nmV, results, Tryd.results12, go_sem, *]) rfl ⟨by rw [HF.out], hb1⟩
          | some n =>
            have hn5 := (szR_some hz2).1
            rw [szI_some hz2]
            have HZ : Hid _ := hz2
            clear hz2
            go_wp2_with fail
            refine (starts_any (s.extract i s.size) endT _ (by rw [ByteArray.size_extract]; omega)).mono ?_
            rintro e w4 ⟨rfl, hb4⟩
            have hb14 := hb1.trans (hb4.mono hb1.size)
            rw [ext_end]
            have hEi : dgE s = i := HE.out
            by_cases h3 : st3 (s.data.toList.drop i) endT.data.toList = 2
            · have HF : Hid _ := nextV_d H2.out h16 HZ.out (by rw [hEi]; exact h3)
              rw [h3]
              clear h3 hEi
              go_wp2_with fail
              exact bodyPost_ret (v := nmV ⟨#[]⟩ 0 2) (by simp [nmV, results, Tryd.results12, go_sem, *]) rfl ⟨by rw [HF.out], hb14⟩
            · have hB : (st3 (s.data.toList.drop i) endT.data.toList != 2) = true := by simpa using h3
              rw [hB]
              clear hB
              skip
              by_cases h4 : s.size < i + 4 + n
              · have HF : Hid _ := nextV_e H2.out h16 HZ.out (by rw [hEi]; exact h3) (by rw [hEi]; exact h4)
                clear h3 hEi
                go_wp2_with fail
                exact bodyPost_ret (v := nmV ⟨#[]⟩ 0 1) (by simp [nmV, results, Tryd.results12, go_sem, *]) rfl ⟨by rw [HF.out], hb14⟩
              · have HF : Hid (nextV s = nmV (s.extract (i + 4) (i + 4 + n)) ((i + 4 + n : Nat) : Int) 0) := by have h := nextV_f H2.out h16 HZ.out (by rw [hEi]; exact h3) (by rw [hEi]; exact h4); rw [hEi] at h; exact h
                clear h3 hEi
                go_wp2_with fail
                all_goals exact bodyPost_ret (v := nmV (s.extract (i + 4) (i + 4 + n)) ((i + 4 + n : Nat) : Int) 0) (by simp [nmV, results, Tryd.results12, go_sem, *]) rfl ⟨by rw [HF.out], hb14⟩
end Go.Proofs.YtadjhnaiphnpoaaDoor
