/- Messages of the specification. -/
import Derived.Test.YtadjhnaiphnpoaaDoorMsP
import Derived.Test.YtadjhnaiphnpoaaDoorAppR
import Derived.Test.YtadjhnaiphnpoaaDoorNmS
namespace Go.Proofs.YtadjhnaiphnpoaaDoor
open Go.RowKit Go.Lib

set_option maxRecDepth 100000 in
set_option maxHeartbeats 3200000 in
theorem msgs_spec (s : ByteArray) (w : World) (hs : s.size ≤ 2097152) :
    Calls Tryd.prog 14 #[.string s] w fun e w' => (∃ v, e = .returned (.tuple #[v, .int .i64 (msgs s).2.1, .int .i64 (msgs s).2.2]) ∧ Ws w' w.heap.size v (msgs s).1) ∧ Below w.heap.size w w' := by
  obtain ⟨i0, hi0, hz0, hz1, hz2⟩ := info_parts info_strR
  have W0 : Ws (w.alloc (.cells #[] 9)) w.heap.size (.slice (some ⟨w.heap.size, 0, none⟩) 0 0) [] := own_lit0 w w.heap.size 9 1 (Nat.le_refl _)
  have B0 := bel_alloc w (.cells #[] 9)
  go_enter Tryd.func14, Tryd.ntmps14
  go_wp2_with fail
  go_loopw [5, 6] (fun v x wr => ∃ (ss : List ByteArray) (i k : Nat) (b : Option Addr) (c : Nat), v = .slice b ss.length c ∧ x = .int .i64 i ∧ i ≤ s.size ∧ ss.length + k = 100 ∧ Hid (msgR s k i ss = msgs s) ∧ Ws wr w.heap.size v ss ∧ Below w.heap.size w wr) (fun _ x _ => s.size - (RowKit.intOf x).toNat)
  case atStart => exact ⟨[], 0, 100, _, _, rfl, rfl, Nat.zero_le _, rfl, rfl, W0, B0⟩
  case round =>
    obtain ⟨ss, i, k, b, c, rfl, rfl, hi, hk, HM, hW, hB⟩ := hrel
    clear W0 B0
    have hs1 := hB.size
    by_cases hlt : i < s.size
    · by_cases h100 : ss.length < 100
      · obtain ⟨k, rfl⟩ : ∃ j, k = j + 1 := ⟨k - 1, by omega⟩
        have hz : (s.extract i s.size).size ≤ 2097152 := by rw [ByteArray.size_extract]; omega
        have HV : Hid (nextV (s.extract i s.size) = nmV (nextT (s.extract i s.size)).1 (nextT (s.extract i s.size)).2.1 (nextT (s.extract i s.size)).2.2) := nextV_nm _
        obtain ⟨n0, n1, k0, k1⟩ := next_bounds (s.extract i s.size) hz
        by_cases hok : (nextT (s.extract i s.size)).2.2 = 0
        · obtain ⟨n, hn, hn0, hn1⟩ := next_ok hok
          have hn2 : i + n ≤ s.size := by rw [ByteArray.size_extract] at hn1; omega
          have HM2 : Hid (msgR s k (i + n) (ss ++ [(nextT (s.extract i s.size)).1]) = msgs s) := by
            show _ = _
            rw [← HM.out, msgR_more (by omega) hok, hn]; rfl
          rw [hok, hn] at HV
          clear hok hn n0 n1 k0 k1 hn1 HM
          go_wp2_with fail
          refine (next_spec (s.extract i s.size) _ hz).mono ?_
          rintro e w1 ⟨rfl, hb1⟩
          rw [HV.out, nmV]
          have hW1 := ws_below hW hb1
          have hB1 := hB.trans (hb1.mono hs1)
          clear hW hB hb1 hs1 HV hz
          have hs1 := hB1.size
          generalize (nextT (s.extract i s.size)).1 = t at *
          have own1 := World.ownsRow.alloc hW1 (.cells #[.string t] 9)
          go_wp2_with (at_builtin; go_must (refine wpList_append_any _ rfl _ _ 26 rfl w.heap.size 9 i0 (.string ByteArray.empty) 1 16 Tryd.underlying26 hi0 hz0 hz1 hz2 rfl (by decide) _ _ _ rfl own1 (some ⟨w1.heap.size, 0, none⟩) 1 1 ([t].map Value.string) rfl rfl (ws_news (ws_lit1 w1 w.heap.size t hs1)) (ws_one _) (by unfold maxLen; omega) (by omega) (by rw [size_alloc]; omega) _ rfl ?_))
          intro b1 c1 w2 own2 gr1 _
          obtain ⟨W2, B2⟩ := ws_app1 rfl hW1 hB1 own2 gr1
          clear own1 own2 gr1 hW1 hB1
          go_wp2_with fail
          go_roundw
          case rel => exact ⟨ss ++ [t], i + n, k, b1, c1, by simp, by go_num, by omega, by simp; omega, HM2, W2, B2⟩
          case measure => simp [RowKit.intOf]; omega
        · have HF : Hid (msgs s = (ss, i, (nextT (s.extract i s.size)).2.2)) := by show _ = _; rw [← HM.out, msgR_stop (by omega) hok]
          clear HM
          generalize nextT (s.extract i s.size) = x at *
          obtain ⟨xb, xn, xk⟩ := x
          simp only [] at HV HF hok n0 n1 k0 k1
          go_wp2_with fail
          refine (next_spec (s.extract i s.size) _ hz).mono ?_
          rintro e w1 ⟨rfl, hb1⟩
          rw [HV.out, nmV]
          have hW1 := ws_below hW hb1
          have hB1 := hB.trans (hb1.mono hs1)
          clear hW hB hb1 hs1 HV hz
          go_wp2_with fail
          try go_quiet (fail)
          try go_wp2_with fail
          exact bodyPost_ret (v := .tuple #[.slice b ss.length c, .int .i64 i, .int .i64 xk]) (by simp [results, Tryd.results14, go_sem, *]) rfl ⟨⟨_, by rw [HF.out], by rw [HF.out]; exact hW1⟩, hB1⟩
      · have HF : Hid (msgs s = (ss, i, 0)) := by show _ = _; rw [← HM.out, msgR_end (.inr (by omega))]
        clear HM
        go_wp2_with fail
        try go_quiet (fail)
        try go_wp2_with fail
        exact bodyPost_ret (v := .tuple #[.slice b ss.length c, .int .i64 i, .int .i64 0]) (by simp [results, Tryd.results14, go_sem, *]) rfl ⟨⟨_, by rw [HF.out], by rw [HF.out]; exact hW⟩, hB⟩
    · have HF : Hid (msgs s = (ss, i, 0)) := by show _ = _; rw [← HM.out, msgR_end (.inl (by omega))]
      clear HM
      go_wp2_with fail
      try go_quiet (fail)
      try go_wp2_with fail
      exact bodyPost_ret (v := .tuple #[.slice b ss.length c, .int .i64 i, .int .i64 0]) (by simp [results, Tryd.results14, go_sem, *]) rfl ⟨⟨_, by rw [HF.out], by rw [HF.out]; exact hW⟩, hB⟩
end Go.Proofs.YtadjhnaiphnpoaaDoor
