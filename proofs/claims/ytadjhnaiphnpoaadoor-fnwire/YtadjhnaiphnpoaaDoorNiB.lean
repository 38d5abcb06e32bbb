/- A message's body, and NextMessage of the program. -/
import Derived.Test.YtadjhnaiphnpoaaDoorNiA
namespace Go.Proofs.YtadjhnaiphnpoaaDoor
open Go.RowKit Go.Lib

set_option maxRecDepth 100000 in
set_option maxHeartbeats 1600000 in
theorem body_any (b : Nat) (r : ByteArray) (n : Nat) (w : World) (hn : n ≤ 5000) (hw : WR w b r 0) :
    Calls Tryd.prog 41 #[.pointer (some ⟨b, 0, none⟩), .int .i64 n] w fun e w' =>
      (if r.size < n then e = .returned (.string ⟨#[]⟩) ∧ WR w' b r 1 else e = .returned (.string (r.extract 0 n)) ∧ WR w' b (r.extract n r.size) 0) ∧ Below b w w' := by
  obtain ⟨c0, c1, f0, f1⟩ := hw.cells
  have hlt := hw.lt
  by_cases h : r.size < n
  · simp only [if_pos h]
    go_enter Tryd.func41, Tryd.ntmps41
    go_wp2_with fail
    go_ret
    exact ⟨⟨rfl, hw.set1 1⟩, bset _ _ _ _⟩
  · simp only [if_neg h]
    have hz : (r.extract 0 n).size ≤ 2097152 := by rw [ByteArray.size_extract]; omega
    go_enter Tryd.func41, Tryd.ntmps41
    go_wp2_with fail
    refine (clone_any (r.extract 0 n) _ hz).mono ?_
    rintro e w1 ⟨rfl, hb1⟩
    have hw1 := hw.below hb1
    have HB : Hid (Below b w w1) := hb1.mono (Nat.le_of_lt hlt)
    clear c0 c1 f0 f1 hw hb1
    obtain ⟨c0, c1, f0, f1⟩ := hw1.cells
    go_wp2_with fail
    go_ret
    exact ⟨⟨rfl, hw1.set0 _⟩, HB.out.trans (bset _ _ _ _)⟩

theorem below_dq {B : Nat} {a w : World} (n : Nat) (h : Below B a w) : Below B a (w.drewN n) := ⟨h.os, h.tape, h.output, h.size, h.block⟩
theorem ba_list (l : List UInt8) : (⟨l.toArray⟩ : ByteArray).data.toList = l := rfl
theorem ba_size (l : List UInt8) : (⟨l.toArray⟩ : ByteArray).size = l.length := by show l.toArray.size = _; simp

set_option maxRecDepth 100000 in
set_option maxHeartbeats 1600000 in
theorem next_impl (s : ByteArray) (w : World) (hs : s.size ≤ 2097152) (hL : LibOk w) :
    Calls Tryd.prog 13 #[.string s] w fun e w' => e = .returned (nextV s) ∧ Below w.heap.size w w' := by
  have HL : Hid (LibOk w) := hL
  clear hL
  have hz := Lib.size_eq s
  have V0 : WR (w.alloc (.cells #[.string s, .int .i64 0] 51)) w.heap.size s 0 := heap_alloc_new w _
  have B0 : Below w.heap.size w (w.alloc (.cells #[.string s, .int .i64 0] 51)) := bel_alloc w _
  go_enter Tryd.func13, Tryd.ntmps13
  go_wp2_with fail
  generalize w.alloc (.cells #[.string s, .int .i64 0] 51) = wa at *
  refine (pass_any w.heap.size s headT _ V0).mono ?_
  rintro e w1 ⟨rfl, V, hb1⟩
  have BW := B0.trans hb1
  clear V0 B0 hb1
  rcases st3_cases s.data.toList headT.data.toList with h | h | h
  · have hR : passR s headT = ⟨(s.data.toList.drop 16).toArray⟩ := by rw [passR, if_pos h]; rfl
    have hK : passK s headT = 0 := by rw [passK, h]; rfl
    rw [hR, hK] at V
    have H2 : Hid (st3 s.data.toList headT.data.toList ≠ 2) := by show _ ≠ _; omega
    have h16 : 16 ≤ s.size := by rw [hz]; exact st3_len0 h
    have hrs : (⟨(s.data.toList.drop 16).toArray⟩ : ByteArray).size = s.size - 16 := by rw [ba_size, List.length_drop, ← hz]
    have HX : Hid (dgE s = 16 + dgN (s.data.toList.drop 16)) := rfl
    have hdl := dgE_le s h16
    clear hR hK h
    go_wp2_with fail
    refine (size_any w.heap.size _ _ (by rw [hrs]; omega) V (HL.out.below BW)).mono ?_
    rintro e w2 ⟨⟨n, rfl, n0, n1, hn⟩, V2, hb2⟩
    have BW2 := BW.trans hb2
    clear BW V hb2
    have BW := BW2
    clear BW2
    by_cases he : s.size = 16
    · have hsr : sizeR ⟨(s.data.toList.drop 16).toArray⟩ = ⟨(s.data.toList.drop 16).toArray⟩ := by rw [sizeR, if_pos (by omega)]
      have hsk : sizeK ⟨(s.data.toList.drop 16).toArray⟩ = 1 := by rw [sizeK, if_pos (by omega)]
      rw [hsr, hsk] at V2
      have V := V2
      clear V2 hn hsr hsk hrs
      have HF : Hid _ := nextV_b H2.out (by omega : s.size ≤ 16)
      go_wp2_with fail
      refine (pass_not w.heap.size _ endT 1 (.inl rfl) _ V).mono ?_
      rintro e w9 ⟨rfl, rfl⟩
      go_wp2_with fail
      refine (body_not w.heap.size _ 1 _ (.inl rfl) _ V).mono ?_
      rintro e w9 ⟨rfl, rfl⟩
      obtain ⟨c0, c1, f0, f1⟩ := V.cells
      go_wp2_with fail
      go_quiet (fail)
      go_wp2_with fail
      exact bodyPost_ret (v := nmV ⟨#[]⟩ 0 1) (by simp [nmV, results, Tryd.results13, go_sem, *]) rfl ⟨by rw [HF.out], below_dq _ BW⟩
    · have hn16 : ¬ s.size ≤ 16 := by omega
      have hr0 : ¬ (⟨(s.data.toList.drop 16).toArray⟩ : ByteArray).size = 0 := by omega
      cases hq : szR ((s.data.toList.drop 16).take (dgN (s.data.toList.drop 16))) with
      | none =>
        have hsr : sizeR ⟨(s.data.toList.drop 16).toArray⟩ = ⟨(s.data.toList.drop 16).toArray⟩ := by rw [sizeR, if_neg hr0, ba_list, hq]
        have hsk : sizeK ⟨(s.data.toList.drop 16).toArray⟩ = 2 := by rw [sizeK, if_neg hr0, ba_list, hq]
        rw [hsr, hsk] at V2
        have V := V2
        have HF : Hid _ := nextV_c H2.out hn16 hq
        clear V2 hn hsr hsk hrs hr0 hq
        go_wp2_with fail
        refine (pass_not w.heap.size _ endT 2 (.inr rfl) _ V).mono ?_
        rintro e w9 ⟨rfl, rfl⟩
        go_wp2_with fail
        refine (body_not w.heap.size _ 2 _ (.inr rfl) _ V).mono ?_
        rintro e w9 ⟨rfl, rfl⟩
        obtain ⟨c0, c1, f0, f1⟩ := V.cells
        go_wp2_with fail
        go_quiet (fail)
        go_wp2_with fail
        exact bodyPost_ret (v := nmV ⟨#[]⟩ 0 2) (by simp [nmV, results, Tryd.results13, go_sem, *]) rfl ⟨by rw [HF.out], below_dq _ BW⟩
      | some m =>
        have hnm := hn m hr0 hq
        subst hnm
        have hm5 := (szR_some hq).1
        have hsr : sizeR ⟨(s.data.toList.drop 16).toArray⟩ = ⟨(s.data.toList.drop (dgE s)).toArray⟩ := by
          rw [sizeR, if_neg hr0, ba_list, hq]; simp only []; rw [List.drop_drop, HX.out]
        have hsk : sizeK ⟨(s.data.toList.drop 16).toArray⟩ = 0 := by rw [sizeK, if_neg hr0, ba_list, hq]
        rw [hsr, hsk] at V2
        have V := V2
        have HQ : Hid _ := hq
        clear V2 hn hsr hsk hrs hr0 hq
        go_wp2_with fail
        refine (pass_any w.heap.size _ endT _ V).mono ?_
        rintro e w3 ⟨rfl, V3, hb3⟩
        have BW3 := BW.trans hb3
        clear V BW hb3
        have BW := BW3
        clear BW3
        rcases st3_cases (s.data.toList.drop (dgE s)) endT.data.toList with h | h | h
        · have hR : passR ⟨(s.data.toList.drop (dgE s)).toArray⟩ endT = ⟨(s.data.toList.drop (dgE s + 4)).toArray⟩ := by
            rw [passR, ba_list, if_pos h, List.drop_drop]; rfl
          have hK : passK ⟨(s.data.toList.drop (dgE s)).toArray⟩ endT = 0 := by rw [passK, ba_list, h]; rfl
          rw [hR, hK] at V3
          have V := V3
          have h4 := st3_len0 h
          rw [List.length_drop, ← hz] at h4
          have e4 : endT.data.toList.length = 4 := rfl
          rw [e4] at h4
          have hrs : (⟨(s.data.toList.drop (dgE s + 4)).toArray⟩ : ByteArray).size = s.size - (dgE s + 4) := by rw [ba_size, List.length_drop, ← hz]
          have H3 : Hid (st3 (s.data.toList.drop (dgE s)) endT.data.toList ≠ 2) := by show _ ≠ _; omega
          clear V3 hR hK h e4
          go_wp2_with fail
          refine (body_any w.heap.size _ m _ hm5 V).mono ?_
          rintro e w4 ⟨hif, hb4⟩
          have BW4 := BW.trans hb4
          clear V BW hb4
          have BW := BW4
          clear BW4
          by_cases hlt : (⟨(s.data.toList.drop (dgE s + 4)).toArray⟩ : ByteArray).size < m
          · rw [if_pos hlt] at hif
            obtain ⟨rfl, V⟩ := hif
            have HF : Hid _ := nextV_e H2.out hn16 HQ.out H3.out (by omega)
            clear hlt hrs
            obtain ⟨c0, c1, f0, f1⟩ := V.cells
            go_wp2_with fail
            go_quiet (fail)
            go_wp2_with fail
            exact bodyPost_ret (v := nmV ⟨#[]⟩ 0 1) (by simp [nmV, results, Tryd.results13, go_sem, *]) rfl ⟨by rw [HF.out], below_dq _ BW⟩
          · rw [if_neg hlt] at hif
            obtain ⟨rfl, V⟩ := hif
            have hb : (⟨(s.data.toList.drop (dgE s + 4)).toArray⟩ : ByteArray).extract 0 m = s.extract (dgE s + 4) (dgE s + 4 + m) := by
              apply ByteArray.ext
              apply Array.ext'
              rw [ext_list, ext_list, ba_list, List.drop_zero]
              congr 1; omega
            have hrz : ((⟨(s.data.toList.drop (dgE s + 4)).toArray⟩ : ByteArray).extract m (⟨(s.data.toList.drop (dgE s + 4)).toArray⟩ : ByteArray).size).size = s.size - (dgE s + 4 + m) := by
              rw [ByteArray.size_extract]; omega
            have HF : Hid _ := nextV_f H2.out hn16 HQ.out H3.out (by omega)
            rw [hb]
            have hle : dgE s + 4 + m ≤ s.size := by omega
            clear hlt hrs hb
            generalize (⟨(s.data.toList.drop (dgE s + 4)).toArray⟩ : ByteArray).extract m (⟨(s.data.toList.drop (dgE s + 4)).toArray⟩ : ByteArray).size = r9 at *
            have hsub : (s.size : Int) - (r9.size : Int) = ((dgE s + 4 + m : Nat) : Int) := by omega
            generalize s.extract (dgE s + 4) (dgE s + 4 + m) = bd at *
            generalize dgE s + 4 + m = k at *
            have hwk : IntKind.wrap .i64 (k : Int) = (k : Int) := by
              have h1 : (k : Int) % (2 ^ IntKind.i64.bits : Int) = k := Int.emod_eq_of_lt (by omega) (by simp only [IntKind.bits]; omega)
              have h2 : ¬ (k : Int) ≥ (2 ^ (IntKind.i64.bits - 1) : Int) := by simp only [IntKind.bits]; omega
              simp only [IntKind.wrap, h1, h2, decide_false, Bool.and_false]
              rfl
            clear hrz hle hz
            obtain ⟨c0, c1, f0, f1⟩ := V.cells
            go_wp2_with fail
            go_quiet (fail)
            go_wp2_with fail
            exact bodyPost_ret (v := nmV bd k 0) (by simp [nmV, results, Tryd.results13, go_sem, *]) rfl ⟨by rw [HF.out], below_dq _ BW⟩
        · have hR : passR ⟨(s.data.toList.drop (dgE s)).toArray⟩ endT = ⟨(s.data.toList.drop (dgE s)).toArray⟩ := by rw [passR, ba_list, if_neg (by omega)]
          have hK : passK ⟨(s.data.toList.drop (dgE s)).toArray⟩ endT = 1 := by rw [passK, ba_list, h]; rfl
          rw [hR, hK] at V3
          have V := V3
          have h4 := st3_len1 h
          rw [List.length_drop, ← hz, show endT.data.toList.length = 4 from rfl] at h4
          have HF : Hid _ := nextV_e H2.out hn16 HQ.out (by omega) (by omega)
          clear V3 hR hK h h4
          go_wp2_with fail
          refine (body_not w.heap.size _ 1 _ (.inl rfl) _ V).mono ?_
          rintro e w9 ⟨rfl, rfl⟩
          obtain ⟨c0, c1, f0, f1⟩ := V.cells
          go_wp2_with fail
          go_quiet (fail)
          go_wp2_with fail
          exact bodyPost_ret (v := nmV ⟨#[]⟩ 0 1) (by simp [nmV, results, Tryd.results13, go_sem, *]) rfl ⟨by rw [HF.out], below_dq _ BW⟩
        · have hR : passR ⟨(s.data.toList.drop (dgE s)).toArray⟩ endT = ⟨(s.data.toList.drop (dgE s)).toArray⟩ := by rw [passR, ba_list, if_neg (by omega)]
          have hK : passK ⟨(s.data.toList.drop (dgE s)).toArray⟩ endT = 2 := by rw [passK, ba_list, h]; rfl
          rw [hR, hK] at V3
          have V := V3
          have HF : Hid _ := nextV_d H2.out hn16 HQ.out h
          clear V3 hR hK h
          go_wp2_with fail
          refine (body_not w.heap.size _ 2 _ (.inr rfl) _ V).mono ?_
          rintro e w9 ⟨rfl, rfl⟩
          obtain ⟨c0, c1, f0, f1⟩ := V.cells
          go_wp2_with fail
          go_quiet (fail)
          go_wp2_with fail
          exact bodyPost_ret (v := nmV ⟨#[]⟩ 0 2) (by simp [nmV, results, Tryd.results13, go_sem, *]) rfl ⟨by rw [HF.out], below_dq _ BW⟩
  · have hR : passR s headT = s := by rw [passR, if_neg (by omega)]
    have hK : passK s headT = 1 := by rw [passK, h]; rfl
    rw [hR, hK] at V
    have h4 := st3_len1 h
    rw [← hz, show headT.data.toList.length = 16 from rfl] at h4
    have HF : Hid _ := nextV_b (by omega : st3 s.data.toList headT.data.toList ≠ 2) (by omega)
    clear hR hK h h4
    go_wp2_with fail
    refine (size_not w.heap.size _ 1 (.inl rfl) _ V).mono ?_
    rintro e w9 ⟨rfl, rfl⟩
    go_wp2_with fail
    refine (pass_not w.heap.size _ endT 1 (.inl rfl) _ V).mono ?_
    rintro e w9 ⟨rfl, rfl⟩
    go_wp2_with fail
    refine (body_not w.heap.size _ 1 _ (.inl rfl) _ V).mono ?_
    rintro e w9 ⟨rfl, rfl⟩
    obtain ⟨c0, c1, f0, f1⟩ := V.cells
    go_wp2_with fail
    go_quiet (fail)
    go_wp2_with fail
    exact bodyPost_ret (v := nmV ⟨#[]⟩ 0 1) (by simp [nmV, results, Tryd.results13, go_sem, *]) rfl ⟨by rw [HF.out], below_dq _ BW⟩
  · have hR : passR s headT = s := by rw [passR, if_neg (by omega)]
    have hK : passK s headT = 2 := by rw [passK, h]; rfl
    rw [hR, hK] at V
    have HF : Hid _ := nextV_a h
    clear hR hK h
    go_wp2_with fail
    refine (size_not w.heap.size _ 2 (.inr rfl) _ V).mono ?_
    rintro e w9 ⟨rfl, rfl⟩
    go_wp2_with fail
    refine (pass_not w.heap.size _ endT 2 (.inr rfl) _ V).mono ?_
    rintro e w9 ⟨rfl, rfl⟩
    go_wp2_with fail
    refine (body_not w.heap.size _ 2 _ (.inr rfl) _ V).mono ?_
    rintro e w9 ⟨rfl, rfl⟩
    obtain ⟨c0, c1, f0, f1⟩ := V.cells
    go_wp2_with fail
    go_quiet (fail)
    go_wp2_with fail
    exact bodyPost_ret (v := nmV ⟨#[]⟩ 0 2) (by simp [nmV, results, Tryd.results13, go_sem, *]) rfl ⟨by rw [HF.out], below_dq _ BW⟩
end Go.Proofs.YtadjhnaiphnpoaaDoor
