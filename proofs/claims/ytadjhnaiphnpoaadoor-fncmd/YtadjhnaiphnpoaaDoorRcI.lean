/- ReadCmd of the program. -/
import Derived.Test.YtadjhnaiphnpoaaDoorRcV
import Derived.Test.YtadjhnaiphnpoaaDoorRcN
import Derived.Test.YtadjhnaiphnpoaaDoorCloM
namespace Go.Proofs.YtadjhnaiphnpoaaDoor
open Go.RowKit Go.Lib

theorem LibOk.below0 {w w' : World} {B : Nat} (h : LibOk w) (hb : Below B w w') (hB : w.heap.size ≤ B := by exact Nat.le_refl _) : LibOk w' := h.below (hb.mono hB)
theorem cv_at {w w2 : World} (W : ByteArray) (hr : w2.heap[w.heap.size]? = some (.cells #[.string ⟨#[]⟩, .int .i64 0, .string ⟨#[]⟩] 35 (0, 0))) (hb : Below w.heap.size w w2) :
    CV w (w2.alloc (.cells #[.string W, .int .i64 0, .string ⟨#[]⟩] 35)) w2.heap.size W 0 ⟨#[]⟩ := by
  have hlt : w.heap.size < w2.heap.size := by
    by_cases h : w.heap.size < w2.heap.size
    · exact h
    · rw [Array.getElem?_eq_none (by omega)] at hr; simp at hr
  exact ⟨heap_alloc_new w2 _, by rw [Below.heap_alloc _ _ _ hlt]; exact hr, hb.alloc hb.size _, hlt⟩

set_option maxRecDepth 100000 in
set_option maxHeartbeats 1600000 in
theorem read_impl (s : ByteArray) (w : World) (hs : s.size ≤ 2097152) (hL : LibOk w) :
    Calls Tryd.prog 24 #[.string s] w fun e w' => e = .returned (readV s) ∧ Below w.heap.size w w' := by
  have HL : Hid (LibOk w) := hL
  clear hL
  have hrow := heap_alloc_new w (.cells #[.string ⟨#[]⟩, .int .i64 0, .string ⟨#[]⟩] 35)
  have hbw := bel_alloc w (.cells #[.string ⟨#[]⟩, .int .i64 0, .string ⟨#[]⟩] 35)
  have hsz := size_alloc w (.cells #[.string ⟨#[]⟩, .int .i64 0, .string ⟨#[]⟩] 35)
  have hws : (wordOf s).size ≤ 2097152 := by rw [word_size]; have := blank_le s; omega
  have hrs : (restOf s).size ≤ 2097152 := by have := rest_size s; omega
  go_enter Tryd.func24, Tryd.ntmps24
  go_wp2_with fail
  generalize w.alloc (.cells #[.string ⟨#[]⟩, .int .i64 0, .string ⟨#[]⟩] 35) = wa at *
  refine (cut_any s _ hs).mono ?_
  rintro e w1 ⟨⟨found, rfl⟩, hb1⟩
  have hrow1 := (hb1.block w.heap.size (by omega)).trans hrow
  have hbw1 := hbw.trans (hb1.mono hbw.size)
  clear hrow hbw hsz hb1
  go_wp2_with fail
  refine (clone_any (wordOf s) _ hws).mono ?_
  rintro e w2 ⟨rfl, hb2⟩
  have hlt1 : w.heap.size < w1.heap.size := by
    by_cases h : w.heap.size < w1.heap.size
    · exact h
    · rw [Array.getElem?_eq_none (by omega)] at hrow1; simp at hrow1
  have hrow2 := (hb2.block w.heap.size hlt1).trans hrow1
  have hbw2 := hbw1.trans (hb2.mono hbw1.size)
  have V0 := cv_at (wordOf s) hrow2 hbw2
  clear hrow1 hbw1 hb2 hrow2 hbw2 hlt1
  go_wp2_with fail
  generalize w2.alloc (.cells #[.string (wordOf s), .int .i64 0, .string ⟨#[]⟩] 35) = w3 at *
  generalize w2.heap.size = b at *
  refine (kinds_impl _).mono ?_
  rintro e w4 ⟨bm, rfl, hown, hb4⟩
  have hlk := look_kind hown (wordOf s) hws
  have V := V0.below hb4
  clear V0 hb4 hown
  rcases kind_cases (wordOf s) with h | h | h | h
  · have HV : Hid _ := readV_plain (.inl h)
    rw [h] at hlk
    clear h
    obtain ⟨c0, c1, c2, f1, f2⟩ := V.cells
    obtain ⟨r0, r1, r2, g0, g1, g2⟩ := V.resc
    have hup := V.up
    have hne : w.heap.size ≠ b := Nat.ne_of_lt hup
    by_cases hs0 : s.toList = []
    · have HF : Hid (readV s = .tuple #[cmdZ, .bool false]) := by show _ = _; rw [HV.out, readT, if_pos hs0]
      have hs1 : (s.toList == []) = true := by rw [hs0]; rfl
      have BW := V.bel
      clear hs0
      go_wp2_with fail
      exact bodyPost_ret (v := .tuple #[.agg #[.string ⟨#[]⟩, .int .i64 0, .string ⟨#[]⟩], .bool false]) (by simp [results, Tryd.results24, go_sem, *]) rfl ⟨by rw [HF.out]; rfl, by repeat (first | (with_reducible exact BW) | (with_reducible refine Below.setCell ?_ (by first | exact Nat.le_refl _ | exact Nat.le_of_lt hup) _))⟩
    · have hs1 : (s.toList == []) = false := by simpa using hs0
      go_wp2_with fail
      refine (cmd_impl (wordOf s) 0 ⟨#[]⟩ _ (by rw [word_size]; have := blank_le s; omega) (by decide) (by decide) (by decide) (HL.out.below0 (V.bel)).tab).mono ?_
      rintro e w9 ⟨rfl, hb9⟩
      clear c0 c1 c2 f1 f2 r0 r1 r2 g0 g1 g2
      have V9 := V.below hb9
      obtain ⟨c0, c1, c2, f1, f2⟩ := V9.cells
      obtain ⟨r0, r1, r2, g0, g1, g2⟩ := V9.resc
      have BW := V9.bel
      clear V V9 hb9
      by_cases he : (cmdT (wordOf s) 0 ⟨#[]⟩).toList = s.toList
      · have HF : Hid (readV s = .tuple #[cmdV (wordOf s) 0 ⟨#[]⟩, .bool true]) := by show _ = _; rw [HV.out, readT, if_neg hs0, if_pos he]
        have he1 : ((cmdT (wordOf s) 0 ⟨#[]⟩).toList == s.toList) = true := by rw [he]; simp
        clear he hs0
        generalize cmdT (wordOf s) 0 ⟨#[]⟩ = t at *
        go_wp2_with fail
        exact bodyPost_ret (v := .tuple #[.agg #[.string (wordOf s), .int .i64 0, .string ⟨#[]⟩], .bool true]) (by simp [results, Tryd.results24, go_sem, *]) rfl ⟨by rw [HF.out]; rfl, by repeat (first | (with_reducible exact BW) | (with_reducible refine Below.setCell ?_ (by first | exact Nat.le_refl _ | exact Nat.le_of_lt hup) _))⟩
      · have HF : Hid (readV s = .tuple #[cmdZ, .bool false]) := by show _ = _; rw [HV.out, readT, if_neg hs0, if_neg he]
        have he1 : ((cmdT (wordOf s) 0 ⟨#[]⟩).toList == s.toList) = false := by simpa using he
        clear he hs0 c0 c1 c2 f1 f2
        generalize cmdT (wordOf s) 0 ⟨#[]⟩ = t at *
        go_wp2_with fail
        exact bodyPost_ret (v := .tuple #[.agg #[.string ⟨#[]⟩, .int .i64 0, .string ⟨#[]⟩], .bool false]) (by simp [results, Tryd.results24, go_sem, *]) rfl ⟨by rw [HF.out]; rfl, by repeat (first | (with_reducible exact BW) | (with_reducible refine Below.setCell ?_ (by first | exact Nat.le_refl _ | exact Nat.le_of_lt hup) _))⟩
  · have HV : Hid _ := readV_plain (.inr h)
    rw [h] at hlk
    clear h
    obtain ⟨c0, c1, c2, f1, f2⟩ := V.cells
    obtain ⟨r0, r1, r2, g0, g1, g2⟩ := V.resc
    have hup := V.up
    have hne : w.heap.size ≠ b := Nat.ne_of_lt hup
    by_cases hs0 : s.toList = []
    · have HF : Hid (readV s = .tuple #[cmdZ, .bool false]) := by show _ = _; rw [HV.out, readT, if_pos hs0]
      have hs1 : (s.toList == []) = true := by rw [hs0]; rfl
      have BW := V.bel
      clear hs0
      go_wp2_with fail
      exact bodyPost_ret (v := .tuple #[.agg #[.string ⟨#[]⟩, .int .i64 0, .string ⟨#[]⟩], .bool false]) (by simp [results, Tryd.results24, go_sem, *]) rfl ⟨by rw [HF.out]; rfl, by repeat (first | (with_reducible exact BW) | (with_reducible refine Below.setCell ?_ (by first | exact Nat.le_refl _ | exact Nat.le_of_lt hup) _))⟩
    · have hs1 : (s.toList == []) = false := by simpa using hs0
      go_wp2_with fail
      refine (cmd_impl (wordOf s) 0 ⟨#[]⟩ _ (by rw [word_size]; have := blank_le s; omega) (by decide) (by decide) (by decide) (HL.out.below0 (V.bel)).tab).mono ?_
      rintro e w9 ⟨rfl, hb9⟩
      clear c0 c1 c2 f1 f2 r0 r1 r2 g0 g1 g2
      have V9 := V.below hb9
      obtain ⟨c0, c1, c2, f1, f2⟩ := V9.cells
      obtain ⟨r0, r1, r2, g0, g1, g2⟩ := V9.resc
      have BW := V9.bel
      clear V V9 hb9
      by_cases he : (cmdT (wordOf s) 0 ⟨#[]⟩).toList = s.toList
      · have HF : Hid (readV s = .tuple #[cmdV (wordOf s) 0 ⟨#[]⟩, .bool true]) := by show _ = _; rw [HV.out, readT, if_neg hs0, if_pos he]
        have he1 : ((cmdT (wordOf s) 0 ⟨#[]⟩).toList == s.toList) = true := by rw [he]; simp
        clear he hs0
        generalize cmdT (wordOf s) 0 ⟨#[]⟩ = t at *
        go_wp2_with fail
        exact bodyPost_ret (v := .tuple #[.agg #[.string (wordOf s), .int .i64 0, .string ⟨#[]⟩], .bool true]) (by simp [results, Tryd.results24, go_sem, *]) rfl ⟨by rw [HF.out]; rfl, by repeat (first | (with_reducible exact BW) | (with_reducible refine Below.setCell ?_ (by first | exact Nat.le_refl _ | exact Nat.le_of_lt hup) _))⟩
      · have HF : Hid (readV s = .tuple #[cmdZ, .bool false]) := by show _ = _; rw [HV.out, readT, if_neg hs0, if_neg he]
        have he1 : ((cmdT (wordOf s) 0 ⟨#[]⟩).toList == s.toList) = false := by simpa using he
        clear he hs0 c0 c1 c2 f1 f2
        generalize cmdT (wordOf s) 0 ⟨#[]⟩ = t at *
        go_wp2_with fail
        exact bodyPost_ret (v := .tuple #[.agg #[.string ⟨#[]⟩, .int .i64 0, .string ⟨#[]⟩], .bool false]) (by simp [results, Tryd.results24, go_sem, *]) rfl ⟨by rw [HF.out]; rfl, by repeat (first | (with_reducible exact BW) | (with_reducible refine Below.setCell ?_ (by first | exact Nat.le_refl _ | exact Nat.le_of_lt hup) _))⟩
  · rw [h] at hlk
    have HK : Hid (kindOf (wordOf s) = 2) := h
    clear h
    have hL4 := HL.out.below0 V.bel
    go_wp2_with fail
    refine (num_any (restOf s) _ hrs hL4).mono ?_
    rintro e w5 ⟨⟨n, ok, rfl, n0, n1, hok⟩, hb5⟩
    have V0 := V
    clear V hL4 hlk
    have V := V0.below hb5
    clear V0 hb5
    cases ok with
    | false =>
      have HF : Hid (readV s = .tuple #[cmdZ, .bool false]) := readV_none HK.out hok
      obtain ⟨r0, r1, r2, g0, g1, g2⟩ := V.resc
      have hup := V.up
      have BW := V.bel
      clear V hok
      go_wp2_with fail
      exact bodyPost_ret (v := .tuple #[.agg #[.string ⟨#[]⟩, .int .i64 0, .string ⟨#[]⟩], .bool false]) (by simp [results, Tryd.results24, go_sem, *]) rfl ⟨by rw [HF.out]; rfl, by repeat (first | (with_reducible exact BW) | (with_reducible refine Below.setCell ?_ (by first | exact Nat.le_refl _ | exact Nat.le_of_lt hup) _))⟩
    | true =>
      have HV : Hid (readV s = readT s (wordOf s) n ⟨#[]⟩) := readV_some HK.out hok
      clear hok
      obtain ⟨c0, c1, c2, f1, f2⟩ := V.cells
      obtain ⟨r0, r1, r2, g0, g1, g2⟩ := V.resc
      have hup := V.up
      have hne : w.heap.size ≠ b := Nat.ne_of_lt hup
      by_cases hs0 : s.toList = []
      · have HF : Hid (readV s = .tuple #[cmdZ, .bool false]) := by show _ = _; rw [HV.out, readT, if_pos hs0]
        have hs1 : (s.toList == []) = true := by rw [hs0]; rfl
        have BW := V.bel
        clear hs0
        go_wp2_with fail
        exact bodyPost_ret (v := .tuple #[.agg #[.string ⟨#[]⟩, .int .i64 0, .string ⟨#[]⟩], .bool false]) (by simp [results, Tryd.results24, go_sem, *]) rfl ⟨by rw [HF.out]; rfl, by repeat (first | (with_reducible exact BW) | (with_reducible refine Below.setCell ?_ (by first | exact Nat.le_refl _ | exact Nat.le_of_lt hup) _))⟩
      · have hs1 : (s.toList == []) = false := by simpa using hs0
        go_wp2_with fail
        refine (cmd_impl (wordOf s) n ⟨#[]⟩ _ (by rw [word_size]; have := blank_le s; omega) (by decide) n0 n1 (HL.out.below0 ((V.setN n).bel)).tab).mono ?_
        rintro e w9 ⟨rfl, hb9⟩
        clear c0 c1 c2 f1 f2 r0 r1 r2 g0 g1 g2
        have V9 := (V.setN n).below hb9
        obtain ⟨c0, c1, c2, f1, f2⟩ := V9.cells
        obtain ⟨r0, r1, r2, g0, g1, g2⟩ := V9.resc
        have BW := V9.bel
        clear V V9 hb9
        by_cases he : (cmdT (wordOf s) n ⟨#[]⟩).toList = s.toList
        · have HF : Hid (readV s = .tuple #[cmdV (wordOf s) n ⟨#[]⟩, .bool true]) := by show _ = _; rw [HV.out, readT, if_neg hs0, if_pos he]
          have he1 : ((cmdT (wordOf s) n ⟨#[]⟩).toList == s.toList) = true := by rw [he]; simp
          clear he hs0
          generalize cmdT (wordOf s) n ⟨#[]⟩ = t at *
          go_wp2_with fail
          exact bodyPost_ret (v := .tuple #[.agg #[.string (wordOf s), .int .i64 n, .string ⟨#[]⟩], .bool true]) (by simp [results, Tryd.results24, go_sem, *]) rfl ⟨by rw [HF.out]; rfl, by repeat (first | (with_reducible exact BW) | (with_reducible refine Below.setCell ?_ (by first | exact Nat.le_refl _ | exact Nat.le_of_lt hup) _))⟩
        · have HF : Hid (readV s = .tuple #[cmdZ, .bool false]) := by show _ = _; rw [HV.out, readT, if_neg hs0, if_neg he]
          have he1 : ((cmdT (wordOf s) n ⟨#[]⟩).toList == s.toList) = false := by simpa using he
          clear he hs0 c0 c1 c2 f1 f2
          generalize cmdT (wordOf s) n ⟨#[]⟩ = t at *
          go_wp2_with fail
          exact bodyPost_ret (v := .tuple #[.agg #[.string ⟨#[]⟩, .int .i64 0, .string ⟨#[]⟩], .bool false]) (by simp [results, Tryd.results24, go_sem, *]) rfl ⟨by rw [HF.out]; rfl, by repeat (first | (with_reducible exact BW) | (with_reducible refine Below.setCell ?_ (by first | exact Nat.le_refl _ | exact Nat.le_of_lt hup) _))⟩
  · have HV : Hid _ := readV_text h
    rw [h] at hlk
    clear h
    go_wp2_with fail
    refine (clone_any (restOf s) _ hrs).mono ?_
    rintro e w5 ⟨rfl, hb5⟩
    have V0 := V
    clear V hlk
    have V := V0.below hb5
    clear V0 hb5
    obtain ⟨c0, c1, c2, f1, f2⟩ := V.cells
    obtain ⟨r0, r1, r2, g0, g1, g2⟩ := V.resc
    have hup := V.up
    have hne : w.heap.size ≠ b := Nat.ne_of_lt hup
    by_cases hs0 : s.toList = []
    · have HF : Hid (readV s = .tuple #[cmdZ, .bool false]) := by show _ = _; rw [HV.out, readT, if_pos hs0]
      have hs1 : (s.toList == []) = true := by rw [hs0]; rfl
      have BW := V.bel
      clear hs0
      go_wp2_with fail
      exact bodyPost_ret (v := .tuple #[.agg #[.string ⟨#[]⟩, .int .i64 0, .string ⟨#[]⟩], .bool false]) (by simp [results, Tryd.results24, go_sem, *]) rfl ⟨by rw [HF.out]; rfl, by repeat (first | (with_reducible exact BW) | (with_reducible refine Below.setCell ?_ (by first | exact Nat.le_refl _ | exact Nat.le_of_lt hup) _))⟩
    · have hs1 : (s.toList == []) = false := by simpa using hs0
      go_wp2_with fail
      refine (cmd_impl (wordOf s) 0 (restOf s) _ (by rw [word_size]; have := blank_le s; omega) hrs (by decide) (by decide) (HL.out.below0 ((V.setX (restOf s)).bel)).tab).mono ?_
      rintro e w9 ⟨rfl, hb9⟩
      clear c0 c1 c2 f1 f2 r0 r1 r2 g0 g1 g2
      have V9 := (V.setX (restOf s)).below hb9
      obtain ⟨c0, c1, c2, f1, f2⟩ := V9.cells
      obtain ⟨r0, r1, r2, g0, g1, g2⟩ := V9.resc
      have BW := V9.bel
      clear V V9 hb9
      by_cases he : (cmdT (wordOf s) 0 (restOf s)).toList = s.toList
      · have HF : Hid (readV s = .tuple #[cmdV (wordOf s) 0 (restOf s), .bool true]) := by show _ = _; rw [HV.out, readT, if_neg hs0, if_pos he]
        have he1 : ((cmdT (wordOf s) 0 (restOf s)).toList == s.toList) = true := by rw [he]; simp
        clear he hs0
        generalize cmdT (wordOf s) 0 (restOf s) = t at *
        go_wp2_with fail
        exact bodyPost_ret (v := .tuple #[.agg #[.string (wordOf s), .int .i64 0, .string (restOf s)], .bool true]) (by simp [results, Tryd.results24, go_sem, *]) rfl ⟨by rw [HF.out]; rfl, by repeat (first | (with_reducible exact BW) | (with_reducible refine Below.setCell ?_ (by first | exact Nat.le_refl _ | exact Nat.le_of_lt hup) _))⟩
      · have HF : Hid (readV s = .tuple #[cmdZ, .bool false]) := by show _ = _; rw [HV.out, readT, if_neg hs0, if_neg he]
        have he1 : ((cmdT (wordOf s) 0 (restOf s)).toList == s.toList) = false := by simpa using he
        clear he hs0 c0 c1 c2 f1 f2
        generalize cmdT (wordOf s) 0 (restOf s) = t at *
        go_wp2_with fail
        exact bodyPost_ret (v := .tuple #[.agg #[.string ⟨#[]⟩, .int .i64 0, .string ⟨#[]⟩], .bool false]) (by simp [results, Tryd.results24, go_sem, *]) rfl ⟨by rw [HF.out]; rfl, by repeat (first | (with_reducible exact BW) | (with_reducible refine Below.setCell ?_ (by first | exact Nat.le_refl _ | exact Nat.le_of_lt hup) _))⟩
end Go.Proofs.YtadjhnaiphnpoaaDoor
