/- The lexer's words: numbers. -/
import Derived.Test.YtjepokoeljpflaaDoorLxC
import Derived.Lib.ConvBytes
namespace Go.Proofs.YtjepokoeljpflaaDoor
open Go.RowKit

theorem decFrom_all (l : List UInt8) : ∀ acc : Nat, (∀ b ∈ l, isD b = true) → Lib.decFrom acc l = some (l.foldl (fun n b => 10 * n + (b.toNat - 48)) acc) := by
  induction l with
  | nil => intro acc _; rfl
  | cons b l ih =>
    intro acc h
    have hb : 48 ≤ b.toNat ∧ b.toNat ≤ 57 := by simpa [isD] using h b (by simp)
    have hv : Lib.digitVal b = some (b.toNat - 48) := by simp [Lib.digitVal, hb]
    simp only [Lib.decFrom, hv, List.foldl_cons]
    rw [ih _ (fun c hc => h c (by simp [hc]))]
    congr 2; omega
theorem atoi_all (l : List UInt8) (h0 : l ≠ []) (h : ∀ b ∈ l, isD b = true) : Lib.atoi l = some ((numVal l : Nat) : Int) := by
  cases l with
  | nil => exact absurd rfl h0
  | cons b l =>
    have hb : 48 ≤ b.toNat ∧ b.toNat ≤ 57 := by simpa [isD] using h b (by simp)
    have h1 : (b == 45) = false := by
      rw [beq_eq_false_iff_ne]; intro e; rw [e] at hb; revert hb; decide
    have h2 : (b == 43) = false := by
      rw [beq_eq_false_iff_ne]; intro e; rw [e] at hb; revert hb; decide
    simp only [Lib.atoi, h1, h2, Lib.decNat, List.isEmpty_cons]
    simp only [Bool.false_eq_true, if_false]
    rw [decFrom_all _ 0 h]; rfl
theorem tw_all (p : UInt8 → Bool) (l : List UInt8) : ∀ b ∈ l.takeWhile p, p b = true := by
  induction l with
  | nil => intro b hb; simp at hb
  | cons a l ih =>
    intro b hb
    rw [List.takeWhile_cons] at hb
    split at hb
    · rename_i ha
      rcases List.mem_cons.1 hb with rfl | hb
      · exact ha
      · exact ih b hb
    · cases hb
theorem cut_tw (p : UInt8 → Bool) (s : ByteArray) (i : Nat) : cut s i (endp p s i) = (s.data.toList.drop i).takeWhile p := by
  unfold cut endp
  rw [show i + ((s.data.toList.drop i).takeWhile p).length - i = ((s.data.toList.drop i).takeWhile p).length by omega]
  exact (List.prefix_iff_eq_take.1 (List.takeWhile_prefix p)).symm
theorem below_bytes (w : World) (e : TypeId) (t : ByteArray) : Below w.heap.size w (Lib.bytesWorld w e t) :=
  ⟨rfl, rfl, rfl, by rw [Lib.bytesWorld_size]; omega, fun k hk => Lib.bytesWorld_at_old w e t k hk⟩

set_option maxRecDepth 100000 in
set_option maxHeartbeats 4000000 in
theorem number_lx (B c : Nat) (s : ByteArray) (i ln : Nat) (w : World) (hL : Lx w B c s i ln) (hi : i < s.size) (hs : s.size ≤ 1048576) (hnL : isL s[i] = false) (hD : isD s[i] = true) :
    Calls Tryd.prog 36 #[.pointer (some ⟨c, 0, none⟩)] w fun e w' => ∃ (kd : Int) (tx : ByteArray) (n l : Int) (ok : Bool) (j : Nat), e = .returned (.tuple #[.agg #[.int .i64 kd, .string tx, .int .i64 n, .int .i64 l], .bool ok]) ∧ LxTo B c s w w' j ln ∧ WordIs s i ln j kd tx n l ok := by
  have hclt := hL.lt
  have hge : i + 1 ≤ endp isD s i := by rw [← endp_lt hi hD]; exact endp_ge _ _ _
  have hle := endp_le isD s i (by omega)
  obtain ⟨d, hd⟩ : ∃ d, endp isD s i = i + d := ⟨endp isD s i - i, by omega⟩
  have hd1 : 1 ≤ d := by omega
  have HDD : Hid (endp isD s i - i = d) := by show _ = _; omega
  have hT0 := (LxTo.start hL).alloc (.cells #[.int .i64 0, .string ⟨#[]⟩, .int .i64 0, .int .i64 0] 32)
  have hcut : (s.extract i (i + d)).data.toList = cut s i (endp isD s i) := by rw [hd]; exact extract_cut s i (i + d)
  have hatoi : Lib.atoi (s.extract i (i + d)).data.toList = some ((numVal (cut s i (endp isD s i)) : Nat) : Int) := by
    rw [hcut]
    refine atoi_all _ ?_ ?_
    · intro e
      have := congrArg List.length e
      rw [cut_len _ _ _ hle] at this
      simp at this; omega
    · rw [cut_tw]; exact tw_all _ _
  have htok : tokAt s i ln = (numAt s i).map fun x => (⟨1, ⟨#[]⟩, x.1, ln⟩, x.2) := by
    rw [tokAt, dif_pos hi, if_neg (by rw [hnL]; decide), if_pos hD]
  have hnum : numAt s i = if 18 < d then none else if 999999999999 < numVal (cut s i (endp isD s i)) then none else some (numVal (cut s i (endp isD s i)), i + d) := by
    unfold numAt; rw [HDD.out, hd]
  have hsz : (s.extract i (i + d)).size = d := by simp; omega
  rw [hd] at hle
  generalize numVal (cut s i (endp isD s i)) = nv at *
  have HA : Hid (Lib.atoi (s.extract i (i + d)).data.toList = some (nv : Int)) := hatoi
  have HN : Hid (tokAt s i ln = (if 18 < d then none else if 999999999999 < nv then none else some (nv, i + d)).map fun x => (⟨1, ⟨#[]⟩, x.1, ln⟩, x.2)) := by show _ = _; rw [htok, hnum]
  have HSZ : Hid ((s.extract i (i + d)).size = d) := hsz
  clear hL hd hge hcut hatoi htok hnum hnL hD hsz
  go_enter Tryd.func36, Tryd.ntmps36
  go_wp2_with fail
  refine (count_any isD 4 (fun b => (cls_b b).2.1) B c s i ln _ hT0.lx (by omega) hs).mono ?_
  rintro e w1 ⟨rfl, nn, rfl⟩
  rw [HDD.out]
  have hT1 := hT0.drewN nn
  clear hT0
  go_wp2_with fail
  refine (take_any B c s i ln d _ hT1.lx hle hs).mono ?_
  rintro e w1 ⟨rfl, hLx1, hby1⟩
  have hT2 := hT1.step ⟨hLx1, hby1⟩
  obtain ⟨g0, hz⟩ := res_kept (by_trans (by_drewN (by_refl (w.alloc (.cells #[.int .i64 0, .string ⟨#[]⟩, .int .i64 0, .int .i64 0] 32)) (some c)) nn) hby1) hclt
  clear hT1 hLx1 hby1
  by_cases h18 : 18 < d
  · have HW : Hid (WordIs s i ln (i + d) 0 ⟨#[]⟩ 0 0 false) := .inr ⟨rfl, by rw [HN.out, if_pos h18]; rfl⟩
    have g0_c0 := cell_of_row w1 w.heap.size 0 _ _ (0, 0) g0
    have g0_f0 := frozen_of_row w1 w.heap.size 0 _ _ g0
    have g0_c1 := cell_of_row w1 w.heap.size 1 _ _ (0, 0) g0
    have g0_f1 := frozen_of_row w1 w.heap.size 1 _ _ g0
    have g0_c2 := cell_of_row w1 w.heap.size 2 _ _ (0, 0) g0
    have g0_f2 := frozen_of_row w1 w.heap.size 2 _ _ g0
    have g0_c3 := cell_of_row w1 w.heap.size 3 _ _ (0, 0) g0
    have g0_f3 := frozen_of_row w1 w.heap.size 3 _ _ g0
    simp only [List.getElem?_toArray, List.getElem?_cons_zero, List.getElem?_cons_succ] at g0_c0 g0_c1 g0_c2 g0_c3
    clear g0 HN
    generalize s.extract i (i + d) = t at *
    have hsz := HSZ.out
    go_wp2_with fail
    exact bodyPost_ret (v := .tuple #[.agg #[.int .i64 0, .string ⟨#[]⟩, .int .i64 0, .int .i64 0], .bool false]) (by simp [results, Tryd.results36, go_sem, *]) rfl ⟨_, _, _, _, _, i + d, rfl, ((((hT2).other (Nat.le_refl _) (by omega) _ _).other (Nat.le_refl _) (by omega) _ _).other (Nat.le_refl _) (by omega) _ _).other (Nat.le_refl _) (by omega) _ _, HW.out⟩
  · have h18' : d ≤ 18 := by omega
    have hsz18 : (s.extract i (i + d)).size ≤ 18 := by rw [HSZ.out]; omega
    generalize s.extract i (i + d) = t at *
    go_wp2_with fail
    refine (Tryd.strconv_Atoi t nv hsz18 HA.out _).mono ?_
    rintro e w2 ⟨rfl, tt, rfl⟩
    have hT3 := hT2.below (below_bytes w1 5 tt)
    have g1 : (Lib.bytesWorld w1 5 tt).heap[w.heap.size]? = some (.cells #[.int .i64 0, .string ⟨#[]⟩, .int .i64 0, .int .i64 0] 32 (0, 0)) := by rw [(below_bytes w1 5 tt).block _ hz]; exact g0
    have hz1 : w.heap.size < (Lib.bytesWorld w1 5 tt).heap.size := by have := (below_bytes w1 5 tt).size; omega
    clear g0 hz hT2
    generalize Lib.bytesWorld w1 5 tt = w1 at *
    have g1_c0 := cell_of_row w1 w.heap.size 0 _ _ (0, 0) g1
    have g1_f0 := frozen_of_row w1 w.heap.size 0 _ _ g1
    have g1_c1 := cell_of_row w1 w.heap.size 1 _ _ (0, 0) g1
    have g1_f1 := frozen_of_row w1 w.heap.size 1 _ _ g1
    have g1_c2 := cell_of_row w1 w.heap.size 2 _ _ (0, 0) g1
    have g1_f2 := frozen_of_row w1 w.heap.size 2 _ _ g1
    have g1_c3 := cell_of_row w1 w.heap.size 3 _ _ (0, 0) g1
    have g1_f3 := frozen_of_row w1 w.heap.size 3 _ _ g1
    simp only [List.getElem?_toArray, List.getElem?_cons_zero, List.getElem?_cons_succ] at g1_c0 g1_c1 g1_c2 g1_c3
    have c2 := hT3.lx.c2
    clear g1
    by_cases hbig : 999999999999 < nv
    · have HW : Hid (WordIs s i ln (i + d) 0 ⟨#[]⟩ 0 0 false) := .inr ⟨rfl, by rw [HN.out, if_neg h18, if_pos hbig]; rfl⟩
      have hbig' : (999999999999 : Int) < nv := by omega
      clear HN
      go_wp2_with fail
      exact bodyPost_ret (v := .tuple #[.agg #[.int .i64 0, .string ⟨#[]⟩, .int .i64 0, .int .i64 0], .bool false]) (by simp [results, Tryd.results36, go_sem, *]) rfl ⟨_, _, _, _, _, i + d, rfl, ((((hT3).other (Nat.le_refl _) (by omega) _ _).other (Nat.le_refl _) (by omega) _ _).other (Nat.le_refl _) (by omega) _ _).other (Nat.le_refl _) (by omega) _ _, HW.out⟩
    · have HW : Hid (WordIs s i ln (i + d) 1 ⟨#[]⟩ nv ln true) := .inl ⟨rfl, ⟨1, ⟨#[]⟩, nv, ln⟩, by rw [HN.out, if_neg h18, if_neg hbig]; rfl, rfl, rfl, rfl, rfl⟩
      have hbig' : (nv : Int) ≤ 999999999999 := by omega
      clear HN
      go_wp2_with fail
      exact bodyPost_ret (v := .tuple #[.agg #[.int .i64 1, .string ⟨#[]⟩, .int .i64 nv, .int .i64 ln], .bool true]) (by simp [results, Tryd.results36, go_sem, *]) rfl ⟨_, _, _, _, _, i + d, rfl, ((((hT3).other (Nat.le_refl _) (by omega) _ _).other (Nat.le_refl _) (by omega) _ _).other (Nat.le_refl _) (by omega) _ _).other (Nat.le_refl _) (by omega) _ _, HW.out⟩
end Go.Proofs.YtjepokoeljpflaaDoor
