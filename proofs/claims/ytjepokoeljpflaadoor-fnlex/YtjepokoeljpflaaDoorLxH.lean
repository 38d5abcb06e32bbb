/- The lexer's words: any. -/
import Derived.Test.YtjepokoeljpflaaDoorLxG
namespace Go.Proofs.YtjepokoeljpflaaDoor
open Go.RowKit

set_option maxRecDepth 100000 in
set_option maxHeartbeats 8000000 in
theorem word_lx (B c : Nat) (s : ByteArray) (i ln : Nat) (w : World) (hL : Lx w B c s i ln) (hi : i < s.size) (hs : s.size ≤ 1048576) :
    Calls Tryd.prog 26 #[.pointer (some ⟨c, 0, none⟩)] w fun e w' => ∃ (kd : Int) (tx : ByteArray) (n l : Int) (ok : Bool) (j : Nat), e = .returned (.tuple #[.agg #[.int .i64 kd, .string tx, .int .i64 n, .int .i64 l], .bool ok]) ∧ LxTo B c s w w' j ln ∧ WordIs s i ln j kd tx n l ok := by
  have hclt := hL.lt
  have hT0 := (LxTo.start hL).alloc (.cells #[.int .i64 0, .string ⟨#[]⟩, .int .i64 0, .int .i64 0] 32)
  have HL : Hid (Lx w B c s i ln) := hL
  have hr0 : (w.alloc (.cells #[.int .i64 0, .string ⟨#[]⟩, .int .i64 0, .int .i64 0] 32)).heap[w.heap.size]? = some (.cells #[.int .i64 0, .string ⟨#[]⟩, .int .i64 0, .int .i64 0] 32 (0, 0)) := heap_alloc_new w _
  have c0 := hL.c0
  have c1 := hL.c1
  have cc := hL.cls s[i]
  have z0 := hT0.lx.c0
  have z1 := hT0.lx.c1
  have zc := hT0.lx.cls s[i]
  have bL := (cls_b s[i]).2.2.1
  have bD := (cls_b s[i]).2.2.2.1
  have hb256 : s[i].toNat < 256 := s[i].toNat_lt
  clear hL
  go_enter Tryd.func26, Tryd.ntmps26
  go_wp2_with fail
  go_quiet (fail)
  have hT1 := hT0.drewN nq
  have g0 : ((w.alloc (.cells #[.int .i64 0, .string ⟨#[]⟩, .int .i64 0, .int .i64 0] 32)).drewN nq).heap[w.heap.size]? = some (.cells #[.int .i64 0, .string ⟨#[]⟩, .int .i64 0, .int .i64 0] 32 (0, 0)) := hr0
  have hz : w.heap.size < ((w.alloc (.cells #[.int .i64 0, .string ⟨#[]⟩, .int .i64 0, .int .i64 0] 32)).drewN nq).heap.size := (Array.getElem?_eq_some_iff.1 g0).1
  clear hT0 hr0
  cases hl : isL s[i]
  · rw [hl] at bL
    cases hd : isD s[i]
    · rw [hd] at bD
      by_cases h34 : s[i].toNat = 34
      · have b34 : ((s[i].toNat : Int) == 34) = true := by simp [h34]
        have HX : Hid (s[i].toNat = 34) := h34
        clear h34
        go_wp2_with fail
        refine (text_lx B c s i ln _ hT1.lx hi hs hl hd HX.out).mono ?_
        rintro e w2 ⟨kd, tx, n, l, ok, j, rfl, hT2, hW⟩
        have hT3 := hT1.step hT2
        have g2 := (hT2.by'.block w.heap.size hz (by simp; omega)).trans g0
        have g_c0 := cell_of_row w2 w.heap.size 0 _ _ (0, 0) g2
        have g_f0 := frozen_of_row w2 w.heap.size 0 _ _ g2
        have g_c1 := cell_of_row w2 w.heap.size 1 _ _ (0, 0) g2
        have g_f1 := frozen_of_row w2 w.heap.size 1 _ _ g2
        have g_c2 := cell_of_row w2 w.heap.size 2 _ _ (0, 0) g2
        have g_f2 := frozen_of_row w2 w.heap.size 2 _ _ g2
        have g_c3 := cell_of_row w2 w.heap.size 3 _ _ (0, 0) g2
        have g_f3 := frozen_of_row w2 w.heap.size 3 _ _ g2
        simp only [List.getElem?_toArray, List.getElem?_cons_zero, List.getElem?_cons_succ] at g_c0 g_c1 g_c2 g_c3
        have HW : Hid (WordIs s i ln j kd tx n l ok) := hW
        clear hT2 g0 g2 hW
        go_wp2_with fail
        exact bodyPost_ret (v := .tuple #[.agg #[.int .i64 kd, .string tx, .int .i64 n, .int .i64 l], .bool ok]) (by simp [results, Tryd.results26, go_sem, *]) rfl ⟨_, _, _, _, _, j, rfl, ((((hT3).other (Nat.le_refl _) (by omega) _ _).other (Nat.le_refl _) (by omega) _ _).other (Nat.le_refl _) (by omega) _ _).other (Nat.le_refl _) (by omega) _ _, HW.out⟩
      · have b34 : ((s[i].toNat : Int) == 34) = false := beq_no (by omega)
        go_wp2_with fail
        refine (sign_lx B c s i ln _ hT1.lx hi hs hl hd h34).mono ?_
        rintro e w2 ⟨kd, tx, n, l, ok, j, rfl, hT2, hW⟩
        have hT3 := hT1.step hT2
        have g2 := (hT2.by'.block w.heap.size hz (by simp; omega)).trans g0
        have g_c0 := cell_of_row w2 w.heap.size 0 _ _ (0, 0) g2
        have g_f0 := frozen_of_row w2 w.heap.size 0 _ _ g2
        have g_c1 := cell_of_row w2 w.heap.size 1 _ _ (0, 0) g2
        have g_f1 := frozen_of_row w2 w.heap.size 1 _ _ g2
        have g_c2 := cell_of_row w2 w.heap.size 2 _ _ (0, 0) g2
        have g_f2 := frozen_of_row w2 w.heap.size 2 _ _ g2
        have g_c3 := cell_of_row w2 w.heap.size 3 _ _ (0, 0) g2
        have g_f3 := frozen_of_row w2 w.heap.size 3 _ _ g2
        simp only [List.getElem?_toArray, List.getElem?_cons_zero, List.getElem?_cons_succ] at g_c0 g_c1 g_c2 g_c3
        have HW : Hid (WordIs s i ln j kd tx n l ok) := hW
        clear hT2 g0 g2 hW
        go_wp2_with fail
        exact bodyPost_ret (v := .tuple #[.agg #[.int .i64 kd, .string tx, .int .i64 n, .int .i64 l], .bool ok]) (by simp [results, Tryd.results26, go_sem, *]) rfl ⟨_, _, _, _, _, j, rfl, ((((hT3).other (Nat.le_refl _) (by omega) _ _).other (Nat.le_refl _) (by omega) _ _).other (Nat.le_refl _) (by omega) _ _).other (Nat.le_refl _) (by omega) _ _, HW.out⟩
    · rw [hd] at bD
      go_wp2_with fail
      refine (number_lx B c s i ln _ hT1.lx hi hs hl hd).mono ?_
      rintro e w2 ⟨kd, tx, n, l, ok, j, rfl, hT2, hW⟩
      have hT3 := hT1.step hT2
      have g2 := (hT2.by'.block w.heap.size hz (by simp; omega)).trans g0
      have g_c0 := cell_of_row w2 w.heap.size 0 _ _ (0, 0) g2
      have g_f0 := frozen_of_row w2 w.heap.size 0 _ _ g2
      have g_c1 := cell_of_row w2 w.heap.size 1 _ _ (0, 0) g2
      have g_f1 := frozen_of_row w2 w.heap.size 1 _ _ g2
      have g_c2 := cell_of_row w2 w.heap.size 2 _ _ (0, 0) g2
      have g_f2 := frozen_of_row w2 w.heap.size 2 _ _ g2
      have g_c3 := cell_of_row w2 w.heap.size 3 _ _ (0, 0) g2
      have g_f3 := frozen_of_row w2 w.heap.size 3 _ _ g2
      simp only [List.getElem?_toArray, List.getElem?_cons_zero, List.getElem?_cons_succ] at g_c0 g_c1 g_c2 g_c3
      have HW : Hid (WordIs s i ln j kd tx n l ok) := hW
      clear hT2 g0 g2 hW
      go_wp2_with fail
      exact bodyPost_ret (v := .tuple #[.agg #[.int .i64 kd, .string tx, .int .i64 n, .int .i64 l], .bool ok]) (by simp [results, Tryd.results26, go_sem, *]) rfl ⟨_, _, _, _, _, j, rfl, ((((hT3).other (Nat.le_refl _) (by omega) _ _).other (Nat.le_refl _) (by omega) _ _).other (Nat.le_refl _) (by omega) _ _).other (Nat.le_refl _) (by omega) _ _, HW.out⟩
  · rw [hl] at bL
    go_wp2_with fail
    refine (name_any B c s i ln _ hT1.lx hi hs).mono ?_
    rintro e w2 ⟨rfl, hT2⟩
    have hT3 := hT1.step hT2
    have g2 := (hT2.by'.block w.heap.size hz (by simp; omega)).trans g0
    have g_c0 := cell_of_row w2 w.heap.size 0 _ _ (0, 0) g2
    have g_f0 := frozen_of_row w2 w.heap.size 0 _ _ g2
    have g_c1 := cell_of_row w2 w.heap.size 1 _ _ (0, 0) g2
    have g_f1 := frozen_of_row w2 w.heap.size 1 _ _ g2
    have g_c2 := cell_of_row w2 w.heap.size 2 _ _ (0, 0) g2
    have g_f2 := frozen_of_row w2 w.heap.size 2 _ _ g2
    have g_c3 := cell_of_row w2 w.heap.size 3 _ _ (0, 0) g2
    have g_f3 := frozen_of_row w2 w.heap.size 3 _ _ g2
    simp only [List.getElem?_toArray, List.getElem?_cons_zero, List.getElem?_cons_succ] at g_c0 g_c1 g_c2 g_c3
    have HW : Hid (WordIs s i ln (endp isLD s i) (nameK (s.extract i (endp isLD s i)) : Nat) (s.extract i (endp isLD s i)) 0 ln true) := .inl ⟨rfl, ⟨nameK (s.extract i (endp isLD s i)), s.extract i (endp isLD s i), 0, ln⟩, by rw [tokAt, dif_pos hi, if_pos hl]; rfl, rfl, rfl, rfl, rfl⟩
    clear hT2 g0 g2 hl
    generalize nameK (s.extract i (endp isLD s i)) = nk at *
    generalize s.extract i (endp isLD s i) = t at *
    go_wp2_with fail
    exact bodyPost_ret (v := .tuple #[.agg #[.int .i64 nk, .string t, .int .i64 0, .int .i64 ln], .bool true]) (by simp [results, Tryd.results26, go_sem, *]) rfl ⟨_, _, _, _, _, endp isLD s i, rfl, ((((hT3).other (Nat.le_refl _) (by omega) _ _).other (Nat.le_refl _) (by omega) _ _).other (Nat.le_refl _) (by omega) _ _).other (Nat.le_refl _) (by omega) _ _, HW.out⟩
end Go.Proofs.YtjepokoeljpflaaDoor
