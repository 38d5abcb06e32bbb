/- The lexer's words: signs, told. -/
import Derived.Test.YtjepokoeljpflaaDoorLxF
namespace Go.Proofs.YtjepokoeljpflaaDoor
open Go.RowKit

set_option maxRecDepth 100000 in
set_option maxHeartbeats 8000000 in
theorem sign_lx (B c : Nat) (s : ByteArray) (i ln : Nat) (w : World) (hL : Lx w B c s i ln) (hi : i < s.size) (hs : s.size ≤ 1048576) (hnL : isL s[i] = false) (hnD : isD s[i] = false) (hq : ¬ s[i].toNat = 34) :
    Calls Tryd.prog 38 #[.pointer (some ⟨c, 0, none⟩)] w fun e w' => ∃ (kd : Int) (tx : ByteArray) (n l : Int) (ok : Bool) (j : Nat), e = .returned (.tuple #[.agg #[.int .i64 kd, .string tx, .int .i64 n, .int .i64 l], .bool ok]) ∧ LxTo B c s w w' j ln ∧ WordIs s i ln j kd tx n l ok := by
  have hclt := hL.lt
  have HTK : Hid (tokAt s i ln = if signW s i = 0 then none else some (⟨3, s.extract i (i + signW s i), 0, ln⟩, i + signW s i)) := by
    show _ = _
    rw [tokAt, dif_pos hi, if_neg (by rw [hnL]; decide), if_neg (by rw [hnD]; decide), if_neg hq]
  have hle : i + signW s i ≤ s.size := by
    unfold signW; repeat' split
    all_goals omega
  have hT0 := (LxTo.start hL).alloc (.cells #[.int .i64 0, .string ⟨#[]⟩, .int .i64 0, .int .i64 0] 32)
  clear hL hnL hnD hq
  go_enter Tryd.func38, Tryd.ntmps38
  go_wp2_with fail
  refine (width_any B c s i ln _ hT0.lx hi hs).mono ?_
  rintro e w1 ⟨rfl, nn, rfl⟩
  have hT1 := hT0.drewN nn
  have g0 : ((w.alloc (.cells #[.int .i64 0, .string ⟨#[]⟩, .int .i64 0, .int .i64 0] 32)).drewN nn).heap[w.heap.size]? = some (.cells #[.int .i64 0, .string ⟨#[]⟩, .int .i64 0, .int .i64 0] 32 (0, 0)) := heap_alloc_new w _
  have hz : w.heap.size < ((w.alloc (.cells #[.int .i64 0, .string ⟨#[]⟩, .int .i64 0, .int .i64 0] 32)).drewN nn).heap.size := (Array.getElem?_eq_some_iff.1 g0).1
  clear hT0
  generalize (w.alloc (.cells #[.int .i64 0, .string ⟨#[]⟩, .int .i64 0, .int .i64 0] 32)).drewN nn = w1 at *
  generalize signW s i = sw at *
  by_cases h0 : sw = 0
  · subst h0
    have HW : Hid (WordIs s i ln i 0 ⟨#[]⟩ 0 0 false) := .inr ⟨rfl, by rw [HTK.out, if_pos rfl]⟩
    have g_c0 := cell_of_row w1 w.heap.size 0 _ _ (0, 0) g0
    have g_f0 := frozen_of_row w1 w.heap.size 0 _ _ g0
    have g_c1 := cell_of_row w1 w.heap.size 1 _ _ (0, 0) g0
    have g_f1 := frozen_of_row w1 w.heap.size 1 _ _ g0
    have g_c2 := cell_of_row w1 w.heap.size 2 _ _ (0, 0) g0
    have g_f2 := frozen_of_row w1 w.heap.size 2 _ _ g0
    have g_c3 := cell_of_row w1 w.heap.size 3 _ _ (0, 0) g0
    have g_f3 := frozen_of_row w1 w.heap.size 3 _ _ g0
    simp only [List.getElem?_toArray, List.getElem?_cons_zero, List.getElem?_cons_succ] at g_c0 g_c1 g_c2 g_c3
    clear g0 HTK
    go_wp2_with fail
    exact bodyPost_ret (v := .tuple #[.agg #[.int .i64 0, .string ⟨#[]⟩, .int .i64 0, .int .i64 0], .bool false]) (by simp [results, Tryd.results38, go_sem, *]) rfl ⟨_, _, _, _, _, i, rfl, ((((hT1).other (Nat.le_refl _) (by omega) _ _).other (Nat.le_refl _) (by omega) _ _).other (Nat.le_refl _) (by omega) _ _).other (Nat.le_refl _) (by omega) _ _, HW.out⟩
  · have HW : Hid (WordIs s i ln (i + sw) 3 (s.extract i (i + sw)) 0 ln true) := .inl ⟨rfl, ⟨3, s.extract i (i + sw), 0, ln⟩, by rw [HTK.out, if_neg h0], rfl, rfl, rfl, rfl⟩
    have b0 : ((sw : Int) == 0) = false := beq_no (by omega)
    have c2 := hT1.lx.c2
    have hne1 : ¬ c = w.heap.size := by omega
    have hne2 : ¬ w.heap.size = c := by omega
    clear HTK
    go_wp2_with fail
    go_region_held (fun w' => w'.cell? ⟨c, 2, none⟩ = some (.int .i64 ln)) (go_keep) (first | (go_at_call 46; refine (take_any B c s i ln sw w1.drew hT1.lx.drew hle hs).mono ?_; rintro e w2 ⟨rfl, hLx2, hby2⟩; have q2 := hLx2.c2; have g2 : w2.heap[w.heap.size]? = _ := (hby2.block w.heap.size hz (by simp; omega)).trans g0; have g_c0 := cell_of_row w2 w.heap.size 0 _ _ (0, 0) g2; have g_f0 := frozen_of_row w2 w.heap.size 0 _ _ g2; have g_c1 := cell_of_row w2 w.heap.size 1 _ _ (0, 0) g2; have g_f1 := frozen_of_row w2 w.heap.size 1 _ _ g2; have g_c2 := cell_of_row w2 w.heap.size 2 _ _ (0, 0) g2; have g_f2 := frozen_of_row w2 w.heap.size 2 _ _ g2; have g_c3 := cell_of_row w2 w.heap.size 3 _ _ (0, 0) g2; have g_f3 := frozen_of_row w2 w.heap.size 3 _ _ g2; simp only [List.getElem?_toArray, List.getElem?_cons_zero, List.getElem?_cons_succ] at g_c0 g_c1 g_c2 g_c3; clear g2))
    go_wp2_with fail
    exact bodyPost_ret (v := .tuple #[.agg #[.int .i64 3, .string (s.extract i (i + sw)), .int .i64 0, .int .i64 ln], .bool true]) (by simp [results, Tryd.results38, go_sem, *]) rfl ⟨_, _, _, _, _, i + sw, rfl, ((((hT1.drew.step ⟨hLx2, hby2⟩).other (Nat.le_refl _) (by omega) _ _).other (Nat.le_refl _) (by omega) _ _).other (Nat.le_refl _) (by omega) _ _).other (Nat.le_refl _) (by omega) _ _, HW.out⟩
end Go.Proofs.YtjepokoeljpflaaDoor
