/- The lexer's words: texts in quotes. -/
import Derived.Test.YtjepokoeljpflaaDoorLxD
import Derived.Test.YtjepokoeljpflaaDoorLexT
namespace Go.Proofs.YtjepokoeljpflaaDoor
open Go.RowKit

theorem esc_n (b : Int) (w : World) (hb : b = 110) : Calls Tryd.prog 49 #[.int .u8 b] w fun e w' => e = .returned (.tuple #[.int .u8 10, .bool true]) ∧ w = w' := by
  subst hb
  go_enter Tryd.func49, Tryd.ntmps49
  go_wp2
  go_ret2
  exact ⟨rfl, rfl⟩
theorem esc_q' (b : Int) (w : World) (hb : b = 34) : Calls Tryd.prog 49 #[.int .u8 b] w fun e w' => e = .returned (.tuple #[.int .u8 34, .bool true]) ∧ w = w' := by
  subst hb
  go_enter Tryd.func49, Tryd.ntmps49
  go_wp2
  go_ret2
  exact ⟨rfl, rfl⟩
theorem esc_b (b : Int) (w : World) (hb : b = 92) : Calls Tryd.prog 49 #[.int .u8 b] w fun e w' => e = .returned (.tuple #[.int .u8 92, .bool true]) ∧ w = w' := by
  subst hb
  go_enter Tryd.func49, Tryd.ntmps49
  go_wp2
  go_ret2
  exact ⟨rfl, rfl⟩
theorem esc_no (b : Int) (w : World) (h1 : ¬ b = 110) (h2 : ¬ b = 34) (h3 : ¬ b = 92) : Calls Tryd.prog 49 #[.int .u8 b] w fun e w' => e = .returned (.tuple #[.int .u8 0, .bool false]) ∧ w = w' := by
  have b1 := beq_no h1
  have b2 := beq_no h2
  have b3 := beq_no h3
  clear h1 h2 h3
  go_enter Tryd.func49, Tryd.ntmps49
  go_wp2
  go_ret2
  exact ⟨rfl, rfl⟩

theorem LxTo.grown {B c : Nat} {s : ByteArray} {w wr w1 : World} {i ln : Nat} {o : Obj} {row : Option Nat} (h : LxTo B c s w wr i ln) (hg : (wr.alloc o).grownBy w1 row) (hrow : ∀ k, row = some k → w.heap.size + 1 ≤ k) (hc : c < w.heap.size) : LxTo B c s w w1 i ln := by
  have hne : ∀ k, k < w.heap.size → some k ≠ row := fun k hk e => by have := hrow k e.symm; omega
  have hsz := h.by'.size
  refine ⟨⟨h.lx.up, ?_⟩, ⟨hg.os.trans h.by'.os, hg.tape.trans h.by'.tape, hg.output.trans h.by'.output, by have := hg.size; simp at this; omega, fun k hk hkc => ?_⟩⟩
  · rw [hg.block c (by simp; omega) (hne c hc), Below.heap_alloc _ _ _ (by omega)]; exact h.lx.row
  · rw [hg.block k (by simp; omega) (hne k hk), Below.heap_alloc _ _ _ (by omega)]; exact h.by'.block k hk hkc
theorem res_grown {w wr w1 : World} {o : Obj} {row : Option Nat} {x : Array Value} {T : TypeId} (h : wr.heap[w.heap.size]? = some (.cells x T (0, 0))) (hg : (wr.alloc o).grownBy w1 row) (hrow : ∀ k, row = some k → w.heap.size + 1 ≤ k) : w1.heap[w.heap.size]? = some (.cells x T (0, 0)) := by
  have hlt := (Array.getElem?_eq_some_iff.1 h).1
  rw [hg.block _ (by simp; omega) (fun e => by have := hrow _ e.symm; omega), Below.heap_alloc _ _ _ hlt]; exact h

set_option maxRecDepth 100000 in
set_option maxHeartbeats 8000000 in
theorem text_lx (B c : Nat) (s : ByteArray) (i ln : Nat) (w : World) (hL : Lx w B c s i ln) (hi : i < s.size) (hs : s.size ≤ 1048576) (hnL : isL s[i] = false) (hnD : isD s[i] = false) (hq : s[i].toNat = 34) :
    Calls Tryd.prog 37 #[.pointer (some ⟨c, 0, none⟩)] w fun e w' => ∃ (kd : Int) (tx : ByteArray) (n l : Int) (ok : Bool) (j : Nat), e = .returned (.tuple #[.agg #[.int .i64 kd, .string tx, .int .i64 n, .int .i64 l], .bool ok]) ∧ LxTo B c s w w' j ln ∧ WordIs s i ln j kd tx n l ok := by
  have hclt := hL.lt
  have HTK : Hid (tokAt s i ln = (strAll s (i + 1) []).map fun x => (⟨2, ⟨x.1.toArray⟩, 0, ln⟩, x.2)) := by
    show _ = _
    rw [tokAt, dif_pos hi, if_neg (by rw [hnL]; decide), if_neg (by rw [hnD]; decide), if_pos hq]
  have hT0 := (LxTo.start hL).alloc (.cells #[.int .i64 0, .string ⟨#[]⟩, .int .i64 0, .int .i64 0] 32)
  have hr0 : (w.alloc (.cells #[.int .i64 0, .string ⟨#[]⟩, .int .i64 0, .int .i64 0] 32)).heap[w.heap.size]? = some (.cells #[.int .i64 0, .string ⟨#[]⟩, .int .i64 0, .int .i64 0] 32 (0, 0)) := heap_alloc_new w _
  have c1 := hL.c1
  have HT0 : Hid (LxTo B c s w (w.alloc (.cells #[.int .i64 0, .string ⟨#[]⟩, .int .i64 0, .int .i64 0] 32)) i ln) := hT0
  have HR0 : Hid ((w.alloc (.cells #[.int .i64 0, .string ⟨#[]⟩, .int .i64 0, .int .i64 0] 32)).heap[w.heap.size]? = some (.cells #[.int .i64 0, .string ⟨#[]⟩, .int .i64 0, .int .i64 0] 32 (0, 0))) := hr0
  have hc1' : (w.alloc (.cells #[.int .i64 0, .string ⟨#[]⟩, .int .i64 0, .int .i64 0] 32)).cell? ⟨c, 1, none⟩ = some (.int .i64 i) := hT0.lx.c1
  clear hL hnL hnD hq hT0 hr0
  obtain ⟨i0, hi0, hz0, hz1, hz2⟩ := info_parts Tryd.info5
  go_enter Tryd.func37, Tryd.ntmps37
  go_wp2_with fail
  go_loopw [4, 5] (fun v b wr => ∃ (k : Nat) (acc : List UInt8), b = .int .i64 k ∧ i + 1 ≤ k ∧ k ≤ s.size ∧ acc.length ≤ k ∧ wr.ownsRow (w.heap.size + 1) 5 1 v acc.length (bc acc) ∧ LxTo B c s w wr i ln ∧ wr.heap[w.heap.size]? = some (.cells #[.int .i64 0, .string ⟨#[]⟩, .int .i64 0, .int .i64 0] 32 (0, 0)) ∧ strAll s k acc = strAll s (i + 1) []) (fun _ b _ => s.size - (intOf b).toNat)
  case atStart => exact ⟨i + 1, [], by go_num, Nat.le_refl _, by omega, by simp, World.ownsRow_nil _ _ _ _, HT0.out, HR0.out, rfl⟩
  case round =>
    rename_i v _ _
    obtain ⟨k, acc, rfl, hik, hk, hal, hown, hT, hres, he⟩ := hrel
    have c0 := hT.lx.c0
    have c1 := hT.lx.c1
    have c2 := hT.lx.c2
    have z1 := hT.lx.fr 1
    have hsz := hT.by'.size
    have hz := (Array.getElem?_eq_some_iff.1 hres).1
    have g_c0 := cell_of_row wr w.heap.size 0 _ _ (0, 0) hres
    have g_f0 := frozen_of_row wr w.heap.size 0 _ _ hres
    have g_c1 := cell_of_row wr w.heap.size 1 _ _ (0, 0) hres
    have g_f1 := frozen_of_row wr w.heap.size 1 _ _ hres
    have g_c2 := cell_of_row wr w.heap.size 2 _ _ (0, 0) hres
    have g_f2 := frozen_of_row wr w.heap.size 2 _ _ hres
    have g_c3 := cell_of_row wr w.heap.size 3 _ _ (0, 0) hres
    have g_f3 := frozen_of_row wr w.heap.size 3 _ _ hres
    simp only [List.getElem?_toArray, List.getElem?_cons_zero, List.getElem?_cons_succ] at g_c0 g_c1 g_c2 g_c3
    by_cases hlt : k < s.size
    · by_cases h10 : s[k].toNat = 10
      · have HE : Hid (strAll s (i + 1) [] = none) := he.symm.trans (str_nl hlt h10)
        have HW : Hid (WordIs s i ln (i) 0 ⟨#[]⟩ 0 0 false) := .inr ⟨rfl, by rw [HTK.out, HE.out]; rfl⟩
        clear he
        go_wp2_with fail
        exact bodyPost_ret (v := .tuple #[.agg #[.int .i64 0, .string ⟨#[]⟩, .int .i64 0, .int .i64 0], .bool false]) (by simp [results, Tryd.results37, go_sem, *]) rfl ⟨_, _, _, _, _, i, rfl, ((((hT).other (Nat.le_refl _) (by omega) _ _).other (Nat.le_refl _) (by omega) _ _).other (Nat.le_refl _) (by omega) _ _).other (Nat.le_refl _) (by omega) _ _, HW.out⟩
      · have b10 : ((s[k].toNat : Int) == 10) = false := beq_no (by omega)
        by_cases h34 : s[k].toNat = 34
        · have HE : Hid (strAll s (i + 1) [] = some (acc, k + 1)) := he.symm.trans (str_q hlt h34)
          have hown2 := (hown.kept (by_set wr c 1 (.int .i64 ((k : Int) + 1))) (.inr (fun e => by have := (hown.lt c e).1; omega))).drew
          have hne1 : ¬ c = w.heap.size := by omega
          have hne2 : ¬ w.heap.size = c := by omega
          have hcv := run_own_string (P := Tryd.prog) 22 9 5 Tryd.underlying22 Tryd.underlying5 Tryd.underlying9 hown2
          have HW : Hid (WordIs s i ln (k + 1) 2 ⟨acc.toArray⟩ 0 ln true) := .inl ⟨rfl, ⟨2, ⟨acc.toArray⟩, 0, ln⟩, by rw [HTK.out, HE.out]; rfl, rfl, rfl, rfl, rfl⟩
          clear he
          go_wp2_with fail
          go_region
          go_wp2_with fail
          exact bodyPost_ret (v := .tuple #[.agg #[.int .i64 2, .string ⟨acc.toArray⟩, .int .i64 0, .int .i64 ln], .bool true]) (by simp [results, Tryd.results37, go_sem, *]) rfl ⟨_, _, _, _, _, k + 1, rfl, (((((hT.set1 (k + 1) _ (by omega)).drew).other (Nat.le_refl _) (by omega) _ _).other (Nat.le_refl _) (by omega) _ _).other (Nat.le_refl _) (by omega) _ _).other (Nat.le_refl _) (by omega) _ _, HW.out⟩
        · have b34 : ((s[k].toNat : Int) == 34) = false := beq_no (by omega)
          by_cases h92 : s[k].toNat = 92
          · by_cases hl2 : k + 1 < s.size
            · have bk2 : k + 1 < s.size := hl2
              by_cases c110 : s[k + 1].toNat = 110
              · have HC : Hid ((s[k + 1].toNat : Int) = 110) := congrArg Nat.cast c110
                have HE : Hid (strAll s (k + 2) (acc ++ [10]) = strAll s (i + 1) []) := (str_n hl2 h92 c110).trans he
                clear he c110
                go_wp2_with fail
                refine (esc_n _ _ HC.out).mono ?_
                rintro e we ⟨rfl, rfl⟩
                go_wp2_with (at_builtin; go_must (refine wpList_append_own _ rfl _ _ 22 rfl (w.heap.size + 1) 5 i0 (.int .u8 0) 1 1 Tryd.underlying22 hi0 hz0 hz1 hz2 rfl (by decide) _ _ _ rfl (hown.alloc _) ⟨wr.heap.size, 0, none⟩ 1 1 (bc [10]) rfl rfl ?c1 ?c2 ?c3 ?c4 ?c5 ?_))
                case c1 => exact lit_cells wr _ [10]
                case c2 => exact bc_oneCell _
                case c3 => unfold maxLen; omega
                case c4 => omega
                case c5 => simp; omega
                intro v' w1 hown' hgrow _
                have hT' := hT.grown hgrow (fun k hk => (hown.lt k hk).1) hclt
                have hres' := res_grown hres hgrow (fun k hk => (hown.lt k hk).1)
                have ho' := own_step (l' := acc ++ [10]) hown' rfl rfl
                clear hown' hgrow
                go_wp2_with fail
                go_roundw
                case rel => exact ⟨k + 2, acc ++ [10], by go_num, by omega, by omega, by simp; omega, ho', hT', hres', HE.out⟩
                case measure => simp [intOf]; omega
              · by_cases c92 : s[k + 1].toNat = 92
                · have HC : Hid ((s[k + 1].toNat : Int) = 92) := congrArg Nat.cast c92
                  have HE : Hid (strAll s (k + 2) (acc ++ [s[k + 1]]) = strAll s (i + 1) []) := (str_e hl2 h92 (.inl c92)).trans he
                  rw [show s[k + 1] = 92 from UInt8.toNat_inj.1 c92] at HE
                  clear he c110 c92
                  go_wp2_with fail
                  refine (esc_b _ _ HC.out).mono ?_
                  rintro e we ⟨rfl, rfl⟩
                  go_wp2_with (at_builtin; go_must (refine wpList_append_own _ rfl _ _ 22 rfl (w.heap.size + 1) 5 i0 (.int .u8 0) 1 1 Tryd.underlying22 hi0 hz0 hz1 hz2 rfl (by decide) _ _ _ rfl (hown.alloc _) ⟨wr.heap.size, 0, none⟩ 1 1 (bc [92]) rfl rfl ?c1 ?c2 ?c3 ?c4 ?c5 ?_))
                  case c1 => exact lit_cells wr _ [92]
                  case c2 => exact bc_oneCell _
                  case c3 => unfold maxLen; omega
                  case c4 => omega
                  case c5 => simp; omega
                  intro v' w1 hown' hgrow _
                  have hT' := hT.grown hgrow (fun k hk => (hown.lt k hk).1) hclt
                  have hres' := res_grown hres hgrow (fun k hk => (hown.lt k hk).1)
                  have ho' := own_step (l' := acc ++ [92]) hown' rfl rfl
                  clear hown' hgrow
                  go_wp2_with fail
                  go_roundw
                  case rel => exact ⟨k + 2, acc ++ [92], by go_num, by omega, by omega, by simp; omega, ho', hT', hres', HE.out⟩
                  case measure => simp [intOf]; omega
                · by_cases c34 : s[k + 1].toNat = 34
                  · have HC : Hid ((s[k + 1].toNat : Int) = 34) := congrArg Nat.cast c34
                    have HE : Hid (strAll s (k + 2) (acc ++ [s[k + 1]]) = strAll s (i + 1) []) := (str_e hl2 h92 (.inr c34)).trans he
                    rw [show s[k + 1] = 34 from UInt8.toNat_inj.1 c34] at HE
                    clear he c110 c92 c34
                    go_wp2_with fail
                    refine (esc_q' _ _ HC.out).mono ?_
                    rintro e we ⟨rfl, rfl⟩
                    go_wp2_with (at_builtin; go_must (refine wpList_append_own _ rfl _ _ 22 rfl (w.heap.size + 1) 5 i0 (.int .u8 0) 1 1 Tryd.underlying22 hi0 hz0 hz1 hz2 rfl (by decide) _ _ _ rfl (hown.alloc _) ⟨wr.heap.size, 0, none⟩ 1 1 (bc [34]) rfl rfl ?c1 ?c2 ?c3 ?c4 ?c5 ?_))
                    case c1 => exact lit_cells wr _ [34]
                    case c2 => exact bc_oneCell _
                    case c3 => unfold maxLen; omega
                    case c4 => omega
                    case c5 => simp; omega
                    intro v' w1 hown' hgrow _
                    have hT' := hT.grown hgrow (fun k hk => (hown.lt k hk).1) hclt
                    have hres' := res_grown hres hgrow (fun k hk => (hown.lt k hk).1)
                    have ho' := own_step (l' := acc ++ [34]) hown' rfl rfl
                    clear hown' hgrow
                    go_wp2_with fail
                    go_roundw
                    case rel => exact ⟨k + 2, acc ++ [34], by go_num, by omega, by omega, by simp; omega, ho', hT', hres', HE.out⟩
                    case measure => simp [intOf]; omega
                  · have N1 : Hid (¬ (s[k + 1].toNat : Int) = 110) := by show ¬ _; omega
                    have N2 : Hid (¬ (s[k + 1].toNat : Int) = 34) := by show ¬ _; omega
                    have N3 : Hid (¬ (s[k + 1].toNat : Int) = 92) := by show ¬ _; omega
                    have HE : Hid (strAll s (i + 1) [] = none) := he.symm.trans (str_bad hlt h92 (fun _ => ⟨c110, c92, c34⟩))
                    have HW : Hid (WordIs s i ln (i) 0 ⟨#[]⟩ 0 0 false) := .inr ⟨rfl, by rw [HTK.out, HE.out]; rfl⟩
                    clear he
                    clear c110 c92 c34
                    go_wp2_with fail
                    refine (esc_no _ _ N1.out N2.out N3.out).mono ?_
                    rintro e we ⟨rfl, rfl⟩
                    go_wp2_with fail
                    exact bodyPost_ret (v := .tuple #[.agg #[.int .i64 0, .string ⟨#[]⟩, .int .i64 0, .int .i64 0], .bool false]) (by simp [results, Tryd.results37, go_sem, *]) rfl ⟨_, _, _, _, _, i, rfl, ((((hT).other (Nat.le_refl _) (by omega) _ _).other (Nat.le_refl _) (by omega) _ _).other (Nat.le_refl _) (by omega) _ _).other (Nat.le_refl _) (by omega) _ _, HW.out⟩
            · have HE : Hid (strAll s (i + 1) [] = none) := he.symm.trans (str_bad hlt h92 (fun h => absurd h hl2))
              have HW : Hid (WordIs s i ln (i) 0 ⟨#[]⟩ 0 0 false) := .inr ⟨rfl, by rw [HTK.out, HE.out]; rfl⟩
              clear he
              go_wp2_with fail
              exact bodyPost_ret (v := .tuple #[.agg #[.int .i64 0, .string ⟨#[]⟩, .int .i64 0, .int .i64 0], .bool false]) (by simp [results, Tryd.results37, go_sem, *]) rfl ⟨_, _, _, _, _, i, rfl, ((((hT).other (Nat.le_refl _) (by omega) _ _).other (Nat.le_refl _) (by omega) _ _).other (Nat.le_refl _) (by omega) _ _).other (Nat.le_refl _) (by omega) _ _, HW.out⟩
          · have b92 : ((s[k].toNat : Int) == 92) = false := beq_no (by omega)
            have HE : Hid (strAll s (k + 1) (acc ++ [s[k]]) = strAll s (i + 1) []) := (str_plain hlt h10 h34 h92).trans he
            clear he
            go_wp2_with (at_builtin; go_must (refine wpList_append_own _ rfl _ _ 22 rfl (w.heap.size + 1) 5 i0 (.int .u8 0) 1 1 Tryd.underlying22 hi0 hz0 hz1 hz2 rfl (by decide) _ _ _ rfl (hown.alloc _) ⟨wr.heap.size, 0, none⟩ 1 1 (bc [s[k]]) rfl rfl ?c1 ?c2 ?c3 ?c4 ?c5 ?_))
            case c1 => exact lit_cells wr _ [s[k]]
            case c2 => exact bc_oneCell _
            case c3 => unfold maxLen; omega
            case c4 => omega
            case c5 => simp; omega
            intro v' w1 hown' hgrow _
            have hT' := hT.grown hgrow (fun k hk => (hown.lt k hk).1) hclt
            have hres' := res_grown hres hgrow (fun k hk => (hown.lt k hk).1)
            have ho' := own_step (l' := acc ++ [s[k]]) hown' rfl rfl
            clear hown' hgrow
            go_wp2_with fail
            go_roundw
            case rel => exact ⟨k + 1, acc ++ [s[k]], by go_num, by omega, by omega, by simp; omega, ho', hT', hres', HE.out⟩
            case measure => simp [intOf]; omega
    · have HE : Hid (strAll s (i + 1) [] = none) := he.symm.trans (str_out hlt)
      have HW : Hid (WordIs s i ln (i) 0 ⟨#[]⟩ 0 0 false) := .inr ⟨rfl, by rw [HTK.out, HE.out]; rfl⟩
      clear he
      go_wp2_with fail
      exact bodyPost_ret (v := .tuple #[.agg #[.int .i64 0, .string ⟨#[]⟩, .int .i64 0, .int .i64 0], .bool false]) (by simp [results, Tryd.results37, go_sem, *]) rfl ⟨_, _, _, _, _, i, rfl, ((((hT).other (Nat.le_refl _) (by omega) _ _).other (Nat.le_refl _) (by omega) _ _).other (Nat.le_refl _) (by omega) _ _).other (Nat.le_refl _) (by omega) _ _, HW.out⟩
end Go.Proofs.YtjepokoeljpflaaDoor
