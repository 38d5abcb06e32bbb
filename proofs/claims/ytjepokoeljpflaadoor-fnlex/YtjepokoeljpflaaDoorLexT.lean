/- The model's own reading of a text in quotes. -/
import Derived.Test.YtjepokoeljpflaaDoorLexN
namespace Go.Proofs.YtjepokoeljpflaaDoor
open Go.RowKit

theorem owns_empty (w : World) (e : TypeId) : (w.alloc (.cells #[] e)).ownsRow w.heap.size e 1 (.slice (some ⟨w.heap.size, 0, none⟩) 0 0) 0 (bc []) :=
  ⟨rfl, .inr ⟨w.heap.size, 0, _, rfl, Nat.le_refl _, heap_alloc_new w _, Nat.le_refl _, by unfold maxLen; omega, rfl, rfl⟩⟩

set_option maxRecDepth 100000 in
set_option maxHeartbeats 4000000 in
theorem string_any (s : ByteArray) (i : Nat) (w : World) (hs : s.size ≤ 1048576) (hi : i < s.size) :
    Calls Tryd.prog 42 #[.string s, .int .i64 i] w fun e w' => e = .returned (strV (strAll s (i + 1) [])) ∧ Below w.heap.size w w' := by
  obtain ⟨i0, hi0, hz0, hz1, hz2⟩ := info_parts Tryd.info5
  go_enter Tryd.func42, Tryd.ntmps42
  go_wp2_with fail
  go_loopw [6, 7] (fun v b wr => ∃ (k : Nat) (acc : List UInt8), b = .int .i64 k ∧ i + 1 ≤ k ∧ k ≤ s.size ∧ acc.length ≤ k ∧ wr.ownsRow w.heap.size 5 1 v acc.length (bc acc) ∧ Below w.heap.size w wr ∧ strAll s k acc = strAll s (i + 1) []) (fun _ b _ => s.size - (intOf b).toNat)
  case atStart => exact ⟨i + 1, [], by go_num, Nat.le_refl _, by omega, by simp, owns_empty w _, (Below.refl _ _).alloc (Nat.le_refl _) _, rfl⟩
  case round =>
    obtain ⟨k, acc, rfl, hik, hk, hal, hown, hb, he⟩ := hrel
    have hsz := hb.size
    by_cases hlt : k < s.size
    · by_cases h10 : s[k].toNat = 10
      · have HE : Hid (strAll s (i + 1) [] = none) := he.symm.trans (str_nl hlt h10)
        clear he
        go_wp2_with fail
        go_ret2
        exact ⟨by rw [HE.out]; rfl, hb⟩
      · have b10 : ((s[k].toNat : Int) == 10) = false := beq_no (by omega)
        by_cases h34 : s[k].toNat = 34
        · have HE : Hid (strAll s (i + 1) [] = some (acc, k + 1)) := he.symm.trans (str_q hlt h34)
          have hcv := run_own_string (P := Tryd.prog) 22 9 5 Tryd.underlying22 Tryd.underlying5 Tryd.underlying9 hown
          clear he
          go_wp2_with fail
          go_ret2
          exact ⟨by rw [HE.out]; rfl, hb⟩
        · have b34 : ((s[k].toNat : Int) == 34) = false := beq_no (by omega)
          by_cases h92 : s[k].toNat = 92
          · by_cases hl2 : k + 1 < s.size
            · by_cases c110 : s[k + 1].toNat = 110
              · have HE : Hid (strAll s (k + 2) (acc ++ [10]) = strAll s (i + 1) []) := (str_n hl2 h92 c110).trans he
                clear he
                go_wp2_with (at_builtin; go_must (refine wpList_append_own _ rfl _ _ 22 rfl w.heap.size 5 i0 (.int .u8 0) 1 1 Tryd.underlying22 hi0 hz0 hz1 hz2 rfl (by decide) _ _ _ rfl (hown.alloc _) ⟨wr.heap.size, 0, none⟩ 1 1 (bc [10]) rfl rfl ?c1 ?c2 ?c3 ?c4 ?c5 ?_))
                case c1 => exact lit_cells wr _ [10]
                case c2 => exact bc_oneCell _
                case c3 => unfold maxLen; omega
                case c4 => omega
                case c5 => simp; omega
                intro v' w1 hown' hgrow _
                have hb' := below_app hb hsz hown hgrow
                have ho' := own_step (l' := acc ++ [10]) hown' rfl rfl
                clear hown' hgrow
                go_wp2_with fail
                go_roundw
                case rel => exact ⟨k + 2, acc ++ [10], by go_num, by omega, by omega, by simp; omega, ho', hb', HE.out⟩
                case measure => simp [intOf]; omega
              · have b110 : ((s[k + 1].toNat : Int) == 110) = false := beq_no (by omega)
                by_cases c92 : s[k + 1].toNat = 92
                · have HE : Hid (strAll s (k + 2) (acc ++ [s[k + 1]]) = strAll s (i + 1) []) := (str_e hl2 h92 (.inl c92)).trans he
                  have hc : Hid (s[k + 1] = 92) := UInt8.toNat_inj.1 c92
                  rw [hc.out] at HE
                  clear he
                  go_wp2_with (at_builtin; go_must (refine wpList_append_own _ rfl _ _ 22 rfl w.heap.size 5 i0 (.int .u8 0) 1 1 Tryd.underlying22 hi0 hz0 hz1 hz2 rfl (by decide) _ _ _ rfl (hown.alloc _) ⟨wr.heap.size, 0, none⟩ 1 1 (bc [92]) rfl rfl ?c1 ?c2 ?c3 ?c4 ?c5 ?_))
                  case c1 => exact lit_cells wr _ [92]
                  case c2 => exact bc_oneCell _
                  case c3 => unfold maxLen; omega
                  case c4 => omega
                  case c5 => simp; omega
                  intro v' w1 hown' hgrow _
                  have hb' := below_app hb hsz hown hgrow
                  have ho' := own_step (l' := acc ++ [92]) hown' rfl rfl
                  clear hown' hgrow
                  go_wp2_with fail
                  go_roundw
                  case rel => exact ⟨k + 2, acc ++ [92], by go_num, by omega, by omega, by simp; omega, ho', hb', HE.out⟩
                  case measure => simp [intOf]; omega
                · have b92 : ((s[k + 1].toNat : Int) == 92) = false := beq_no (by omega)
                  by_cases c34 : s[k + 1].toNat = 34
                  · have HE : Hid (strAll s (k + 2) (acc ++ [s[k + 1]]) = strAll s (i + 1) []) := (str_e hl2 h92 (.inr c34)).trans he
                    have hc : Hid (s[k + 1] = 34) := UInt8.toNat_inj.1 c34
                    rw [hc.out] at HE
                    clear he
                    go_wp2_with (at_builtin; go_must (refine wpList_append_own _ rfl _ _ 22 rfl w.heap.size 5 i0 (.int .u8 0) 1 1 Tryd.underlying22 hi0 hz0 hz1 hz2 rfl (by decide) _ _ _ rfl (hown.alloc _) ⟨wr.heap.size, 0, none⟩ 1 1 (bc [34]) rfl rfl ?c1 ?c2 ?c3 ?c4 ?c5 ?_))
                    case c1 => exact lit_cells wr _ [34]
                    case c2 => exact bc_oneCell _
                    case c3 => unfold maxLen; omega
                    case c4 => omega
                    case c5 => simp; omega
                    intro v' w1 hown' hgrow _
                    have hb' := below_app hb hsz hown hgrow
                    have ho' := own_step (l' := acc ++ [34]) hown' rfl rfl
                    clear hown' hgrow
                    go_wp2_with fail
                    go_roundw
                    case rel => exact ⟨k + 2, acc ++ [34], by go_num, by omega, by omega, by simp; omega, ho', hb', HE.out⟩
                    case measure => simp [intOf]; omega
                  · have b34b : ((s[k + 1].toNat : Int) == 34) = false := beq_no (by omega)
                    have HE : Hid (strAll s (i + 1) [] = none) := he.symm.trans (str_bad hlt h92 (fun _ => ⟨c110, c92, c34⟩))
                    clear he
                    go_wp2_with fail
                    go_ret2
                    exact ⟨by rw [HE.out]; rfl, hb⟩
            · have HE : Hid (strAll s (i + 1) [] = none) := he.symm.trans (str_bad hlt h92 (fun h => absurd h hl2))
              clear he
              go_wp2_with fail
              go_ret2
              exact ⟨by rw [HE.out]; rfl, hb⟩
          · have b92 : ((s[k].toNat : Int) == 92) = false := beq_no (by omega)
            have HE : Hid (strAll s (k + 1) (acc ++ [s[k]]) = strAll s (i + 1) []) := (str_plain hlt h10 h34 h92).trans he
            clear he
            go_wp2_with (at_builtin; go_must (refine wpList_append_own _ rfl _ _ 22 rfl w.heap.size 5 i0 (.int .u8 0) 1 1 Tryd.underlying22 hi0 hz0 hz1 hz2 rfl (by decide) _ _ _ rfl (hown.alloc _) ⟨wr.heap.size, 0, none⟩ 1 1 (bc [s[k]]) rfl rfl ?c1 ?c2 ?c3 ?c4 ?c5 ?_))
            case c1 => exact lit_cells wr _ [s[k]]
            case c2 => exact bc_oneCell _
            case c3 => unfold maxLen; omega
            case c4 => omega
            case c5 => simp; omega
            intro v' w1 hown' hgrow _
            have hb' := below_app hb hsz hown hgrow
            have ho' := own_step (l' := acc ++ [s[k]]) hown' rfl rfl
            clear hown' hgrow
            go_wp2_with fail
            go_roundw
            case rel => exact ⟨k + 1, acc ++ [s[k]], by go_num, by omega, by omega, by simp; omega, ho', hb', HE.out⟩
            case measure => simp [intOf]; omega
    · have HE : Hid (strAll s (i + 1) [] = none) := he.symm.trans (str_out hlt)
      clear he
      go_wp2_with fail
      go_ret2
      exact ⟨by rw [HE.out]; rfl, hb⟩
end Go.Proofs.YtjepokoeljpflaaDoor
