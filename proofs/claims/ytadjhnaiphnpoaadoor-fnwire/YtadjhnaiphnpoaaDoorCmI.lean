/- CmdText of the program. -/
import Derived.Test.YtadjhnaiphnpoaaDoorCmM
import Derived.Test.YtadjhnaiphnpoaaDoorCloM
import Derived.Test.YtadjhnaiphnpoaaDoorDecI
namespace Go.Proofs.YtadjhnaiphnpoaaDoor
open Go.RowKit Go.Lib Go.Maps

theorem look_kind {w : World} {b : Nat} (h : w.ownsMap Tryd.prog 9 (plainElem Tryd.prog 3) b 16 kindD) (s : ByteArray) (hs : s.size ≤ 2097152) :
    (Instr.lookup 55 (.map (some b)) (.string s) false).run Tryd.prog w = .ok (.int .i64 (kindOf s)) w := by
  obtain ⟨c, hrun, hat, _⟩ := h.lookup_int lawStr Tryd.underlying55 Tryd.underlying3 (zeroInt _) (WideMaps.keyOf_string_mk Tryd.underlying9 (s := s) (by unfold maxLen; omega))
  have e : (DataW.lit (.int .i64 (kindOf s)) : DataW Unit) = .lit (.int .i64 c) := (kind_at s).symm.trans hat
  have e2 : kindOf s = c := (Lit.int.inj (DataW.lit.inj e)).2
  rw [hrun, e2]
theorem var_below {P : Program} {nm : String} {cs : Array Value} {w w' : World} (h : Below w.heap.size w w') (hv : w.var? P nm = some cs) : w'.var? P nm = some cs := by
  unfold World.var? at hv ⊢
  cases hg : P.globalNamed nm with
  | none => rw [hg] at hv; simp at hv
  | some g =>
    rw [hg] at hv
    simp only [Option.bind_some] at hv ⊢
    have hlt : g < w.heap.size := by
      by_cases hl : g < w.heap.size
      · exact hl
      · rw [Array.getElem?_eq_none (by omega)] at hv; simp at hv
    rw [h.block g hlt]; exact hv

set_option maxRecDepth 100000 in
theorem within_any (n a b : Int) (w : World) : Calls Tryd.prog 47 #[.int .i64 n, .int .i64 a, .int .i64 b] w fun e w' => e = .returned (.bool (decide (a ≤ n ∧ n ≤ b))) ∧ w' = w := by
  by_cases h1 : a ≤ n <;> by_cases h2 : n ≤ b
  all_goals
    go_enter Tryd.func47, Tryd.ntmps47
    go_wp2
    go_ret
    exact ⟨ret_bool (by simp_all), rfl⟩

set_option maxRecDepth 100000 in
set_option maxHeartbeats 1600000 in
theorem cmd_impl (s : ByteArray) (n : Int) (x : ByteArray) (w : World) (hs : s.size ≤ 2097152) (hx : x.size ≤ 2097152) (n0 : -9223372036854775808 ≤ n) (n1 : n ≤ 9223372036854775807) (htab : Lib.TabIs Tryd.prog w "internal/strconv.uint64pow10" .u64 Lib.pow10Tab) :
    Calls Tryd.prog 22 #[.agg #[.string s, .int .i64 n, .string x]] w fun e w' => e = .returned (.string (cmdT s n x)) ∧ Below w.heap.size w w' := by
  have HT : Hid (Lib.TabIs Tryd.prog w "internal/strconv.uint64pow10" .u64 Lib.pow10Tab) := htab
  clear htab
  go_enter Tryd.func22, Tryd.ntmps22
  go_wp2_with fail
  have c0 := st_cell (Below.refl (w.alloc (.cells #[.string s, .int .i64 n, .string x] 35)).heap.size _) 0
  simp only [List.getElem?_toArray, List.getElem?_cons_zero] at c0
  go_region_with (first | (go_at_call 45; refine (kinds_impl _).mono ?_; rintro e w1 ⟨b, rfl, hown1, hb1⟩; have hl1 := look_kind hown1 s hs; have hb1' := ((Below.refl _ _).drew).trans hb1; have hc1 := (st_cell hb1' 0).trans rfl; have hc2 := (st_cell hb1' 1).trans rfl; have hc3 := (st_cell hb1' 2).trans rfl))
  all_goals
    simp only [List.getElem?_toArray, List.getElem?_cons_zero, List.getElem?_cons_succ] at hc1 hc2 hc3
    have hbw := boxed hb1'
    have hlt : w.heap.size < w1.heap.size := by have := hb1'.size; simp at this; omega
    clear hb1 hb1' hown1 hl1 c0
    rcases kind_cases s with h | h | h | h
    · have H : Hid _ := cmdT0 n x h
      clear hc1 hc2 hc3
      rw [h]
      go_wp2_with fail
      go_ret
      exact ⟨by rw [H.out]; rfl, hbw⟩
    · have H : Hid _ := cmdT1 n x h
      clear hc2 hc3
      rw [h]
      go_wp2_with fail
      refine (clone_any s _ hs).mono ?_
      rintro e w2 ⟨rfl, hb2⟩
      go_wp2_with fail
      go_ret
      exact ⟨by rw [H.out]; rfl, hbw.trans (hb2.mono hbw.size)⟩
    · rw [h]
      by_cases hn : 0 ≤ n ∧ n ≤ 999999
      · have H : Hid _ := cmdT2 x h hn
        have hz := numT_size n n0 n1
        have hd : decide ((0:Int) ≤ n ∧ n ≤ 999999) = true := by simpa using hn
        clear h
        go_wp2_with fail
        refine (within_any n 0 999999 _).mono ?_
        rintro e w2 ⟨rfl, rfl⟩
        rw [hd]
        go_wp2_with fail
        refine (dec_impl n n0 n1 _ (var_below hbw HT.out)).mono ?_
        rintro e w3 ⟨rfl, hb3⟩
        have hc1' := (hb3.cell (p := ⟨w.heap.size, 0, none⟩) hlt).trans hc1
        rw [show (⟨(itoa n).toArray⟩ : ByteArray) = numT n from rfl]
        generalize numT n = t at *
        clear hc1 hc2 hc3
        have hsz : (s ++ (⟨#[32]⟩ : ByteArray)).size = s.size + 1 := by rw [ByteArray.size_append]; rfl
        go_wp2_with fail
        go_ret
        exact ⟨by rw [H.out]; rfl, hbw.trans (hb3.mono hbw.size)⟩
      · have H : Hid _ := cmdT2' x h hn
        have hd : decide ((0:Int) ≤ n ∧ n ≤ 999999) = false := by simpa using hn
        clear h
        go_wp2_with fail
        refine (within_any n 0 999999 _).mono ?_
        rintro e w2 ⟨rfl, rfl⟩
        rw [hd]
        go_wp2_with fail
        go_ret
        exact ⟨by rw [H.out]; rfl, hbw⟩
    · rw [h]
      have H : Hid _ := cmdT3 n x h
      have hsz : (s ++ (⟨#[32]⟩ : ByteArray)).size = s.size + 1 := by rw [ByteArray.size_append]; rfl
      go_wp2_with fail
      go_ret
      exact ⟨by rw [H.out]; rfl, hbw⟩
end Go.Proofs.YtadjhnaiphnpoaaDoor
