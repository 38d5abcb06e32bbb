/- The model's Lex. -/
import Derived.Test.YtjepokoeljpflaaDoorLexL2
import Derived.Test.YtjepokoeljpflaaDoorLexL3
import Derived.Test.YtjepokoeljpflaaDoorLexR
namespace Go.Proofs.YtjepokoeljpflaaDoor
open Go.RowKit

theorem token_any (s : ByteArray) (i ln : Nat) (w : World) (hs : s.size ≤ 1048576) (hi : i < s.size) :
    Calls Tryd.prog 28 #[.string s, .int .i64 i] w fun e w' => ∃ (kd : Int) (tx : ByteArray) (n k : Int), e = .returned (.tuple #[.agg #[.int .i64 kd, .string tx, .int .i64 n, .int .i64 0], .int .i64 k]) ∧ TokIs s i ln kd tx n k ∧ Below w.heap.size w w' := by
  cases hL : isL s[i]
  · cases hD : isD s[i]
    · by_cases h34 : s[i].toNat = 34
      · exact token_string s i ln w hs hi hL hD h34
      · exact token_sign s i ln w hs hi hL hD h34
    · exact token_number s i ln w hs hi hL hD
  · exact token_name s i ln w hs hi hL

theorem Tryd.infoTok : (Tryd.prog.info? 32).map (fun i => (i.zero, i.size, i.bytes)) = some (some (.agg #[.int .i64 0, .string ⟨#[]⟩, .int .i64 0, .int .i64 0]), 4, 40) := by kernel_rfl
theorem own_later {w w1 : World} {B : Nat} {e : TypeId} {sz n : Nat} {v : Value} {xs : List Value} (h : w.ownsRow B e sz v n xs) (hb : Below w.heap.size w w1) : w1.ownsRow B e sz v n xs :=
  ⟨h.1, h.2.imp id fun ⟨g, cap, cur, e1, e2, e3, e4⟩ => ⟨g, cap, cur, e1, e2, by rw [hb.block g (Array.getElem?_eq_some_iff.1 e3).1]; exact e3, e4⟩⟩
theorem owns_none (w : World) (e : TypeId) (sz : Nat) : (w.alloc (.cells #[] e)).ownsRow w.heap.size e sz (.slice (some ⟨w.heap.size, 0, none⟩) 0 0) 0 [] :=
  ⟨by simp, .inr ⟨w.heap.size, 0, _, rfl, Nat.le_refl _, heap_alloc_new w _, Nat.le_refl _, by unfold maxLen; omega, by simp, by simp⟩⟩
theorem owns_none_at (w : World) (e : TypeId) (sz B nb : Nat) (hn : nb = w.heap.size) (hB : B ≤ w.heap.size) : (w.alloc (.cells #[] e)).ownsRow B e sz (.slice (some ⟨nb, 0, none⟩) 0 0) 0 [] := by
  subst hn
  exact ⟨by simp, .inr ⟨w.heap.size, 0, _, rfl, hB, heap_alloc_new w _, Nat.le_refl _, by unfold maxLen; omega, by simp, by simp⟩⟩
theorem tok_step {w1 : World} {B : Nat} {e : TypeId} {v' : Value} {acc : List Tk} {t : Tk} {ln : Nat} (h : w1.ownsRow B e 4 v' (acc.length + 1) (tkCells acc ++ [.int .i64 t.kind, .string t.text, .int .i64 t.n, .int .i64 ln])) (hl : t.line = ln) :
    w1.ownsRow B e 4 v' (acc ++ [t]).length (tkCells (acc ++ [t])) := by
  subst hl; rw [tkCells_snoc, List.length_append]; exact h
theorem tok_cells (wx : World) (e : TypeId) (a b c d : Value) (nb : Nat) (hn : nb = wx.heap.size) : ∀ j u, [a, b, c, d][j]? = some u → (wx.alloc (.cells #[a, b, c, d] e)).cell? ((⟨nb, 0, none⟩ : Addr).add j) = some u := by
  intro j u hu
  subst hn
  have hadd : (⟨wx.heap.size, 0, none⟩ : Addr).add j = ⟨wx.heap.size, j, none⟩ := by unfold Addr.add; split <;> simp_all
  rw [hadd, cell_of_row _ wx.heap.size j _ e (0, 0) (heap_alloc_new wx _)]
  simpa using hu

set_option maxRecDepth 100000 in
set_option maxHeartbeats 4000000 in
theorem lex_spec (s : ByteArray) (w : World) (hs : s.size ≤ 1048576) :
    Calls Tryd.prog 8 #[.string s] w fun e w' => ∃ v, e = .returned (.tuple #[v, .int .i64 ((lexAll s).2 : Nat)]) ∧ w'.ownsRow w.heap.size 32 4 v (lexAll s).1.length (tkCells (lexAll s).1) ∧ Below w.heap.size w w' := by
  obtain ⟨i0, hi0, hz0, hz1, hz2⟩ := info_parts Tryd.infoTok
  by_cases hbig : 4000 < s.size
  · have HE : Hid (lexAll s = ([], 1)) := by show _ = _; simp [lexAll, hbig]
    go_enter Tryd.func8, Tryd.ntmps8
    go_wp2_with fail
    go_ret2
    rw [HE.out]
    exact ⟨_, rfl, owns_none w _ 4, below_one w _⟩
  · have HE : Hid (lexAll s = lexG s (skipAll s 0 1).1 (skipAll s 0 1).2 []) := lexAll_eq s hbig
    have hb0 := skipAll_bounds s 0 1 (Nat.zero_le _)
    have hsm : s.size ≤ 4000 := by omega
    go_enter Tryd.func8, Tryd.ntmps8
    go_wp2_with fail
    refine (skip_spec s 0 1 _ hs (Nat.zero_le _) (by omega)).mono ?_
    rintro e w1 ⟨rfl, rfl⟩
    go_wp2_with fail
    go_loopw [4, 5, 6] (fun v a b wr => ∃ (i ln : Nat) (acc : List Tk), a = .int .i64 i ∧ b = .int .i64 ln ∧ i ≤ s.size ∧ ln ≤ 1 + i ∧ acc.length ≤ i ∧ wr.ownsRow w.heap.size 32 4 v acc.length (tkCells acc) ∧ Below w.heap.size w wr ∧ lexG s i ln acc = lexAll s) (fun _ a _ _ => s.size - (intOf a).toNat)
    case atStart => exact ⟨_, _, [], rfl, rfl, by omega, by omega, Nat.zero_le _, owns_none w _ 4, below_one w _, HE.out.symm⟩
    case round =>
      obtain ⟨i, ln, acc, rfl, rfl, hi, hln, hal, hown, hb, he⟩ := hrel
      have HR : Hid (lexG s i ln acc = lexAll s) := he
      clear he
      have hsz := hb.size
      by_cases hlt : i < s.size
      · go_wp2_with fail
        refine (token_any s i ln _ hs hlt).mono ?_
        rintro e w1 ⟨kd, tx, n, k, rfl, htok, hb1⟩
        have hown1 := own_later hown hb1
        have hB1 : Below w.heap.size w w1 := hb.trans (hb1.mono hsz)
        have hsz1 := hB1.size
        rcases htok with ⟨t, k', ht, rfl, rfl, rfl, rfl⟩ | ⟨ht, rfl⟩
        · have htb := tok_bounds ht
          have hsb := skipAll_bounds s k' ln htb.2.1
          have HS : Hid (lexG s (skipAll s k' ln).1 (skipAll s k' ln).2 (acc ++ [t]) = lexAll s) := (lex_step ht).trans HR.out
          have HL : Hid (t.line = ln) := htb.2.2.1
          obtain ⟨q1, q2, _, q4, q5⟩ := htb
          clear ht hown hb1 HR
          go_wp2_with (at_builtin; go_must (refine wpList_append_own _ rfl _ _ 25 rfl w.heap.size 32 i0 (.agg #[.int .i64 0, .string ⟨#[]⟩, .int .i64 0, .int .i64 0]) 4 40 Tryd.underlying25 hi0 hz0 hz1 hz2 rfl (by decide) _ _ _ rfl ((hown1.alloc _).alloc _) ⟨w1.heap.size + 1, 0, none⟩ 1 1 [.int .i64 t.kind, .string t.text, .int .i64 t.n, .int .i64 ln] rfl rfl ?c1 ?c2 ?c3 ?c4 ?c5 ?_))
          case c1 => exact tok_cells _ _ _ _ _ _ _ (by simp)
          case c2 => intro u hu; simp at hu; rcases hu with rfl | rfl | rfl | rfl <;> rfl
          case c3 => unfold maxLen; omega
          case c4 => omega
          case c5 => simp; omega
          intro v' w2 hown2 hgrow _
          have hB2 : Below w.heap.size w w2 := below_app (hB1.alloc hsz1 _) (by simp; omega) (hown1.alloc _) hgrow
          have hown3 := tok_step hown2 HL.out
          have hsz2 := hB2.size
          clear hown2 hgrow hown1
          go_wp2_with fail
          refine (skip_spec s k' ln _ hs (by omega) (by omega)).mono ?_
          rintro e w3 ⟨rfl, rfl⟩
          go_wp2_with fail
          go_roundw
          case rel => exact ⟨_, _, acc ++ [t], rfl, rfl, by omega, by omega, by simp; omega, hown3, hB2, HS.out⟩
          case measure => simp [intOf]; omega
        · have HS : Hid (lexAll s = ([], ln)) := HR.out.symm.trans (lex_bad hlt ht)
          clear ht hown hb1 HR
          go_wp2_with fail
          go_ret2
          rw [HS.out]
          exact ⟨_, rfl, owns_none_at _ _ 4 _ _ (by simp) (by simp; omega), (hB1.alloc hsz1 _).alloc (by simp; omega) _⟩
      · have HS : Hid (lexAll s = (acc, 0)) := HR.out.symm.trans (lex_end hlt)
        clear HR
        go_wp2_with fail
        go_ret2
        rw [HS.out]
        exact ⟨_, rfl, hown, hb⟩
end Go.Proofs.YtjepokoeljpflaaDoor
