/- The law on words, walked: it returns true. -/
import Derived.Test.YtjepokoeljpflaaDoorSameW
import Derived.Test.YtjepokoeljpflaaDoorDrawL
import Derived.Test.YtjepokoeljpflaaDoorLexV
import Derived.Test.YtjepokoeljpflaaDoorCodeA
namespace Go.Proofs.YtjepokoeljpflaaDoor
open Go.RowKit

theorem code_later {w w' : World} {a : Option Addr} {len cap : Nat} (h : IsCode w w.heap.size a len cap) (hb : Below w.heap.size w w') : IsCode w' w'.heap.size a len cap :=
  ⟨h.small, fun j hj => by
    obtain ⟨b, off, x, e, hlt, hx, h0, h1⟩ := h.cells j hj
    exact ⟨b, off, x, e, Nat.lt_of_lt_of_le hlt hb.size, by rw [hb.cell (by exact hlt)]; exact hx, h0, h1⟩⟩

set_option maxRecDepth 100000 in
set_option maxHeartbeats 4000000 in
theorem fn_lex (a0 : Option Addr) (len cap : Nat) (w : World) (hc : IsCode w w.heap.size a0 len cap) :
    Calls Tryd.prog 3 #[.slice a0 len cap] w fun e w' => e = .returned (.bool true) ∧ Below w.heap.size w w' := by
  have hsm := hc.small
  by_cases hbig : 1048576 < len
  · go_enter Tryd.func3, Tryd.ntmps3
    go_wp2_with (go_at_call 5; go_in)
    go_ret
    exact ⟨rfl, Below.refl _ _⟩
  · have hbig' : len ≤ 1048576 := by omega
    go_enter Tryd.func3, Tryd.ntmps3
    go_wp2_with (go_at_call 5; go_in)
    refine (drawLex_any a0 len cap w hc).mono ?_
    rintro e w1 ⟨s, rfl, hs, hb1⟩
    have hc1 := code_later hc hb1
    have hlen := lexAll_len s
    have SP : Hid (∀ w, Calls Tryd.prog 8 #[.string s] w fun e w' => ∃ v, e = .returned (.tuple #[v, .int .i64 ((lexAll s).2 : Nat)]) ∧ w'.ownsRow w.heap.size 32 4 v (lexAll s).1.length (tkCells (lexAll s).1) ∧ Below w.heap.size w w') := fun w => lex_spec s w (by omega)
    have IM : Hid (∀ w, Calls Tryd.prog 7 #[.string s] w fun e w' => ∃ v, e = .returned (.tuple #[v, .int .i64 ((lexAll s).2 : Nat)]) ∧ w'.ownsRow w.heap.size 32 4 v (lexAll s).1.length (tkCells (lexAll s).1) ∧ Below w.heap.size w w') := fun w => lex_impl s w (by omega)
    have HP : Hid (∀ u, Padded s u → s.size + 4 ≤ 4000 → (lexAll s).2 = 0 → lexAll u = lexAll s) := fun u h h4 h0 => lex_pad h h4 h0
    have HE : Hid ((lexAll s).2 ≠ 0 → (lexAll s).1 = []) := lexAll_err s
    have HM : Hid ((lexAll s).1.Pairwise fun a b => a.line ≤ b.line) := lexAll_mono s
    generalize lexAll s = LL at *
    obtain ⟨L, ln⟩ := LL
    simp only at hlen SP IM HP HE HM
    have hn2 : L.length ≤ 1048576 := by omega
    go_wp2_with fail
    refine (IM.out _).mono ?_
    rintro e w2 ⟨v1, rfl, hown1, hb2⟩
    obtain ⟨b1, c1, rfl, _⟩ := own_shape hown1
    have R1 := own_row hown1
    have hc2 := code_later hc1 hb2
    go_wp2_with fail
    refine (SP.out _).mono ?_
    rintro e w3 ⟨v2, rfl, hown2, hb3⟩
    obtain ⟨b2, c2, rfl, _⟩ := own_shape hown2
    have R2 := own_row hown2
    have hc3 := code_later hc2 hb3
    have R1a := (R1.keep (below_cells hb3)).wide hb3.size
    clear R1 hown1 hown2
    go_wp2_with fail
    refine (drawQt_any a0 len cap _ hc3).mono ?_
    rintro e w4 ⟨q, rfl, hq, hb4⟩
    have hc4 := code_later hc3 hb4
    go_wp2_with fail
    refine (drawKw_any a0 len cap _ hc4).mono ?_
    rintro e w5 ⟨kw, rfl, hkw, hb5⟩
    have QI : Hid (∀ w, Calls Tryd.prog 11 #[.string q] w fun e w' => e = .returned (.string ⟨(qb q.data.toList ++ [34]).toArray⟩) ∧ Below w.heap.size w w') := fun w => quote_impl q w (by omega)
    have QS : Hid (∀ w, Calls Tryd.prog 13 #[.string q] w fun e w' => e = .returned (.string ⟨(qb q.data.toList ++ [34]).toArray⟩) ∧ Below w.heap.size w w') := fun w => quote_spec q w (by omega)
    obtain ⟨t, HT⟩ : ∃ t, Hid (t = (⟨(qb q.data.toList ++ [34]).toArray⟩ : ByteArray)) := ⟨⟨(qb q.data.toList ++ [34]).toArray⟩, show _ = _ from rfl⟩
    rw [← HT.out] at QI QS
    have ht : t.size ≤ 34 := by
      have h1 := qb_len q.data.toList
      have h2 : q.data.toList.length = q.size := by simp
      have h3 : t.data.toList.length = t.size := by simp
      rw [← h3, HT.out]; simp; omega
    have hlq : lexAll t = ([⟨2, q, 0, 1⟩], 0) := by
      have := lex_quote t q.data.toList (by rw [HT.out]) (by omega)
      rw [this]
    have IQ : Hid (∀ w, Calls Tryd.prog 7 #[.string t] w fun e w' => ∃ v, e = .returned (.tuple #[v, .int .i64 0]) ∧ w'.ownsRow w.heap.size 32 4 v 1 (tkCells [⟨2, q, 0, 1⟩]) ∧ Below w.heap.size w w') := fun w => by
      have := lex_impl t w (by omega)
      rw [hlq] at this
      exact this
    clear hlq HT
    go_wp2_with fail
    refine (QI.out _).mono ?_
    rintro e w6 ⟨rfl, hb6⟩
    go_wp2_with fail
    refine (IQ.out _).mono ?_
    rintro e w7 ⟨v3, rfl, hown3, hb7⟩
    obtain ⟨b3, c3, rfl, _⟩ := own_shape (L := [⟨2, q, 0, 1⟩]) hown3
    have R3 := own_row (L := [⟨2, q, 0, 1⟩]) hown3
    have h37 : Below w3.heap.size w3 w7 := hb4.trans (((hb5.trans ((hb6.trans (hb7.mono hb6.size)).mono hb5.size))).mono hb4.size)
    have R17 := (R1a.keep (below_cells h37)).wide h37.size
    have R27 := (R2.keep (below_cells h37)).wide h37.size
    clear R1a R2 hown3 hc1 hc2 hc3 hc4
    go_wp2_with fail
    refine (same_toks L b1 b2 c1 c2 _ hn2 R17 R27).mono ?_
    rintro e w8 ⟨rfl, hb8⟩
    go_wp2_with fail
    refine (QS.out _).mono ?_
    rintro e w9 ⟨rfl, hb9⟩
    go_wp2_with fail
    refine (kw_impl kw _).mono ?_
    rintro e w9' ⟨rfl, rfl⟩
    go_wp2_with fail
    refine (kw_spec kw _).mono ?_
    rintro e w10 ⟨rfl, hb10⟩
    have h710 : Below w7.heap.size w7 w10 := hb8.trans ((hb9.trans (hb10.mono hb9.size)).mono hb8.size)
    have R1x := (R17.keep (below_cells h710)).wide h710.size
    obtain ⟨g3, rfl, hg3, f3⟩ := (R3.keep (below_cells h710)).wide h710.size 0 (Nat.zero_lt_succ _)
    have x0 := f3 0 (by decide)
    have x1 := f3 1 (by decide)
    have x2 := f3 2 (by decide)
    have x3 := f3 3 (by decide)
    simp only [Tk.cells, List.getElem_cons_zero, List.getElem?_cons_zero, List.getElem?_cons_succ, Nat.mul_zero, Nat.zero_add] at x0 x1 x2 x3
    clear f3 R3 R17 R27 QI QS IQ SP
    have hbA : Below w.heap.size w w10 := hb1.trans ((hb2.trans ((hb3.trans ((h37.trans (h710.mono h37.size)).mono hb3.size)).mono hb2.size)).mono hb1.size)
    clear hb2 hb3 hb4 hb5 hb6 hb7 hb8 hb9 hb10 h37 h710
    by_cases hln : ln = 0
    · subst hln
      go_wp2_with fail
      go_loopw [13] (fun a wr => ∃ i : Nat, a = .int .i64 i ∧ 1 ≤ i ∧ i ≤ L.length + 1 ∧ Below w10.heap.size w10 wr) (fun a _ => L.length + 1 - (intOf a).toNat)
      case atStart => exact ⟨1, rfl, Nat.le_refl _, by omega, Below.refl _ _⟩
      case round =>
        obtain ⟨i, rfl, hi1, hi2, hbw⟩ := hrel
        by_cases hlt : i < L.length
        · obtain ⟨m, rfl⟩ : ∃ m, i = m + 1 := ⟨i - 1, by omega⟩
          obtain ⟨g, rfl, hg, fa⟩ := R1x (m + 1) hlt
          obtain ⟨g', hg', hgl', fb⟩ := R1x m (by omega)
          obtain rfl : g = g' := by simpa using hg'
          have hle : L[m].line ≤ L[m + 1].line := (List.pairwise_iff_getElem.1 HM.out) m (m + 1) (by omega) hlt (by omega)
          have y3 := (hbw.cell (p := ⟨g, 4 * (m + 1) + 3, none⟩) hg).trans (fa 3 (by decide))
          have z3 := (hbw.cell (p := ⟨g, 4 * m + 3, none⟩) hg).trans (fb 3 (by decide))
          simp only [Tk.cells, List.getElem?_cons_zero, List.getElem?_cons_succ] at y3 z3
          generalize L[m].line = p0 at *
          generalize L[m + 1].line = p1 at *
          rw [Nat.mul_comm 4 (m + 1)] at y3
          rw [Nat.mul_comm 4 m] at z3
          clear fa fb R1x x0 x1 x2 x3
          go_wp2_with fail
          go_region
          go_wp2_with fail
          go_roundw
          case rel => exact ⟨m + 2, by go_num, by omega, by omega, hbw.drew⟩
          case measure => simp [intOf]; omega
        · clear x0 x1 x2 x3
          by_cases h4 : 4000 < (s.size : Int) + 4
          · go_wp2_with fail
            go_ret
            exact ⟨rfl, hbA.trans (hbw.mono hbA.size)⟩
          · have IU : Hid (∀ w, Calls Tryd.prog 7 #[.string (⟨#[32, 9]⟩ ++ s ++ ⟨#[10, 32]⟩)] w fun e w' => ∃ v, e = .returned (.tuple #[v, .int .i64 0]) ∧ w'.ownsRow w.heap.size 32 4 v L.length (tkCells L) ∧ Below w.heap.size w w') := fun w => by
              have hu : lexAll (⟨#[32, 9]⟩ ++ s ++ ⟨#[10, 32]⟩) = (L, 0) := HP.out _ ⟨by simp [ByteArray.data_append]⟩ (by omega) (by simp)
              have hsz : (⟨#[32, 9]⟩ ++ s ++ ⟨#[10, 32]⟩ : ByteArray).size = 2 + s.size + 2 := by rw [ByteArray.size_append, ByteArray.size_append]; rfl
              have := lex_impl (⟨#[32, 9]⟩ ++ s ++ ⟨#[10, 32]⟩) w (by omega)
              rw [hu] at this
              exact this
            go_wp2_with fail
            refine (IU.out _).mono ?_
            rintro e wl ⟨vl, rfl, hownl, hbl⟩
            obtain ⟨bl, cl, rfl, _⟩ := own_shape hownl
            have Rl := own_row hownl
            have R1l := (R1x.keep (below_cells (hbw.trans (hbl.mono hbw.size)))).wide (hbw.trans (hbl.mono hbw.size)).size
            have hbwl := hbw.trans (hbl.mono hbw.size)
            clear hownl
            go_wp2_with fail
            refine (same_toks L bl b1 cl c1 _ hn2 Rl R1l).mono ?_
            rintro e wm ⟨rfl, hbm⟩
            go_wp2_with fail
            go_ret
            exact ⟨rfl, hbA.trans ((hbwl.trans (hbm.mono hbwl.size)).mono hbA.size)⟩
    · have h1 : 1 ≤ (ln : Int) := by omega
      have hln' : (ln : Int) ≠ 0 := by omega
      obtain rfl := HE.out hln
      go_wp2_with fail
      go_ret
      exact ⟨rfl, hbA⟩
end Go.Proofs.YtjepokoeljpflaaDoor
