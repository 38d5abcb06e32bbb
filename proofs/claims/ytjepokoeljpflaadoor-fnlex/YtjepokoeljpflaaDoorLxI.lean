/- The lexer itself. -/
import Derived.Test.YtjepokoeljpflaaDoorLxI0
namespace Go.Proofs.YtjepokoeljpflaaDoor
open Go.RowKit

theorem owns_mono {w : World} {B B' : Nat} {e : TypeId} {sz n : Nat} {v : Value} {xs : List Value} (h : w.ownsRow B e sz v n xs) (hB : B' ≤ B) : w.ownsRow B' e sz v n xs :=
  ⟨h.1, h.2.imp id fun ⟨g, cap, cur, e1, e2, e3, e4⟩ => ⟨g, cap, cur, e1, Nat.le_trans hB e2, e3, e4⟩⟩
theorem World.size_alloc1 (w : World) (o : Obj) : w.heap.size + 1 = (w.alloc o).heap.size := by simp
theorem bel_drewN {B : Nat} {a w : World} (h : Below B a w) (n : Nat) : Below B a (w.drewN n) := ⟨h.os, h.tape, h.output, h.size, h.block⟩
theorem lex_start {w w1 : World} {s : ByteArray} {lc x : Array Value} (hb : Below w.heap.size w w1) (h : lc = lexCells s 0 1) : Lx ((w1.alloc (.cells x 44)).setRow w1.heap.size lc) w.heap.size w1.heap.size s 0 1 := by
  refine ⟨hb.size, ?_⟩
  rw [← h]
  exact setRow_heap _ w1.heap.size _ lc _ (0, 0) (heap_alloc_new w1 _)
theorem bel_two {B : Nat} {a w : World} (hb : Below B a w) (hB : B ≤ w.heap.size) (o o' : Obj) : Below B a ((w.alloc o).alloc o') ∧ B ≤ ((w.alloc o).alloc o').heap.size := ⟨(hb.alloc hB o).alloc (by simp; omega) o', by simp; omega⟩
theorem below_start {w w1 : World} {lc x : Array Value} {T : TypeId} (hb : Below w.heap.size w w1) : Below w.heap.size w ((w1.alloc (.cells x T)).setRow w1.heap.size lc) :=
  (hb.alloc hb.size _).trans ⟨rfl, rfl, rfl, by simp, fun k hk => setRow_other _ _ _ _ (by have := hb.size; omega)⟩
theorem Lx.grown {w w2 : World} {B c : Nat} {s : ByteArray} {i ln : Nat} {row : Option Nat} (h : Lx w B c s i ln) (hg : w.grownBy w2 row) (hne : some c ≠ row) : Lx w2 B c s i ln := ⟨h.up, by rw [hg.block c h.lt hne]; exact h.row⟩

set_option maxRecDepth 100000 in
set_option maxHeartbeats 8000000 in
theorem lex_impl (s : ByteArray) (w : World) (hs : s.size ≤ 1048576) :
    Calls Tryd.prog 7 #[.string s] w fun e w' => ∃ v, e = .returned (.tuple #[v, .int .i64 ((lexAll s).2 : Nat)]) ∧ w'.ownsRow w.heap.size 32 4 v (lexAll s).1.length (tkCells (lexAll s).1) ∧ Below w.heap.size w w' := by
  obtain ⟨i0, hi0, hz0, hz1, hz2⟩ := info_parts Tryd.infoTok
  by_cases hbig : 4000 < s.size
  · have HE : Hid (lexAll s = ([], 1)) := by show _ = _; simp [lexAll, hbig]
    go_enter Tryd.func7, Tryd.ntmps7
    go_wp2_with fail
    go_ret2
    rw [HE.out]
    exact ⟨_, rfl, World.ownsRow_nil _ _ _ _, by first | exact Below.refl _ _ | exact below_one w _⟩
  · have HE : Hid (lexAll s = lexG s (skipAll s 0 1).1 (skipAll s 0 1).2 []) := lexAll_eq s hbig
    have hsm : s.size ≤ 4000 := by omega
    go_enter Tryd.func7, Tryd.ntmps7
    go_wp2_with fail
    refine (cls_any w zero_table).mono ?_
    rintro e w1 ⟨rfl, hb1⟩
    have htb : (table clsN).size = 256 := table_size _
    have hcs := lexCells_size s 0 1
    have hbf := built_lex s _ rfl
    have HN : Hid (∀ o, (w1.alloc o).heap[w1.heap.size]? = some o) := fun o => heap_alloc_new w1 o
    generalize table clsN = tb at htb hbf ⊢
    generalize hlc : lexCells s 0 1 = lc at hcs hbf
    have HLC : Hid (lc = lexCells s 0 1) := hlc.symm
    clear hlc
    go_wp2_with (first | (refine wpList_store_row rfl 44 _ _ rfl w1.heap.size lc rfl rfl 44 _ (HN.out _) (by rw [hcs]; kernel_rfl) (by rw [hcs]; exact zsize) (by rw [HLC.out]; exact lexCells_one s 0 1) ?_))
    have hL0 : Lx ((w1.alloc (.cells Tryd.zeroCells44 44)).setRow w1.heap.size lc) w.heap.size w1.heap.size s 0 1 := lex_start hb1 HLC.out
    have hB0 : Below w.heap.size w ((w1.alloc (.cells Tryd.zeroCells44 44)).setRow w1.heap.size lc) := below_start hb1
    have hBc := hb1.size
    have HL0 : Hid (Lx ((w1.alloc (.cells Tryd.zeroCells44 44)).setRow w1.heap.size lc) w.heap.size w1.heap.size s 0 1) := hL0
    clear hL0 hbf hcs
    go_loopw [5] (fun v wr => ∃ (i ln : Nat) (acc : List Tk), i ≤ s.size ∧ ln ≤ 1 + i ∧ acc.length ≤ i ∧ wr.ownsRow (w1.heap.size + 1) 32 4 v acc.length (tkCells acc) ∧ Lx wr w.heap.size w1.heap.size s i ln ∧ Below w.heap.size w wr ∧ lexG s (skipAll s i ln).1 (skipAll s i ln).2 acc = lexAll s) (fun _ wr => s.size - (intOf ((wr.cell? ⟨w1.heap.size, 1, none⟩).getD undef)).toNat)
    case atStart => exact ⟨0, 1, [], by omega, by omega, by simp, World.ownsRow_nil _ _ _ _, HL0.out, hB0, HE.out.symm⟩
    case round =>
      obtain ⟨i, ln, acc, hi, hln, hal, hown, hLx, hb, he⟩ := hrel
      have HR : Hid (lexG s (skipAll s i ln).1 (skipAll s i ln).2 acc = lexAll s) := he
      have hsb := skipAll_bounds s i ln hi
      have HM : Hid ((intOf ((wr.cell? ⟨w1.heap.size, 1, none⟩).getD undef)).toNat = i) := by show _ = _; rw [hLx.c1]; simp [intOf]
      clear he HL0 hB0
      have hsz := hb.size
      go_wp2_with fail
      refine (toWord_any w.heap.size w1.heap.size s i ln _ hLx hi hs (by omega)).mono ?_
      rintro e w2 ⟨rfl, hT2⟩
      have hLx2 := hT2.lx
      have hb2 : Below w.heap.size w w2 := below_by hb hT2.by' hsz hBc
      have hown2 := hown.kept hT2.by' (.inr (fun e => by have := (hown.lt _ e).1; omega))
      clear hT2 hown hLx hb
      generalize (skipAll s i ln).1 = j at *
      generalize (skipAll s i ln).2 = m at *
      have hsz2 := hb2.size
      by_cases hlt : j < s.size
      · go_wp2_with fail
        refine (word_lx w.heap.size w1.heap.size s j m _ hLx2 hlt hs).mono ?_
        rintro e w3 ⟨kd, tx, n, l, ok, k, rfl, hT3, hW⟩
        have hLx3 := hT3.lx
        have hb3 : Below w.heap.size w w3 := below_by hb2 hT3.by' hsz2 hBc
        have hown3 := hown2.kept hT3.by' (.inr (fun e => by have := (hown2.lt _ e).1; omega))
        have hsz3 := hb3.size
        have c2 := hLx3.c2
        have hlt3 := hLx3.lt
        clear hT3 hown2 hLx2 hb2
        rcases hW with ⟨rfl, t, ht, rfl, rfl, rfl, rfl⟩ | ⟨rfl, ht⟩
        · have htb := tok_bounds ht
          have HS : Hid (lexG s (skipAll s k m).1 (skipAll s k m).2 (acc ++ [t]) = lexAll s) := (lex_step ht).trans HR.out
          have HL : Hid (t.line = m) := htb.2.2.1
          obtain ⟨q1, q2, _, q4, q5⟩ := htb
          clear ht HR
          go_wp2_with (at_builtin; go_must (refine wpList_append_own _ rfl _ _ 25 rfl (w1.heap.size + 1) 32 i0 (.agg #[.int .i64 0, .string ⟨#[]⟩, .int .i64 0, .int .i64 0]) 4 40 Tryd.underlying25 hi0 hz0 hz1 hz2 rfl (by decide) _ _ _ rfl ((hown3.alloc _).alloc _) ⟨w3.heap.size + 1, 0, none⟩ 1 1 [.int .i64 t.kind, .string t.text, .int .i64 t.n, .int .i64 m] rfl rfl ?c1 ?c2 ?c3 ?c4 ?c5 ?_))
          case c1 => exact tok_cells _ _ _ _ _ _ _ (World.size_alloc1 w3 _)
          case c2 => intro u hu; simp at hu; rcases hu with rfl | rfl | rfl | rfl <;> rfl
          case c3 => unfold maxLen; omega
          case c4 => omega
          case c5 => simp; omega
          intro v' w4 hown4 hgrow _
          have hb4 : Below w.heap.size w w4 := (bel_two hb3 hsz3 _ _).1.grown hgrow (bel_two hb3 hsz3 _ _).2 (fun k hk => by have := (hown3.lt k hk).1; omega)
          have hLx4 : Lx w4 w.heap.size w1.heap.size s k m := (hLx3.later (bel_two (Below.refl w3.heap.size w3) (Nat.le_refl _) _ _).1).grown hgrow (fun e => by have := (hown3.lt _ e.symm).1; omega)
          have hown5 := tok_step hown4 HL.out
          have hsz4 := hb4.size
          clear hown4 hgrow hown3 hLx3
          go_wp2_with fail
          go_roundw
          case rel => exact ⟨k, m, acc ++ [t], by omega, by omega, by simp; omega, hown5, hLx4, hb4, HS.out⟩
          case measure => rw [hLx4.c1, HM.out]; simp [intOf]; omega
        · have HS : Hid (lexAll s = ([], m)) := HR.out.symm.trans (lex_bad hlt ht)
          clear ht HR
          go_wp2_with fail
          go_quiet (fail)
          go_wp2_with fail
          go_ret2
          rw [HS.out]
          exact ⟨_, rfl, World.ownsRow_nil _ _ _ _, by first | exact (hb3.alloc hsz3 _).drew | exact hb3.alloc hsz3 _ | exact bel_drewN (hb3.alloc hsz3 _) _⟩
      · have HS : Hid (lexAll s = (acc, 0)) := HR.out.symm.trans (lex_end hlt)
        clear HR
        go_wp2_with fail
        go_ret2
        rw [HS.out]
        exact ⟨_, rfl, owns_mono hown2 (by omega), hb2⟩
end Go.Proofs.YtjepokoeljpflaaDoor
