/- The walk of FnNew: it returns true. -/
import Derived.Test.YtjeoeijbgkfpjaaHpJ
import Derived.Test.YtjeoeijbgkfpjaaBigW
import Derived.Test.YtjeoeijbgkfpjaaSameH
import Derived.Test.YtjeoeijbgkfpjaaHeapN
import Derived.Test.YtjeoeijbgkfpjaaNewE
import Derived.Test.YtjeoeijbgkfpjaaNewG
import Derived.Test.YtjeoeijbgkfpjaaNewU
import Derived.Test.YtjeoeijbgkfpjaaNewW
import Derived.BigQuiet
namespace Go.Proofs.Ytjeoeijbgkfpjaa
open Go.RowKit

theorem rows1 (w : World) (A : Obj) : (w.alloc A).heap[w.heap.size]? = some A ∧ (w.alloc A).heap.size = w.heap.size + 1 ∧ Below w.heap.size w (w.alloc A) := ⟨heap_alloc_new _ _, by simp, bel_alloc _ _⟩
theorem row_lt {w : World} {b : Nat} {o : Obj} (hh : w.heap[b]? = some o) : b < w.heap.size := (Array.getElem?_eq_some_iff.1 hh).1
theorem bel_drewN (w : World) (n : Nat) : Below w.heap.size w (w.drewN n) := ⟨rfl, rfl, rfl, Nat.le_refl _, fun _ _ => rfl⟩
theorem row_empty0 : RowIs [] 0 := ⟨Nat.le_refl _, fun m h1 h2 => by omega, rfl⟩
set_option maxRecDepth 100000 in
set_option maxHeartbeats 6400000 in
theorem walk_new (a : Option Addr) (len cap : Nat) (w : World) (hcode : IsCode w w.heap.size a len cap) :
    Calls Try.prog 6 #[.slice a len cap] w fun e w' => e = .returned (.bool true) ∧ Below w.heap.size w w' := by
  have hsm := hcode.small
  by_cases hbig : 1048576 < len
  · go_enter Try.func6, Try.ntmps6
    go_wp2_with (go_at_call 19; refine (big_yes a len cap w hbig hsm).mono ?_; rintro e w' ⟨rfl, rfl⟩)
    go_ret
    exact ⟨rfl, Below.refl _ _⟩
  · go_enter Try.func6, Try.ntmps6
    go_wp2_with (go_at_call 19; refine (big_no a len cap w (by omega)).mono ?_; rintro e w' ⟨rfl, rfl⟩)
    refine (drawNewTable_any a len cap w.heap.size w hcode (Nat.le_refl _)).mono ?_
    rintro e u1 ⟨⟨hh, pa, pc, ua, uc, rfl, hD, T1⟩, BW⟩
    have hgok : hh.table.Ok := table_ok' hD.good.ok
    have hgwt : hh.table.wt ≤ 1048576 := by have := good_wt hD.good; have := hD.ts; have := hD.vs; have := table_wt hh; omega
    have hgk : Hid (hh.table.Ok ∧ hh.table.wt ≤ 1048576) := ⟨hgok, hgwt⟩
    have hb : Below u1.heap.size u1 u1 := Below.refl _ _
    clear hgok hgwt
    try dsimp only [Sl.v]
    obtain ⟨W1, hhW1⟩ : ∃ W1, W1 = u1.alloc (Obj.cells #[.slice pa hh.ts.length pc, .slice ua hh.vs.length uc] 30) := ⟨_, rfl⟩
    obtain ⟨rA, hs0, BA⟩ := rows1 u1 (Obj.cells #[.slice pa hh.ts.length pc, .slice ua hh.vs.length uc] 30)
    rw [← hhW1] at rA hs0 BA
    go_wp2_with fail
    rw [← hhW1]
    clear hhW1
    replace T1 : TV W1 w.heap.size hh pa ua := tv_b T1 BA
    replace BW : Below w.heap.size w W1 := BW.trans (BA.mono BW.size)
    have v3 : Hid (W1.heap[u1.heap.size]? = some (.cells #[.slice pa hh.ts.length pc, .slice ua hh.vs.length uc] 30 (0, 0))) := rA
    clear hb BA hs0 rA
    refine (newTable_impl hh pa ua pc uc _ _ _ (Nat.le_refl _) hD.wt hD.good.sm T1.1 T1.2).mono ?_
    rintro e u2 ⟨⟨⟨qa, qn, qc⟩, ⟨va, vn, vc⟩, ss, rfl, hO⟩, hb⟩
    have hqn := hO.1
    have hvn := hO.2.1
    dsimp only at hqn hvn
    subst hqn
    subst hvn
    have T2 : TV u2 W1.heap.size hh.table qa va := tv_lay hO.2.2.lay hgk.out.1 (Nat.le_refl _) hgk.out.2
    clear hO ss
    replace v3 : Hid (u2.heap[u1.heap.size]? = some (.cells #[.slice pa hh.ts.length pc, .slice ua hh.vs.length uc] 30 (0, 0))) := (hb.block _ (row_lt v3.out)).trans v3.out
    replace T1 : TV u2 w.heap.size hh pa ua := tv_b T1 hb
    replace BW : Below w.heap.size w u2 := BW.trans (hb.mono BW.size)
    try dsimp only [Sl.v]
    obtain ⟨W2, hhW2⟩ : ∃ W2, W2 = (u2.alloc (Obj.cells #[.slice qa hh.table.ts.length qc, .slice va hh.table.vs.length vc] 30)).alloc (Obj.cells #[.int .i64 (tabK hh.ts.length), .int .i64 (tabI hh.ts.length), .string ⟨#[]⟩] 32) := ⟨_, rfl⟩
    obtain ⟨rA, rB, hs0, BA⟩ := rows2 u2 (Obj.cells #[.slice qa hh.table.ts.length qc, .slice va hh.table.vs.length vc] 30) (Obj.cells #[.int .i64 (tabK hh.ts.length), .int .i64 (tabI hh.ts.length), .string ⟨#[]⟩] 32)
    rw [← hhW2] at rA rB hs0 BA
    have v30 := cell_of_row _ _ 0 _ _ _ v3.out
    have v31 := cell_of_row _ _ 1 _ _ _ v3.out
    simp only [List.getElem?_toArray, List.getElem?_cons_zero, List.getElem?_cons_succ] at v30 v31
    have lv3 := row_lt v3.out
    go_wp2_with fail
    rw [← hhW2]
    clear hhW2
    clear v30 v31
    clear lv3
    replace v3 : Hid (W2.heap[u1.heap.size]? = some (.cells #[.slice pa hh.ts.length pc, .slice ua hh.vs.length uc] 30 (0, 0))) := (BA.block _ (row_lt v3.out)).trans v3.out
    replace T1 : TV W2 w.heap.size hh pa ua := tv_b T1 BA
    replace T2 : TV W2 W1.heap.size hh.table qa va := tv_b T2 BA
    replace BW : Below w.heap.size w W2 := BW.trans (BA.mono BW.size)
    have v4 : Hid (W2.heap[u2.heap.size]? = some (.cells #[.slice qa hh.table.ts.length qc, .slice va hh.table.vs.length vc] 30 (0, 0))) := rA
    have v5 : Hid (W2.heap[u2.heap.size + 1]? = some (.cells #[.int .i64 (tabK hh.ts.length), .int .i64 (tabI hh.ts.length), .string ⟨#[]⟩] 32 (0, 0))) := rB
    clear hb BA hs0 rA rB
    refine (newTable_spec hh pa ua pc uc _ _ _ (Nat.le_refl _) hD.wt T1.1 T1.2).mono ?_
    rintro e u3 ⟨⟨⟨ra, qn, rc⟩, ⟨ta, vn, tc⟩, ss, rfl, hO⟩, hb⟩
    have hqn := hO.1
    have hvn := hO.2.1
    dsimp only at hqn hvn
    subst hqn
    subst hvn
    have T3 : TV u3 W2.heap.size hh.table ra ta := tv_lay hO.2.2.lay hgk.out.1 (Nat.le_refl _) hgk.out.2
    clear hO ss
    replace v3 : Hid (u3.heap[u1.heap.size]? = some (.cells #[.slice pa hh.ts.length pc, .slice ua hh.vs.length uc] 30 (0, 0))) := (hb.block _ (row_lt v3.out)).trans v3.out
    replace v4 : Hid (u3.heap[u2.heap.size]? = some (.cells #[.slice qa hh.table.ts.length qc, .slice va hh.table.vs.length vc] 30 (0, 0))) := (hb.block _ (row_lt v4.out)).trans v4.out
    replace v5 : Hid (u3.heap[u2.heap.size + 1]? = some (.cells #[.int .i64 (tabK hh.ts.length), .int .i64 (tabI hh.ts.length), .string ⟨#[]⟩] 32 (0, 0))) := (hb.block _ (row_lt v5.out)).trans v5.out
    replace T1 : TV u3 w.heap.size hh pa ua := tv_b T1 hb
    replace T2 : TV u3 W1.heap.size hh.table qa va := tv_b T2 hb
    replace BW : Below w.heap.size w u3 := BW.trans (hb.mono BW.size)
    try dsimp only [Sl.v]
    obtain ⟨W3, hhW3⟩ : ∃ W3, W3 = (u3.alloc (Obj.cells #[.slice ra hh.table.ts.length rc, .slice ta hh.table.vs.length tc] 30)).alloc (Obj.cells #[.int .i64 (tabK hh.ts.length), .int .i64 (tabI hh.ts.length), .string ⟨#[]⟩] 32) := ⟨_, rfl⟩
    obtain ⟨rA, rB, hs0, BA⟩ := rows2 u3 (Obj.cells #[.slice ra hh.table.ts.length rc, .slice ta hh.table.vs.length tc] 30) (Obj.cells #[.int .i64 (tabK hh.ts.length), .int .i64 (tabI hh.ts.length), .string ⟨#[]⟩] 32)
    rw [← hhW3] at rA rB hs0 BA
    go_wp2_with fail
    rw [← hhW3]
    clear hhW3
    replace v3 : Hid (W3.heap[u1.heap.size]? = some (.cells #[.slice pa hh.ts.length pc, .slice ua hh.vs.length uc] 30 (0, 0))) := (BA.block _ (row_lt v3.out)).trans v3.out
    replace v4 : Hid (W3.heap[u2.heap.size]? = some (.cells #[.slice qa hh.table.ts.length qc, .slice va hh.table.vs.length vc] 30 (0, 0))) := (BA.block _ (row_lt v4.out)).trans v4.out
    replace v5 : Hid (W3.heap[u2.heap.size + 1]? = some (.cells #[.int .i64 (tabK hh.ts.length), .int .i64 (tabI hh.ts.length), .string ⟨#[]⟩] 32 (0, 0))) := (BA.block _ (row_lt v5.out)).trans v5.out
    replace T1 : TV W3 w.heap.size hh pa ua := tv_b T1 BA
    replace T2 : TV W3 W1.heap.size hh.table qa va := tv_b T2 BA
    replace T3 : TV W3 W2.heap.size hh.table ra ta := tv_b T3 BA
    replace BW : Below w.heap.size w W3 := BW.trans (BA.mono BW.size)
    have v6 : Hid (W3.heap[u3.heap.size]? = some (.cells #[.slice ra hh.table.ts.length rc, .slice ta hh.table.vs.length tc] 30 (0, 0))) := rA
    have v7 : Hid (W3.heap[u3.heap.size + 1]? = some (.cells #[.int .i64 (tabK hh.ts.length), .int .i64 (tabI hh.ts.length), .string ⟨#[]⟩] 32 (0, 0))) := rB
    clear hb BA hs0 rA rB
    refine (drawNewCell_any a len cap w.heap.size W3 (code_later hcode BW) BW.size).mono ?_
    rintro e u4 ⟨⟨c, ca, cc, da, dc, k, n, s, rfl, hC, T4, hV⟩, hb⟩
    have hdok : (c.cell ⟨k, n, s⟩).Ok := cell_ok hC.good.ok (draw_ok hV).1
    have hdwt : (c.cell ⟨k, n, s⟩).wt ≤ 1048576 := by have := good_wt hC.good; have := hC.ts; have := hC.vs; have := cell_wt c ⟨k, n, s⟩; omega
    have hdk : Hid ((c.cell ⟨k, n, s⟩).Ok ∧ (c.cell ⟨k, n, s⟩).wt ≤ 1048576 ∧ s.size ≤ 1048576) := ⟨hdok, hdwt, (draw_ok hV).2⟩
    clear hdok hdwt hV
    replace v3 : Hid (u4.heap[u1.heap.size]? = some (.cells #[.slice pa hh.ts.length pc, .slice ua hh.vs.length uc] 30 (0, 0))) := (hb.block _ (row_lt v3.out)).trans v3.out
    replace v4 : Hid (u4.heap[u2.heap.size]? = some (.cells #[.slice qa hh.table.ts.length qc, .slice va hh.table.vs.length vc] 30 (0, 0))) := (hb.block _ (row_lt v4.out)).trans v4.out
    replace v5 : Hid (u4.heap[u2.heap.size + 1]? = some (.cells #[.int .i64 (tabK hh.ts.length), .int .i64 (tabI hh.ts.length), .string ⟨#[]⟩] 32 (0, 0))) := (hb.block _ (row_lt v5.out)).trans v5.out
    replace v6 : Hid (u4.heap[u3.heap.size]? = some (.cells #[.slice ra hh.table.ts.length rc, .slice ta hh.table.vs.length tc] 30 (0, 0))) := (hb.block _ (row_lt v6.out)).trans v6.out
    replace v7 : Hid (u4.heap[u3.heap.size + 1]? = some (.cells #[.int .i64 (tabK hh.ts.length), .int .i64 (tabI hh.ts.length), .string ⟨#[]⟩] 32 (0, 0))) := (hb.block _ (row_lt v7.out)).trans v7.out
    replace T1 : TV u4 w.heap.size hh pa ua := tv_b T1 hb
    replace T2 : TV u4 W1.heap.size hh.table qa va := tv_b T2 hb
    replace T3 : TV u4 W2.heap.size hh.table ra ta := tv_b T3 hb
    replace BW : Below w.heap.size w u4 := BW.trans (hb.mono BW.size)
    try dsimp only [Sl.v]
    obtain ⟨W4, hhW4⟩ : ∃ W4, W4 = (u4.alloc (Obj.cells #[.slice ca c.ts.length cc, .slice da c.vs.length dc] 30)).alloc (Obj.cells #[.int .i64 k, .int .i64 n, .string s] 32) := ⟨_, rfl⟩
    obtain ⟨rA, rB, hs0, BA⟩ := rows2 u4 (Obj.cells #[.slice ca c.ts.length cc, .slice da c.vs.length dc] 30) (Obj.cells #[.int .i64 k, .int .i64 n, .string s] 32)
    rw [← hhW4] at rA rB hs0 BA
    go_wp2_with fail
    rw [← hhW4]
    clear hhW4
    replace v3 : Hid (W4.heap[u1.heap.size]? = some (.cells #[.slice pa hh.ts.length pc, .slice ua hh.vs.length uc] 30 (0, 0))) := (BA.block _ (row_lt v3.out)).trans v3.out
    replace v4 : Hid (W4.heap[u2.heap.size]? = some (.cells #[.slice qa hh.table.ts.length qc, .slice va hh.table.vs.length vc] 30 (0, 0))) := (BA.block _ (row_lt v4.out)).trans v4.out
    replace v5 : Hid (W4.heap[u2.heap.size + 1]? = some (.cells #[.int .i64 (tabK hh.ts.length), .int .i64 (tabI hh.ts.length), .string ⟨#[]⟩] 32 (0, 0))) := (BA.block _ (row_lt v5.out)).trans v5.out
    replace v6 : Hid (W4.heap[u3.heap.size]? = some (.cells #[.slice ra hh.table.ts.length rc, .slice ta hh.table.vs.length tc] 30 (0, 0))) := (BA.block _ (row_lt v6.out)).trans v6.out
    replace v7 : Hid (W4.heap[u3.heap.size + 1]? = some (.cells #[.int .i64 (tabK hh.ts.length), .int .i64 (tabI hh.ts.length), .string ⟨#[]⟩] 32 (0, 0))) := (BA.block _ (row_lt v7.out)).trans v7.out
    replace T1 : TV W4 w.heap.size hh pa ua := tv_b T1 BA
    replace T2 : TV W4 W1.heap.size hh.table qa va := tv_b T2 BA
    replace T3 : TV W4 W2.heap.size hh.table ra ta := tv_b T3 BA
    replace T4 : TV W4 W3.heap.size c ca da := tv_b T4 BA
    replace BW : Below w.heap.size w W4 := BW.trans (BA.mono BW.size)
    have v8 : Hid (W4.heap[u4.heap.size]? = some (.cells #[.slice ca c.ts.length cc, .slice da c.vs.length dc] 30 (0, 0))) := rA
    have v9 : Hid (W4.heap[u4.heap.size + 1]? = some (.cells #[.int .i64 k, .int .i64 n, .string s] 32 (0, 0))) := rB
    clear hb BA hs0 rA rB
    refine (newCell_impl c ca da cc dc _ _ k n s _ (Nat.le_refl _) hC.wt hC.good.sm hdk.out.2.2 T4.1 T4.2).mono ?_
    rintro e u5 ⟨⟨⟨ea, qn, ec⟩, ⟨fa, vn, fc⟩, ss, rfl, hO⟩, hb⟩
    have hqn := hO.1
    have hvn := hO.2.1
    dsimp only at hqn hvn
    subst hqn
    subst hvn
    have T5 : TV u5 W4.heap.size (c.cell ⟨k, n, s⟩) ea fa := tv_lay hO.2.2.lay hdk.out.1 (Nat.le_refl _) hdk.out.2.1
    clear hO ss
    replace v3 : Hid (u5.heap[u1.heap.size]? = some (.cells #[.slice pa hh.ts.length pc, .slice ua hh.vs.length uc] 30 (0, 0))) := (hb.block _ (row_lt v3.out)).trans v3.out
    replace v4 : Hid (u5.heap[u2.heap.size]? = some (.cells #[.slice qa hh.table.ts.length qc, .slice va hh.table.vs.length vc] 30 (0, 0))) := (hb.block _ (row_lt v4.out)).trans v4.out
    replace v5 : Hid (u5.heap[u2.heap.size + 1]? = some (.cells #[.int .i64 (tabK hh.ts.length), .int .i64 (tabI hh.ts.length), .string ⟨#[]⟩] 32 (0, 0))) := (hb.block _ (row_lt v5.out)).trans v5.out
    replace v6 : Hid (u5.heap[u3.heap.size]? = some (.cells #[.slice ra hh.table.ts.length rc, .slice ta hh.table.vs.length tc] 30 (0, 0))) := (hb.block _ (row_lt v6.out)).trans v6.out
    replace v7 : Hid (u5.heap[u3.heap.size + 1]? = some (.cells #[.int .i64 (tabK hh.ts.length), .int .i64 (tabI hh.ts.length), .string ⟨#[]⟩] 32 (0, 0))) := (hb.block _ (row_lt v7.out)).trans v7.out
    replace v8 : Hid (u5.heap[u4.heap.size]? = some (.cells #[.slice ca c.ts.length cc, .slice da c.vs.length dc] 30 (0, 0))) := (hb.block _ (row_lt v8.out)).trans v8.out
    replace v9 : Hid (u5.heap[u4.heap.size + 1]? = some (.cells #[.int .i64 k, .int .i64 n, .string s] 32 (0, 0))) := (hb.block _ (row_lt v9.out)).trans v9.out
    replace T1 : TV u5 w.heap.size hh pa ua := tv_b T1 hb
    replace T2 : TV u5 W1.heap.size hh.table qa va := tv_b T2 hb
    replace T3 : TV u5 W2.heap.size hh.table ra ta := tv_b T3 hb
    replace T4 : TV u5 W3.heap.size c ca da := tv_b T4 hb
    replace BW : Below w.heap.size w u5 := BW.trans (hb.mono BW.size)
    try dsimp only [Sl.v]
    obtain ⟨W5, hhW5⟩ : ∃ W5, W5 = u5.alloc (Obj.cells #[.slice ea (c.cell ⟨k, n, s⟩).ts.length ec, .slice fa (c.cell ⟨k, n, s⟩).vs.length fc] 30) := ⟨_, rfl⟩
    obtain ⟨rA, hs0, BA⟩ := rows1 u5 (Obj.cells #[.slice ea (c.cell ⟨k, n, s⟩).ts.length ec, .slice fa (c.cell ⟨k, n, s⟩).vs.length fc] 30)
    rw [← hhW5] at rA hs0 BA
    have v80 := cell_of_row _ _ 0 _ _ _ v8.out
    have v81 := cell_of_row _ _ 1 _ _ _ v8.out
    simp only [List.getElem?_toArray, List.getElem?_cons_zero, List.getElem?_cons_succ] at v80 v81
    have v90 := cell_of_row _ _ 0 _ _ _ v9.out
    have v91 := cell_of_row _ _ 1 _ _ _ v9.out
    have v92 := cell_of_row _ _ 2 _ _ _ v9.out
    simp only [List.getElem?_toArray, List.getElem?_cons_zero, List.getElem?_cons_succ] at v90 v91 v92
    have lv8 := row_lt v8.out
    have lv9 := row_lt v9.out
    go_wp2_with fail
    rw [← hhW5]
    clear hhW5
    clear v80 v81 v90 v91 v92
    clear lv8 lv9
    replace v3 : Hid (W5.heap[u1.heap.size]? = some (.cells #[.slice pa hh.ts.length pc, .slice ua hh.vs.length uc] 30 (0, 0))) := (BA.block _ (row_lt v3.out)).trans v3.out
    replace v4 : Hid (W5.heap[u2.heap.size]? = some (.cells #[.slice qa hh.table.ts.length qc, .slice va hh.table.vs.length vc] 30 (0, 0))) := (BA.block _ (row_lt v4.out)).trans v4.out
    replace v5 : Hid (W5.heap[u2.heap.size + 1]? = some (.cells #[.int .i64 (tabK hh.ts.length), .int .i64 (tabI hh.ts.length), .string ⟨#[]⟩] 32 (0, 0))) := (BA.block _ (row_lt v5.out)).trans v5.out
    replace v6 : Hid (W5.heap[u3.heap.size]? = some (.cells #[.slice ra hh.table.ts.length rc, .slice ta hh.table.vs.length tc] 30 (0, 0))) := (BA.block _ (row_lt v6.out)).trans v6.out
    replace v7 : Hid (W5.heap[u3.heap.size + 1]? = some (.cells #[.int .i64 (tabK hh.ts.length), .int .i64 (tabI hh.ts.length), .string ⟨#[]⟩] 32 (0, 0))) := (BA.block _ (row_lt v7.out)).trans v7.out
    replace v8 : Hid (W5.heap[u4.heap.size]? = some (.cells #[.slice ca c.ts.length cc, .slice da c.vs.length dc] 30 (0, 0))) := (BA.block _ (row_lt v8.out)).trans v8.out
    replace v9 : Hid (W5.heap[u4.heap.size + 1]? = some (.cells #[.int .i64 k, .int .i64 n, .string s] 32 (0, 0))) := (BA.block _ (row_lt v9.out)).trans v9.out
    replace T1 : TV W5 w.heap.size hh pa ua := tv_b T1 BA
    replace T2 : TV W5 W1.heap.size hh.table qa va := tv_b T2 BA
    replace T3 : TV W5 W2.heap.size hh.table ra ta := tv_b T3 BA
    replace T4 : TV W5 W3.heap.size c ca da := tv_b T4 BA
    replace T5 : TV W5 W4.heap.size (c.cell ⟨k, n, s⟩) ea fa := tv_b T5 BA
    replace BW : Below w.heap.size w W5 := BW.trans (BA.mono BW.size)
    have v10 : Hid (W5.heap[u5.heap.size]? = some (.cells #[.slice ea (c.cell ⟨k, n, s⟩).ts.length ec, .slice fa (c.cell ⟨k, n, s⟩).vs.length fc] 30 (0, 0))) := rA
    clear hb BA hs0 rA
    refine (newCell_spec c ca da cc dc _ _ k n s _ (Nat.le_refl _) hC.wt T4.1 T4.2).mono ?_
    rintro e u6 ⟨⟨⟨ga, qn, gc⟩, ⟨ia, vn, ic⟩, ss, rfl, hO⟩, hb⟩
    have hqn := hO.1
    have hvn := hO.2.1
    dsimp only at hqn hvn
    subst hqn
    subst hvn
    have T6 : TV u6 W5.heap.size (c.cell ⟨k, n, s⟩) ga ia := tv_lay hO.2.2.lay hdk.out.1 (Nat.le_refl _) hdk.out.2.1
    clear hO ss
    replace v3 : Hid (u6.heap[u1.heap.size]? = some (.cells #[.slice pa hh.ts.length pc, .slice ua hh.vs.length uc] 30 (0, 0))) := (hb.block _ (row_lt v3.out)).trans v3.out
    replace v4 : Hid (u6.heap[u2.heap.size]? = some (.cells #[.slice qa hh.table.ts.length qc, .slice va hh.table.vs.length vc] 30 (0, 0))) := (hb.block _ (row_lt v4.out)).trans v4.out
    replace v5 : Hid (u6.heap[u2.heap.size + 1]? = some (.cells #[.int .i64 (tabK hh.ts.length), .int .i64 (tabI hh.ts.length), .string ⟨#[]⟩] 32 (0, 0))) := (hb.block _ (row_lt v5.out)).trans v5.out
    replace v6 : Hid (u6.heap[u3.heap.size]? = some (.cells #[.slice ra hh.table.ts.length rc, .slice ta hh.table.vs.length tc] 30 (0, 0))) := (hb.block _ (row_lt v6.out)).trans v6.out
    replace v7 : Hid (u6.heap[u3.heap.size + 1]? = some (.cells #[.int .i64 (tabK hh.ts.length), .int .i64 (tabI hh.ts.length), .string ⟨#[]⟩] 32 (0, 0))) := (hb.block _ (row_lt v7.out)).trans v7.out
    replace v8 : Hid (u6.heap[u4.heap.size]? = some (.cells #[.slice ca c.ts.length cc, .slice da c.vs.length dc] 30 (0, 0))) := (hb.block _ (row_lt v8.out)).trans v8.out
    replace v9 : Hid (u6.heap[u4.heap.size + 1]? = some (.cells #[.int .i64 k, .int .i64 n, .string s] 32 (0, 0))) := (hb.block _ (row_lt v9.out)).trans v9.out
    replace v10 : Hid (u6.heap[u5.heap.size]? = some (.cells #[.slice ea (c.cell ⟨k, n, s⟩).ts.length ec, .slice fa (c.cell ⟨k, n, s⟩).vs.length fc] 30 (0, 0))) := (hb.block _ (row_lt v10.out)).trans v10.out
    replace T1 : TV u6 w.heap.size hh pa ua := tv_b T1 hb
    replace T2 : TV u6 W1.heap.size hh.table qa va := tv_b T2 hb
    replace T3 : TV u6 W2.heap.size hh.table ra ta := tv_b T3 hb
    replace T4 : TV u6 W3.heap.size c ca da := tv_b T4 hb
    replace T5 : TV u6 W4.heap.size (c.cell ⟨k, n, s⟩) ea fa := tv_b T5 hb
    replace BW : Below w.heap.size w u6 := BW.trans (hb.mono BW.size)
    try dsimp only [Sl.v]
    obtain ⟨W6, hhW6⟩ : ∃ W6, W6 = u6.alloc (Obj.cells #[.slice ga (c.cell ⟨k, n, s⟩).ts.length gc, .slice ia (c.cell ⟨k, n, s⟩).vs.length ic] 30) := ⟨_, rfl⟩
    obtain ⟨rA, hs0, BA⟩ := rows1 u6 (Obj.cells #[.slice ga (c.cell ⟨k, n, s⟩).ts.length gc, .slice ia (c.cell ⟨k, n, s⟩).vs.length ic] 30)
    rw [← hhW6] at rA hs0 BA
    have v40 := cell_of_row _ _ 0 _ _ _ v4.out
    have v41 := cell_of_row _ _ 1 _ _ _ v4.out
    simp only [List.getElem?_toArray, List.getElem?_cons_zero, List.getElem?_cons_succ] at v40 v41
    have v50 := cell_of_row _ _ 0 _ _ _ v5.out
    have v51 := cell_of_row _ _ 1 _ _ _ v5.out
    have v52 := cell_of_row _ _ 2 _ _ _ v5.out
    simp only [List.getElem?_toArray, List.getElem?_cons_zero, List.getElem?_cons_succ] at v50 v51 v52
    have v60 := cell_of_row _ _ 0 _ _ _ v6.out
    have v61 := cell_of_row _ _ 1 _ _ _ v6.out
    simp only [List.getElem?_toArray, List.getElem?_cons_zero, List.getElem?_cons_succ] at v60 v61
    have v70 := cell_of_row _ _ 0 _ _ _ v7.out
    have v71 := cell_of_row _ _ 1 _ _ _ v7.out
    have v72 := cell_of_row _ _ 2 _ _ _ v7.out
    simp only [List.getElem?_toArray, List.getElem?_cons_zero, List.getElem?_cons_succ] at v70 v71 v72
    have lv4 := row_lt v4.out
    have lv5 := row_lt v5.out
    have lv6 := row_lt v6.out
    have lv7 := row_lt v7.out
    go_wp2_with fail
    rw [← hhW6]
    clear hhW6
    clear v40 v41 v50 v51 v52 v60 v61 v70 v71 v72
    clear lv4 lv5 lv6 lv7
    replace v3 : Hid (W6.heap[u1.heap.size]? = some (.cells #[.slice pa hh.ts.length pc, .slice ua hh.vs.length uc] 30 (0, 0))) := (BA.block _ (row_lt v3.out)).trans v3.out
    replace v4 : Hid (W6.heap[u2.heap.size]? = some (.cells #[.slice qa hh.table.ts.length qc, .slice va hh.table.vs.length vc] 30 (0, 0))) := (BA.block _ (row_lt v4.out)).trans v4.out
    replace v5 : Hid (W6.heap[u2.heap.size + 1]? = some (.cells #[.int .i64 (tabK hh.ts.length), .int .i64 (tabI hh.ts.length), .string ⟨#[]⟩] 32 (0, 0))) := (BA.block _ (row_lt v5.out)).trans v5.out
    replace v6 : Hid (W6.heap[u3.heap.size]? = some (.cells #[.slice ra hh.table.ts.length rc, .slice ta hh.table.vs.length tc] 30 (0, 0))) := (BA.block _ (row_lt v6.out)).trans v6.out
    replace v7 : Hid (W6.heap[u3.heap.size + 1]? = some (.cells #[.int .i64 (tabK hh.ts.length), .int .i64 (tabI hh.ts.length), .string ⟨#[]⟩] 32 (0, 0))) := (BA.block _ (row_lt v7.out)).trans v7.out
    replace v8 : Hid (W6.heap[u4.heap.size]? = some (.cells #[.slice ca c.ts.length cc, .slice da c.vs.length dc] 30 (0, 0))) := (BA.block _ (row_lt v8.out)).trans v8.out
    replace v9 : Hid (W6.heap[u4.heap.size + 1]? = some (.cells #[.int .i64 k, .int .i64 n, .string s] 32 (0, 0))) := (BA.block _ (row_lt v9.out)).trans v9.out
    replace v10 : Hid (W6.heap[u5.heap.size]? = some (.cells #[.slice ea (c.cell ⟨k, n, s⟩).ts.length ec, .slice fa (c.cell ⟨k, n, s⟩).vs.length fc] 30 (0, 0))) := (BA.block _ (row_lt v10.out)).trans v10.out
    replace T1 : TV W6 w.heap.size hh pa ua := tv_b T1 BA
    replace T2 : TV W6 W1.heap.size hh.table qa va := tv_b T2 BA
    replace T3 : TV W6 W2.heap.size hh.table ra ta := tv_b T3 BA
    replace T4 : TV W6 W3.heap.size c ca da := tv_b T4 BA
    replace T5 : TV W6 W4.heap.size (c.cell ⟨k, n, s⟩) ea fa := tv_b T5 BA
    replace T6 : TV W6 W5.heap.size (c.cell ⟨k, n, s⟩) ga ia := tv_b T6 BA
    replace BW : Below w.heap.size w W6 := BW.trans (BA.mono BW.size)
    have v12 : Hid (W6.heap[u6.heap.size]? = some (.cells #[.slice ga (c.cell ⟨k, n, s⟩).ts.length gc, .slice ia (c.cell ⟨k, n, s⟩).vs.length ic] 30 (0, 0))) := rA
    clear hb BA hs0 rA
    refine (sameH_same hh.table qa va ra ta qc vc rc tc _ _ _ _ W6 (Nat.le_refl _) (Nat.le_refl _) (Nat.le_trans hgk.out.2 (by decide)) T2.1 T2.2 T3.1 T3.2).mono ?_
    rintro e u7 ⟨rfl, hb⟩
    replace v3 : Hid (u7.heap[u1.heap.size]? = some (.cells #[.slice pa hh.ts.length pc, .slice ua hh.vs.length uc] 30 (0, 0))) := (hb.block _ (row_lt v3.out)).trans v3.out
    replace v4 : Hid (u7.heap[u2.heap.size]? = some (.cells #[.slice qa hh.table.ts.length qc, .slice va hh.table.vs.length vc] 30 (0, 0))) := (hb.block _ (row_lt v4.out)).trans v4.out
    replace v5 : Hid (u7.heap[u2.heap.size + 1]? = some (.cells #[.int .i64 (tabK hh.ts.length), .int .i64 (tabI hh.ts.length), .string ⟨#[]⟩] 32 (0, 0))) := (hb.block _ (row_lt v5.out)).trans v5.out
    replace v6 : Hid (u7.heap[u3.heap.size]? = some (.cells #[.slice ra hh.table.ts.length rc, .slice ta hh.table.vs.length tc] 30 (0, 0))) := (hb.block _ (row_lt v6.out)).trans v6.out
    replace v7 : Hid (u7.heap[u3.heap.size + 1]? = some (.cells #[.int .i64 (tabK hh.ts.length), .int .i64 (tabI hh.ts.length), .string ⟨#[]⟩] 32 (0, 0))) := (hb.block _ (row_lt v7.out)).trans v7.out
    replace v8 : Hid (u7.heap[u4.heap.size]? = some (.cells #[.slice ca c.ts.length cc, .slice da c.vs.length dc] 30 (0, 0))) := (hb.block _ (row_lt v8.out)).trans v8.out
    replace v9 : Hid (u7.heap[u4.heap.size + 1]? = some (.cells #[.int .i64 k, .int .i64 n, .string s] 32 (0, 0))) := (hb.block _ (row_lt v9.out)).trans v9.out
    replace v10 : Hid (u7.heap[u5.heap.size]? = some (.cells #[.slice ea (c.cell ⟨k, n, s⟩).ts.length ec, .slice fa (c.cell ⟨k, n, s⟩).vs.length fc] 30 (0, 0))) := (hb.block _ (row_lt v10.out)).trans v10.out
    replace v12 : Hid (u7.heap[u6.heap.size]? = some (.cells #[.slice ga (c.cell ⟨k, n, s⟩).ts.length gc, .slice ia (c.cell ⟨k, n, s⟩).vs.length ic] 30 (0, 0))) := (hb.block _ (row_lt v12.out)).trans v12.out
    replace T1 : TV u7 w.heap.size hh pa ua := tv_b T1 hb
    replace T2 : TV u7 W1.heap.size hh.table qa va := tv_b T2 hb
    replace T3 : TV u7 W2.heap.size hh.table ra ta := tv_b T3 hb
    replace T4 : TV u7 W3.heap.size c ca da := tv_b T4 hb
    replace T5 : TV u7 W4.heap.size (c.cell ⟨k, n, s⟩) ea fa := tv_b T5 hb
    replace T6 : TV u7 W5.heap.size (c.cell ⟨k, n, s⟩) ga ia := tv_b T6 hb
    replace BW : Below w.heap.size w u7 := BW.trans (hb.mono BW.size)
    try dsimp only [Sl.v]
    have v100 := cell_of_row _ _ 0 _ _ _ v10.out
    have v101 := cell_of_row _ _ 1 _ _ _ v10.out
    simp only [List.getElem?_toArray, List.getElem?_cons_zero, List.getElem?_cons_succ] at v100 v101
    have v120 := cell_of_row _ _ 0 _ _ _ v12.out
    have v121 := cell_of_row _ _ 1 _ _ _ v12.out
    simp only [List.getElem?_toArray, List.getElem?_cons_zero, List.getElem?_cons_succ] at v120 v121
    go_wp2_with fail
    clear v100 v101 v120 v121
    refine (sameH_same (c.cell ⟨k, n, s⟩) ea fa ga ia ec fc gc ic _ _ _ _ u7 (Nat.le_refl _) (Nat.le_refl _) (Nat.le_trans hdk.out.2.1 (by decide)) T5.1 T5.2 T6.1 T6.2).mono ?_
    rintro e u8 ⟨rfl, hb⟩
    replace v3 : Hid (u8.heap[u1.heap.size]? = some (.cells #[.slice pa hh.ts.length pc, .slice ua hh.vs.length uc] 30 (0, 0))) := (hb.block _ (row_lt v3.out)).trans v3.out
    replace v4 : Hid (u8.heap[u2.heap.size]? = some (.cells #[.slice qa hh.table.ts.length qc, .slice va hh.table.vs.length vc] 30 (0, 0))) := (hb.block _ (row_lt v4.out)).trans v4.out
    replace v5 : Hid (u8.heap[u2.heap.size + 1]? = some (.cells #[.int .i64 (tabK hh.ts.length), .int .i64 (tabI hh.ts.length), .string ⟨#[]⟩] 32 (0, 0))) := (hb.block _ (row_lt v5.out)).trans v5.out
    replace v6 : Hid (u8.heap[u3.heap.size]? = some (.cells #[.slice ra hh.table.ts.length rc, .slice ta hh.table.vs.length tc] 30 (0, 0))) := (hb.block _ (row_lt v6.out)).trans v6.out
    replace v7 : Hid (u8.heap[u3.heap.size + 1]? = some (.cells #[.int .i64 (tabK hh.ts.length), .int .i64 (tabI hh.ts.length), .string ⟨#[]⟩] 32 (0, 0))) := (hb.block _ (row_lt v7.out)).trans v7.out
    replace v8 : Hid (u8.heap[u4.heap.size]? = some (.cells #[.slice ca c.ts.length cc, .slice da c.vs.length dc] 30 (0, 0))) := (hb.block _ (row_lt v8.out)).trans v8.out
    replace v9 : Hid (u8.heap[u4.heap.size + 1]? = some (.cells #[.int .i64 k, .int .i64 n, .string s] 32 (0, 0))) := (hb.block _ (row_lt v9.out)).trans v9.out
    replace v10 : Hid (u8.heap[u5.heap.size]? = some (.cells #[.slice ea (c.cell ⟨k, n, s⟩).ts.length ec, .slice fa (c.cell ⟨k, n, s⟩).vs.length fc] 30 (0, 0))) := (hb.block _ (row_lt v10.out)).trans v10.out
    replace v12 : Hid (u8.heap[u6.heap.size]? = some (.cells #[.slice ga (c.cell ⟨k, n, s⟩).ts.length gc, .slice ia (c.cell ⟨k, n, s⟩).vs.length ic] 30 (0, 0))) := (hb.block _ (row_lt v12.out)).trans v12.out
    replace T1 : TV u8 w.heap.size hh pa ua := tv_b T1 hb
    replace T2 : TV u8 W1.heap.size hh.table qa va := tv_b T2 hb
    replace T3 : TV u8 W2.heap.size hh.table ra ta := tv_b T3 hb
    replace T4 : TV u8 W3.heap.size c ca da := tv_b T4 hb
    replace T5 : TV u8 W4.heap.size (c.cell ⟨k, n, s⟩) ea fa := tv_b T5 hb
    replace T6 : TV u8 W5.heap.size (c.cell ⟨k, n, s⟩) ga ia := tv_b T6 hb
    replace BW : Below w.heap.size w u8 := BW.trans (hb.mono BW.size)
    try dsimp only [Sl.v]
    clear T3 T4 T6
    have v81 := cell_of_row _ _ 1 _ _ _ v8.out
    have v90 := cell_of_row _ _ 0 _ _ _ v9.out
    have v91 := cell_of_row _ _ 1 _ _ _ v9.out
    have v92 := cell_of_row _ _ 2 _ _ _ v9.out
    have v101 := cell_of_row _ _ 1 _ _ _ v10.out
    simp only [List.getElem?_toArray, List.getElem?_cons_zero, List.getElem?_cons_succ] at v81 v90 v91 v92 v101
    by_cases hc3 : 3000 ≤ c.vs.length
    · have hN : addN c.vs.length = -1 := if_pos hc3
      have hc3' : ¬ (c.vs.length : Int) < 3000 := by omega
      rw [hN]
      clear hN
      go_wp2_with fail
      go_quiet (fail)
      have B9 := bel_drewN u8 nq
      generalize u8.drewN nq = u9 at B9 ⊢
      replace v3 := (B9.block _ (row_lt v3.out)).trans v3.out
      replace v4 := (B9.block _ (row_lt v4.out)).trans v4.out
      replace v5 := (B9.block _ (row_lt v5.out)).trans v5.out
      replace T1 := tv_b T1 B9
      replace T2 := tv_b T2 B9
      replace BW := BW.trans (B9.mono BW.size)
      clear B9 v8 v9 v10 v12 T5
      have v30 := cell_of_row _ _ 0 _ _ _ v3
      have v31 := cell_of_row _ _ 1 _ _ _ v3
      have v40 := cell_of_row _ _ 0 _ _ _ v4
      have v41 := cell_of_row _ _ 1 _ _ _ v4
      have v50 := cell_of_row _ _ 0 _ _ _ v5
      have v51 := cell_of_row _ _ 1 _ _ _ v5
      have v52 := cell_of_row _ _ 2 _ _ _ v5
      simp only [List.getElem?_toArray, List.getElem?_cons_zero, List.getElem?_cons_succ] at v30 v31 v40 v41 v50 v51 v52
      clear v3 v4 v5
      by_cases ht : 500 ≤ hh.ts.length
      · have hk : tabK hh.ts.length = 0 := if_pos ht
        have e1 : hh.table = hh := by unfold Hp.table; rw [if_pos ht]
        have ht' : (500 : Int) ≤ (hh.ts.length : Int) := by omega
        rw [hk] at v50
        rw [e1] at v40 v41 T2
        clear hk
        go_wp2_with fail
        refine (sameH_same hh qa va pa ua qc vc pc uc _ _ _ _ _ (Nat.le_refl _) (Nat.le_refl _) (Nat.le_trans hD.wt (by decide)) T2.1 T2.2 T1.1 T1.2).mono ?_
        rintro e u10 ⟨rfl, hb10⟩
        go_wp2_with fail
        go_ret
        exact ⟨rfl, BW.trans (hb10.mono BW.size)⟩
      · have hk : tabK hh.ts.length = 4 := if_neg ht
        have hi : tabI hh.ts.length = (hh.ts.length : Int) := if_neg ht
        have e1 : hh.table.ts = hh.ts ++ [[]] := by unfold Hp.table; rw [if_neg ht]
        have e2 : hh.table.ts.length = hh.ts.length + 1 := by rw [e1]; simp
        have hR : RowIs (hh.table.ts[(hh.ts.length : Int).toNat]?.getD []) 0 := by rw [e1]; simp; exact row_empty0
        have hU : unV ⟨#[35]⟩ hh.table.ts.length 4 (hh.ts.length : Int) ⟨#[]⟩ 0 = .tuple #[.agg #[.int .i64 2, .int .i64 0, .string ⟨#[]⟩], .string ⟨#[]⟩] := by
          have hb : tabB hh.table.ts.length 4 (hh.ts.length : Int) = true := by rw [e2]; simp [tabB]; omega
          simp [unV, lenR, hb]
        have hz0 := hD.ts
        have E2 : Hid (hh.table.ts.length = hh.ts.length + 1) := e2
        have HU : Hid (unV ⟨#[35]⟩ hh.table.ts.length 4 (hh.ts.length : Int) ⟨#[]⟩ 0 = .tuple #[.agg #[.int .i64 2, .int .i64 0, .string ⟨#[]⟩], .string ⟨#[]⟩]) := hU
        have HR : Hid (RowIs (hh.table.ts[(hh.ts.length : Int).toNat]?.getD []) 0) := hR
        clear e1 e2 hU hR
        rw [hk] at v50
        rw [hi] at v51
        clear hk hi
        go_wp2_with fail
        refine (un_impl ⟨#[35]⟩ hh.table qa va qc vc _ _ 0 4 (hh.ts.length : Int) ⟨#[]⟩ _ (Nat.le_refl _) T2.1 hgk.out.2 (fun _ => HR.out)).mono ?_
        rw [HU.out]
        rintro e u10 ⟨rfl, hb10⟩
        have l3 := World.block_lt_of_cell? u9 _ v30
        have l4 := World.block_lt_of_cell? u9 _ v40
        replace v30 := (hb10.cell l3).trans v30
        replace v40 := (hb10.cell l4).trans v40
        have l10 := hb10.size
        have l3' : u1.heap.size < u10.heap.size := Nat.lt_of_lt_of_le l3 l10
        have l4' : u2.heap.size < u10.heap.size := Nat.lt_of_lt_of_le l4 l10
        rw [E2.out] at v40
        clear v31 v41 v50 v51 v52 HR HU E2 l3 l4 l10
        go_wp2_with fail
        go_ret
        exact ⟨rfl, (BW.trans (hb10.mono BW.size)).alloc (BW.trans (hb10.mono BW.size)).size _⟩
    · have hN : addN c.vs.length = (c.vs.length : Int) := if_neg hc3
      have hl : (c.cell ⟨k, n, s⟩).vs.length = c.vs.length + 1 := by unfold Hp.cell; rw [if_neg hc3]; simp
      obtain ⟨_, g, o, rfl, _, hg, hcl⟩ := T5.2 c.vs.length (by omega)
      have hv : (c.cell ⟨k, n, s⟩).vs[c.vs.length]'(by omega) = ⟨k, n, s⟩ := by
        have e : (c.cell ⟨k, n, s⟩).vs = c.vs ++ [⟨k, n, s⟩] := by unfold Hp.cell; rw [if_neg hc3]
        simp [e]
      have z0 := hcl 0 (by decide)
      have z1 := hcl 1 (by decide)
      have z2 := hcl 2 (by decide)
      rw [hv] at z0 z1 z2
      simp only [Vl.cs, List.getElem?_cons_zero, List.getElem?_cons_succ, Nat.add_zero] at z0 z1 z2
      rw [hl] at v101
      have mc : c.vs.length * 3 = 3 * c.vs.length := Nat.mul_comm _ _
      have hvb := hC.vs
      rw [hN]
      clear hcl
      go_wp2_with fail
      have hn0 : (0 : Int) ≤ (c.vs.length : Int) := by omega
      have hlt1 : (c.vs.length : Int) < (c.vs.length : Int) + 1 := by omega
      have hlt2 : (c.vs.length : Int) < ((c.vs.length + 1 : Nat) : Int) := by omega
      have hlt3 : c.vs.length < c.vs.length + 1 := by omega
      have hw1 : IntKind.wrap .i64 ((c.vs.length : Int) + 1) = (c.vs.length : Int) + 1 := wrap_mid _ (by omega) (by omega)
      have hw2 : ((c.vs.length + 1 : Nat) : Int) = (c.vs.length : Int) + 1 := by omega
      go_quiet (fail)
      clear hlt1 hlt2 hlt3 hw1 hw2 z0 z1 z2 v81 v90 v91 v92 v101 mc hvb
      have B9 := bel_drewN u8 nq
      generalize u8.drewN nq = u9 at B9 ⊢
      replace v3 := (B9.block _ (row_lt v3.out)).trans v3.out
      replace v4 := (B9.block _ (row_lt v4.out)).trans v4.out
      replace v5 := (B9.block _ (row_lt v5.out)).trans v5.out
      replace T1 := tv_b T1 B9
      replace T2 := tv_b T2 B9
      replace BW := BW.trans (B9.mono BW.size)
      clear B9 v8 v9 v10 v12 T5
      have v30 := cell_of_row _ _ 0 _ _ _ v3
      have v31 := cell_of_row _ _ 1 _ _ _ v3
      have v40 := cell_of_row _ _ 0 _ _ _ v4
      have v41 := cell_of_row _ _ 1 _ _ _ v4
      have v50 := cell_of_row _ _ 0 _ _ _ v5
      have v51 := cell_of_row _ _ 1 _ _ _ v5
      have v52 := cell_of_row _ _ 2 _ _ _ v5
      simp only [List.getElem?_toArray, List.getElem?_cons_zero, List.getElem?_cons_succ] at v30 v31 v40 v41 v50 v51 v52
      clear v3 v4 v5
      by_cases ht : 500 ≤ hh.ts.length
      · have hk : tabK hh.ts.length = 0 := if_pos ht
        have e1 : hh.table = hh := by unfold Hp.table; rw [if_pos ht]
        have ht' : (500 : Int) ≤ (hh.ts.length : Int) := by omega
        rw [hk] at v50
        rw [e1] at v40 v41 T2
        clear hk
        go_wp2_with fail
        refine (sameH_same hh qa va pa ua qc vc pc uc _ _ _ _ _ (Nat.le_refl _) (Nat.le_refl _) (Nat.le_trans hD.wt (by decide)) T2.1 T2.2 T1.1 T1.2).mono ?_
        rintro e u10 ⟨rfl, hb10⟩
        go_wp2_with fail
        go_ret
        exact ⟨rfl, BW.trans (hb10.mono BW.size)⟩
      · have hk : tabK hh.ts.length = 4 := if_neg ht
        have hi : tabI hh.ts.length = (hh.ts.length : Int) := if_neg ht
        have e1 : hh.table.ts = hh.ts ++ [[]] := by unfold Hp.table; rw [if_neg ht]
        have e2 : hh.table.ts.length = hh.ts.length + 1 := by rw [e1]; simp
        have hR : RowIs (hh.table.ts[(hh.ts.length : Int).toNat]?.getD []) 0 := by rw [e1]; simp; exact row_empty0
        have hU : unV ⟨#[35]⟩ hh.table.ts.length 4 (hh.ts.length : Int) ⟨#[]⟩ 0 = .tuple #[.agg #[.int .i64 2, .int .i64 0, .string ⟨#[]⟩], .string ⟨#[]⟩] := by
          have hb : tabB hh.table.ts.length 4 (hh.ts.length : Int) = true := by rw [e2]; simp [tabB]; omega
          simp [unV, lenR, hb]
        have hz0 := hD.ts
        have E2 : Hid (hh.table.ts.length = hh.ts.length + 1) := e2
        have HU : Hid (unV ⟨#[35]⟩ hh.table.ts.length 4 (hh.ts.length : Int) ⟨#[]⟩ 0 = .tuple #[.agg #[.int .i64 2, .int .i64 0, .string ⟨#[]⟩], .string ⟨#[]⟩]) := hU
        have HR : Hid (RowIs (hh.table.ts[(hh.ts.length : Int).toNat]?.getD []) 0) := hR
        clear e1 e2 hU hR
        rw [hk] at v50
        rw [hi] at v51
        clear hk hi
        go_wp2_with fail
        refine (un_impl ⟨#[35]⟩ hh.table qa va qc vc _ _ 0 4 (hh.ts.length : Int) ⟨#[]⟩ _ (Nat.le_refl _) T2.1 hgk.out.2 (fun _ => HR.out)).mono ?_
        rw [HU.out]
        rintro e u10 ⟨rfl, hb10⟩
        have l3 := World.block_lt_of_cell? u9 _ v30
        have l4 := World.block_lt_of_cell? u9 _ v40
        replace v30 := (hb10.cell l3).trans v30
        replace v40 := (hb10.cell l4).trans v40
        have l10 := hb10.size
        have l3' : u1.heap.size < u10.heap.size := Nat.lt_of_lt_of_le l3 l10
        have l4' : u2.heap.size < u10.heap.size := Nat.lt_of_lt_of_le l4 l10
        rw [E2.out] at v40
        clear v31 v41 v50 v51 v52 HR HU E2 l3 l4 l10
        go_wp2_with fail
        go_ret
        exact ⟨rfl, (BW.trans (hb10.mono BW.size)).alloc (BW.trans (hb10.mono BW.size)).size _⟩
end Go.Proofs.Ytjeoeijbgkfpjaa
