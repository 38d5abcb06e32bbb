/- An expression of a rank, as the reader takes it. -/
import Derived.Test.YtlmmomffanakiaaJmL
namespace Go.Proofs.Ytlmmomffanakiaa
open Go.RowKit

set_option maxRecDepth 100000 in
set_option maxHeartbeats 12800000 in
theorem exp_any (r : Nat) (hr : r ≤ 5) (h3 : r ≠ 3) (c : Nat) (la : Option Addr) (cap : Nat) (L : List Tk) (i : Nat) (bad : Bool) (w : World) (h : PS w c la cap L i bad)
    (HN : ExpOk ((r : Int) + 1) c la cap L i bad) (HX : bad = false → ∀ j bd, (bd = true ∨ i < j) → ExpOk ((r : Int) + 1) c la cap L j bd) :
    Reads 65 #[.pointer (some ⟨c, 0, none⟩), .int .i64 r] w w.heap.size c la cap L i bad 2 0 := by
  have hch := h.lt
  have hr' : ¬ ((5 : Int) < (r : Int)) := by omega
  unfold Reads
  go_enter Try.func65, Try.ntmps65
  go_wp2_with fail
  have R0 := RS.start h
  have EN := HN _ R0.ps
  refine EN.mono ?_
  rintro e w1 ⟨x0, v0, j1, bd1, rfl, hL0⟩
  obtain ⟨k1, t1, n1, m1, a1, ca1, y1, b1, cb1, kk1, rfl⟩ := np_cells hL0.tree
  have R1 := R0.grown hch hL0.by' hL0.ps hL0.le hL0.stay
  have V0 := R1.at' (by rw [size_alloc]; omega) hL0
  have hs1 : w.heap.size < w1.heap.size := (Array.getElem?_eq_some_iff.1 R1.res).1
  clear EN hL0 R0 R1
  go_wp2_with fail
  go_loopw [] (fun wr => ∃ (f : Nd) (vf : List Value) (j : Nat) (bd : Bool), VarAt w wr w.heap.size w1.heap.size c la cap L i bad 2 f vf j bd) (fun wr => pm wr c L.length)
  case atStart => exact ⟨_, _, _, _, V0⟩
  case round =>
    obtain ⟨f, vf, j, bd, V⟩ := hrel
    go_wp2_with fail
    refine (opsign_any c la cap L j bd r hr _ V.ps).mono ?_
    rintro e w5 ⟨⟨sg, rfl, hsg, hsg'⟩, hb5⟩
    have V5 := V.below hb5
    obtain ⟨k9, t9, n9, m9, a9, ca9, y9, b9, cb9, kk9, rfl⟩ := np_cells V.tree
    have c0 := V5.cells 0
    have c1 := V5.cells 1
    have c2 := V5.cells 2
    have c3 := V5.cells 3
    have c4 := V5.cells 4
    have c5 := V5.cells 5
    have d0 := cell_of_row _ _ 0 _ _ _ V5.res
    have g0 := frozen_of_row _ _ 0 _ _ V5.res
    have d1 := cell_of_row _ _ 1 _ _ _ V5.res
    have g1 := frozen_of_row _ _ 1 _ _ V5.res
    have d2 := cell_of_row _ _ 2 _ _ _ V5.res
    have g2 := frozen_of_row _ _ 2 _ _ V5.res
    have d3 := cell_of_row _ _ 3 _ _ _ V5.res
    have g3 := frozen_of_row _ _ 3 _ _ V5.res
    have d4 := cell_of_row _ _ 4 _ _ _ V5.res
    have g4 := frozen_of_row _ _ 4 _ _ V5.res
    have d5 := cell_of_row _ _ 5 _ _ _ V5.res
    have g5 := frozen_of_row _ _ 5 _ _ V5.res
    simp only [List.getElem?_toArray, List.getElem?_cons_zero, List.getElem?_cons_succ] at c0 c1 c2 c3 c4 c5 d0 d1 d2 d3 d4 d5
    rcases hsg' with hz | ⟨rfl, hj⟩
    · obtain rfl : sg = ⟨#[]⟩ := by
        cases sg with | mk l => cases l with | mk l => cases l with | nil => rfl | cons a l => simp [ByteArray.size] at hz
      go_wp2_with fail
      refine bodyPost_ret (v := .agg #[.int .i64 k9, .string t9, .int .i64 n9, .slice a9 m9 ca9, .int .i64 y9, .slice b9 kk9 cb9]) (by simp [results, Try.results65, go_sem, *]) rfl ⟨_, [.int .i64 k9, .string t9, .int .i64 n9, .slice a9 m9 ca9, .int .i64 y9, .slice b9 kk9 cb9], _, _, rfl, V5.left (Nat.le_refl _) hch _ _ _ _ _ _⟩
    · by_cases hem : sg.toList.isEmpty = true
      · go_wp2_with fail
        refine bodyPost_ret (v := .agg #[.int .i64 k9, .string t9, .int .i64 n9, .slice a9 m9 ca9, .int .i64 y9, .slice b9 kk9 cb9]) (by simp [results, Try.results65, go_sem, *]) rfl ⟨_, [.int .i64 k9, .string t9, .int .i64 n9, .slice a9 m9 ca9, .int .i64 y9, .slice b9 kk9 cb9], _, _, rfl, V5.left (Nat.le_refl _) hch _ _ _ _ _ _⟩
      have hem' : sg.toList.isEmpty = false := by simpa using hem
      have h3' : ¬ ((r : Int) = 3) := by omega
      have HX' : ExpOk ((r : Int) + 1) c la cap L (j + 1) false := by
        have q := HX (by first | exact hbf_of V5.stay | trivial) (j + 1) false (Or.inr (by have := V5.le; omega))
        exact q
      have hj4 : j < 4000 := by have := V.ps.len; omega
      have q1 := V5.ps.c1
      have qf1 := V5.ps.f 1
      have V6 := V5.next hj hch (by omega)
      have hle5 := V5.le
      clear c0 c1 c2 c3 c4 c5 d0 d1 d2 d3 d4 d5 g0 g1 g2 g3 g4 g5
      have c0 := V6.cells 0
      have c1 := V6.cells 1
      have c2 := V6.cells 2
      have c3 := V6.cells 3
      have c4 := V6.cells 4
      have c5 := V6.cells 5
      simp only [List.getElem?_cons_zero, List.getElem?_cons_succ] at c0 c1 c2 c3 c4 c5
      go_wp2_with fail
      have VD := V6.drew
      have EX := HX' _ VD.ps
      have knb := (Array.getElem?_eq_some_iff.1 VD.var).1
      go_region_with (first | (go_at_call 65; refine EX.mono ?_; rintro e w7 ⟨x, u, j7, bd7, rfl, hL⟩; obtain ⟨k7, t7, n7, m7, a7, ca7, y7, b7, cb7, kk7, rfl⟩ := np_cells hL.tree; have V7 := VD.step hch (by omega) hL.by' hL.ps hL.le hL.stay; have k7b := (Array.getElem?_eq_some_iff.1 V7.var).1; have q0 := V7.cells 0; have q1' := V7.cells 1; have q2 := V7.cells 2; have q3 := V7.cells 3; have q4 := V7.cells 4; have q5 := V7.cells 5; simp only [List.getElem?_cons_zero, List.getElem?_cons_succ] at q0 q1' q2 q3 q4 q5; have qr0 := frozen_of_row _ _ 0 _ _ V7.var; have qr1 := frozen_of_row _ _ 1 _ _ V7.var; have qr2 := frozen_of_row _ _ 2 _ _ V7.var; have qr3 := frozen_of_row _ _ 3 _ _ V7.var; have qr4 := frozen_of_row _ _ 4 _ _ V7.var; have qr5 := frozen_of_row _ _ 5 _ _ V7.var; have qa0 : ∀ O : Obj, (w7.alloc O).cell? ⟨w1.heap.size, 0, none⟩ = w7.cell? ⟨w1.heap.size, 0, none⟩ := (fun O => (bel_alloc w7 O).cell (p := ⟨w1.heap.size, 0, none⟩) k7b); have qf0 : ∀ O : Obj, (w7.alloc O).frozen? ⟨w1.heap.size, 0, none⟩ = false := (fun O => ((bel_alloc w7 O).frozen (p := ⟨w1.heap.size, 0, none⟩) k7b).trans (frozen_of_row _ _ 0 _ _ V7.var)); have qa1 : ∀ O : Obj, (w7.alloc O).cell? ⟨w1.heap.size, 1, none⟩ = w7.cell? ⟨w1.heap.size, 1, none⟩ := (fun O => (bel_alloc w7 O).cell (p := ⟨w1.heap.size, 1, none⟩) k7b); have qf1 : ∀ O : Obj, (w7.alloc O).frozen? ⟨w1.heap.size, 1, none⟩ = false := (fun O => ((bel_alloc w7 O).frozen (p := ⟨w1.heap.size, 1, none⟩) k7b).trans (frozen_of_row _ _ 1 _ _ V7.var)); have qa2 : ∀ O : Obj, (w7.alloc O).cell? ⟨w1.heap.size, 2, none⟩ = w7.cell? ⟨w1.heap.size, 2, none⟩ := (fun O => (bel_alloc w7 O).cell (p := ⟨w1.heap.size, 2, none⟩) k7b); have qf2 : ∀ O : Obj, (w7.alloc O).frozen? ⟨w1.heap.size, 2, none⟩ = false := (fun O => ((bel_alloc w7 O).frozen (p := ⟨w1.heap.size, 2, none⟩) k7b).trans (frozen_of_row _ _ 2 _ _ V7.var)); have qa3 : ∀ O : Obj, (w7.alloc O).cell? ⟨w1.heap.size, 3, none⟩ = w7.cell? ⟨w1.heap.size, 3, none⟩ := (fun O => (bel_alloc w7 O).cell (p := ⟨w1.heap.size, 3, none⟩) k7b); have qf3 : ∀ O : Obj, (w7.alloc O).frozen? ⟨w1.heap.size, 3, none⟩ = false := (fun O => ((bel_alloc w7 O).frozen (p := ⟨w1.heap.size, 3, none⟩) k7b).trans (frozen_of_row _ _ 3 _ _ V7.var)); have qa4 : ∀ O : Obj, (w7.alloc O).cell? ⟨w1.heap.size, 4, none⟩ = w7.cell? ⟨w1.heap.size, 4, none⟩ := (fun O => (bel_alloc w7 O).cell (p := ⟨w1.heap.size, 4, none⟩) k7b); have qf4 : ∀ O : Obj, (w7.alloc O).frozen? ⟨w1.heap.size, 4, none⟩ = false := (fun O => ((bel_alloc w7 O).frozen (p := ⟨w1.heap.size, 4, none⟩) k7b).trans (frozen_of_row _ _ 4 _ _ V7.var)); have qa5 : ∀ O : Obj, (w7.alloc O).cell? ⟨w1.heap.size, 5, none⟩ = w7.cell? ⟨w1.heap.size, 5, none⟩ := (fun O => (bel_alloc w7 O).cell (p := ⟨w1.heap.size, 5, none⟩) k7b); have qf5 : ∀ O : Obj, (w7.alloc O).frozen? ⟨w1.heap.size, 5, none⟩ = false := (fun O => ((bel_alloc w7 O).frozen (p := ⟨w1.heap.size, 5, none⟩) k7b).trans (frozen_of_row _ _ 5 _ _ V7.var))))
      all_goals
        have V8 := VarAt.bin' y9 sg (by omega) VD hch (Nat.le_refl _) (by omega) knb hL.by' hL.tree hL.sm hL.ps hL.le hL.stay (fun hb => by have := hL.cnt hb; omega)
        have hle7 := hL.le
        clear q0 q1' q2 q3 q4 q5 qr0 qr1 qr2 qr3 qr4 qr5 qa0 qa1 qa2 qa3 qa4 qa5 qf0 qf1 qf2 qf3 qf4 qf5 V7 EX hL c0 c1 c2 c3 c4 c5
        go_wp2_with fail
        go_roundw
        case rel => exact ⟨_, _, _, _, V8⟩
        case measure => rw [V8.ps.pm, V.ps.pm]; have := V8.ps.le; cases bd7 <;> simp <;> omega
end Go.Proofs.Ytlmmomffanakiaa
