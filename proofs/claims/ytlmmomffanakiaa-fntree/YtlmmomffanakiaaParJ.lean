/- What stands behind if, as the reader takes it. -/
import Derived.Test.YtlmmomffanakiaaParI
namespace Go.Proofs.Ytlmmomffanakiaa
open Go.RowKit

theorem RS.var1 {w wr : World} {h c : Nat} {la : Option Addr} {cap : Nat} {L : List Tk} {i : Nat} {bad : Bool} {j : Nat} {bd : Bool} {lo : Nat} {x : Nd} {u0 u1 u2 u3 u4 u5 : Value} (R : RS w wr h c la cap L i bad j bd) (hc : c < h) (hx : NP wr (Bt lo wr.heap.size) x [u0, u1, u2, u3, u4, u5]) (hlo : h < lo) (x0 x1 x2 x4 : Value) :
    VK w ((wr.alloc (.cells #[u0, u1, u2, u3, u4, u5] 27)).alloc (.cells #[x0, x1, x2, .slice none 0 0, x4, .slice (some ⟨wr.heap.size, 0, none⟩) 1 1] 27)) h (wr.heap.size + 1) h c la cap L i bad x0 x1 x2 x4 [] none 0 [x] [[u0, u1, u2, u3, u4, u5]] (.slice (some ⟨wr.heap.size, 0, none⟩) 1 1) j bd := by
  have hlt := (Array.getElem?_eq_some_iff.1 R.res).1
  have s1 := size_alloc wr (.cells #[u0, u1, u2, u3, u4, u5] 27)
  have hb1 := bel_alloc wr (.cells #[u0, u1, u2, u3, u4, u5] 27)
  have hr1 := heap_alloc_new wr (.cells #[u0, u1, u2, u3, u4, u5] 27)
  generalize wr.alloc (.cells #[u0, u1, u2, u3, u4, u5] 27) = W1 at *
  have s2 := size_alloc W1 (.cells #[x0, x1, x2, .slice none 0 0, x4, .slice (some ⟨wr.heap.size, 0, none⟩) 1 1] 27)
  have hb2 := bel_alloc W1 (.cells #[x0, x1, x2, .slice none 0 0, x4, .slice (some ⟨wr.heap.size, 0, none⟩) 1 1] 27)
  have hr2 := heap_alloc_new W1 (.cells #[x0, x1, x2, .slice none 0 0, x4, .slice (some ⟨wr.heap.size, 0, none⟩) 1 1] 27)
  have hb := hb1.trans (hb2.mono (by omega))
  rw [s1] at hr2
  have R2 := R.below hc hb
  have hrow := (hb2.block wr.heap.size (by omega)).trans hr1
  have hrw : ∀ b, (Value.slice (some ⟨wr.heap.size, 0, none⟩) 1 1).ownBlock = some b → h < b ∧ b ≠ wr.heap.size + 1 ∧ h ≤ b := fun b hb' => by
    obtain rfl : wr.heap.size = b := by simpa [Value.ownBlock] using hb'
    exact ⟨by omega, by omega, by omega⟩
  exact { hn := by omega, hnb := by omega, hKs := by omega, res := R2.res, var := hr2, kids := krow_one hrow (by omega) (hx.later (fun g hg => ⟨⟨⟨by have := hg.1; omega, by have := hg.2; omega⟩, by have := hg.1; omega, by have := hg.2; omega⟩, by have := hg.2; omega⟩) (fun p hp => hb.cell hp.2)), row := hrw, names := fun k hk => absurd hk (Nat.not_lt_zero _), ps := R2.ps, le := R2.le, stay := R2.stay, by' := R2.by' }

set_option maxRecDepth 100000 in
set_option maxHeartbeats 6400000 in
theorem if_any (c : Nat) (la : Option Addr) (cap : Nat) (L : List Tk) (i : Nat) (z : Int) (w : World) (h : PS w c la cap L i false)
    (HX : ExpOk 0 c la cap L i false) (HB : ∀ j bd, (bd = true ∨ i < j) → BlockOk c la cap L j bd) :
    Reads 64 #[.pointer (some ⟨c, 0, none⟩), .int .i64 z] w w.heap.size c la cap L i false 0 0 := by
  obtain ⟨i0, hi0, hz0, hz1, hz2⟩ := info_parts info_nd
  have hch := h.lt
  unfold Reads
  go_enter Try.func64, Try.ntmps64
  go_wp2_with fail
  have R0 := RS.start h (bad := false)
  refine (HX _ R0.ps).mono ?_
  rintro e w1 ⟨x0, u0, j1, bd1, rfl, hL0⟩
  obtain ⟨k1, t1, n1, m1, a1, ca1, y1, b1, cb1, kk1, rfl⟩ := np_cells hL0.tree
  have R1 := R0.grown hch hL0.by' hL0.ps hL0.le hL0.stay
  have hs1 := (Array.getElem?_eq_some_iff.1 R1.res).1
  have hs01 := hL0.by'.size
  go_wp2_with fail
  have V1 := R1.var1 hch hL0.tree (by rw [size_alloc]; omega) (.int .i64 3) (.string ⟨#[]⟩) (.int .i64 0) (.int .i64 z)
  have hc0 := hL0.cnt
  have hst0 := hL0.stay
  have hle0 := hL0.le
  have hsm0 := hL0.sm
  clear hL0 R0 R1
  refine (take_any c la cap L j1 bd1 ⟨#[116, 104, 101, 110]⟩ _ V1.ps).mono ?_
  rintro e w2 ⟨rfl, j2, bd2, h2, ht2, hg2⟩
  have V2 := V1.grown hch hg2 h2 (took_le ht2).1 (took_le ht2).2
  have hle2 := (took_le ht2).1
  clear V1
  go_wp2_with fail
  have VD := V2.drew hch
  have EX := HB j2 bd2 (by
      cases bd2
      · rcases ht2 with ⟨q1, _, _, _⟩ | ⟨q1, _⟩
        · have := hc0 q1; exact Or.inr (by omega)
        · cases q1
      · exact Or.inl rfl) _ VD.ps
  have n5 := cell_of_row _ _ 5 _ _ _ VD.var
  have nf5 := frozen_of_row _ _ 5 _ _ VD.var
  simp only [List.getElem?_toArray, List.getElem?_cons_zero, List.getElem?_cons_succ] at n5
  go_region_law
    (first
      | (refine step_append_lies _ rfl _ _ _ rfl _ 27 i0 _ 6 88 Try.underlying25 hi0 hz0 hz1 hz2 rfl (by decide) _ _ _ rfl (V3.kids.own.alloc _) ⟨w3.heap.size, 0, none⟩ 1 1 [.int .i64 k3, .string t3, .int .i64 n3, .slice a3 m3 ca3, .int .i64 y3, .slice b3 kk3 cb3] rfl rfl (node_cells _ _ _ _ rfl) (node_one _ _ _ _ _ _ _ _ _ _) (by decide) (by first | (unfold maxLen; omega) | (simp [maxLen]; done)) (by first | omega | (simp; done)) (by have := V3.hnb; have := V3.hn; simp; omega) _ rfl ?_; intro g6 cp6 w6 hown6 hgrow6 hat6 hlt6; have qn6 := (hgrow6.cell_far ⟨w1.heap.size + 1, 5, none⟩ (by rw [size_alloc]; exact Nat.lt_succ_of_lt kn3) (fun e => (V3.row _ e.symm).2.1 rfl)).trans (((bel_alloc w3 _).cell (p := ⟨w1.heap.size + 1, 5, none⟩) kn3).trans q5); have qf6 := (hgrow6.frozen_far ⟨w1.heap.size + 1, 5, none⟩ (by rw [size_alloc]; exact Nat.lt_succ_of_lt kn3) (fun e => (V3.row _ e.symm).2.1 rfl)).trans (((bel_alloc w3 _).frozen (p := ⟨w1.heap.size + 1, 5, none⟩) kn3).trans qf5))
      | (go_simp; go_at_call 44; refine EX.mono ?_; rintro e w3 ⟨x, u, j3, bd3, rfl, hL⟩; obtain ⟨k3, t3, n3, m3, a3, ca3, y3, b3, cb3, kk3, rfl⟩ := np_cells hL.tree; have V3 := VD.grown hch hL.by' hL.ps hL.le hL.stay; have q5 := cell_of_row _ _ 5 _ _ _ V3.var; have qf5 := frozen_of_row _ _ 5 _ _ V3.var; simp only [List.getElem?_toArray, List.getElem?_cons_zero, List.getElem?_cons_succ] at q5; have kn3 := (Array.getElem?_eq_some_iff.1 V3.var).1; have qa5 : ∀ O : Obj, (w3.alloc O).cell? ⟨w1.heap.size + 1, 5, none⟩ = w3.cell? ⟨w1.heap.size + 1, 5, none⟩ := (fun O => (bel_alloc w3 O).cell (p := ⟨w1.heap.size + 1, 5, none⟩) kn3)))
  all_goals
    have V4 := VK.app VD hch (Nat.le_refl _) hL hown6 hgrow6 hat6
    rw [show [x0].length + 1 = 2 from rfl] at V4
    generalize w6.setCell ⟨w1.heap.size + 1, 5, none⟩ (.slice (some ⟨g6, 0, none⟩) 2 cp6) = W4 at V4 ⊢
    have hct3 := hL.cnt
    have hst3 := hL.stay
    have hle3 := hL.le
    have hsx := hL.sm
    clear EX hL q5 qf5 qa5
    go_wp2_with fail
    refine (is_any c la cap L j3 bd3 ⟨#[101, 108, 115, 101]⟩ _ V4.ps).mono ?_
    rintro e w7 ⟨⟨b7, rfl, hb7'⟩, hb7⟩
    have V7 := V4.grown hch (pg_below hb7) (V4.ps.below hb7) (Nat.le_refl _) (fun h => ⟨h, rfl⟩)
    cases b7
    · go_wp2_with fail
      refine (take_any c la cap L j3 bd3 ⟨#[101, 110, 100]⟩ _ V7.ps).mono ?_
      rintro e w8 ⟨rfl, j8, bd8, h8, ht8, hg8⟩
      have V8 := V7.grown hch hg8 h8 (took_le ht8).1 (took_le ht8).2
      have c0 := cell_of_row _ _ 0 _ _ _ V8.var
      have d0 := cell_of_row _ _ 0 _ _ _ V8.res
      have g0 := frozen_of_row _ _ 0 _ _ V8.res
      have c1 := cell_of_row _ _ 1 _ _ _ V8.var
      have d1 := cell_of_row _ _ 1 _ _ _ V8.res
      have g1 := frozen_of_row _ _ 1 _ _ V8.res
      have c2 := cell_of_row _ _ 2 _ _ _ V8.var
      have d2 := cell_of_row _ _ 2 _ _ _ V8.res
      have g2 := frozen_of_row _ _ 2 _ _ V8.res
      have c3 := cell_of_row _ _ 3 _ _ _ V8.var
      have d3 := cell_of_row _ _ 3 _ _ _ V8.res
      have g3 := frozen_of_row _ _ 3 _ _ V8.res
      have c4 := cell_of_row _ _ 4 _ _ _ V8.var
      have d4 := cell_of_row _ _ 4 _ _ _ V8.res
      have g4 := frozen_of_row _ _ 4 _ _ V8.res
      have c5 := cell_of_row _ _ 5 _ _ _ V8.var
      have d5 := cell_of_row _ _ 5 _ _ _ V8.res
      have g5 := frozen_of_row _ _ 5 _ _ V8.res
      simp only [List.getElem?_toArray, List.getElem?_cons_zero, List.getElem?_cons_succ] at c0 c1 c2 c3 c4 c5 d0 d1 d2 d3 d4 d5
      go_wp2_with fail
      refine bodyPost_ret (v := .agg #[.int .i64 3, .string ⟨#[]⟩, .int .i64 0, .slice none 0 0, .int .i64 z, .slice (some ⟨g6, 0, none⟩) 2 cp6]) (by simp [results, Try.results64, go_sem, *]) rfl ⟨_, _, _, _, rfl, VK.left V8 hch (Nat.le_refl _) (by decide) (fun s hs => absurd hs (by simp)) (by simp) (fun y hy => by simp at hy; rcases hy with rfl | rfl; exact hsm0; exact hsx) (fun hb => ?_) _ _ _ _ _ _⟩
      rcases ht8 with ⟨q1, q2, q3, q4⟩ | ⟨q1, q2⟩
      · have e1 := hct3 q1
        have e2 : bd2 = false := by
          cases bd2
          · rfl
          · rw [(hst3 rfl).1] at q1; cases q1
        rcases ht2 with ⟨q5, _, _, q6⟩ | ⟨q5, _⟩
        · have e4 := hc0 q5
          simp [wtL]
          omega
        · rw [q5] at e2; cases e2
      · rw [q1] at hb; cases hb
    · obtain ⟨rfl, hj⟩ := hb7' rfl
      have hj4 : j3 < 4000 := by have := V7.ps.len; omega
      have p1 := V7.ps.c1
      have pf1 := V7.ps.f 1
      have VN := V7.next hch hj
      have hij : i < j3 + 1 := by omega
      obtain ⟨ja, hja⟩ : ∃ ja, ja = j3 := ⟨_, rfl⟩
      have hcta := hct3
      have hsta := hst3
      have hlea := hle3
      have hsxa := hsx
      obtain ⟨xa, hxa⟩ : ∃ xa, xa = x := ⟨_, rfl⟩
      subst hxa
      clear hct3 hst3 hle3 hsx hja V4
      clear qf6 qn6 hlt6 hat6 hgrow6 hown6 n5 nf5 VD V3 kn3
      go_wp2_with fail
      have VD := VN.drew hch
      have EX := HB (j3 + 1) false (Or.inr hij) _ VD.ps
      have n5 := cell_of_row _ _ 5 _ _ _ VD.var
      have nf5 := frozen_of_row _ _ 5 _ _ VD.var
      simp only [List.getElem?_toArray, List.getElem?_cons_zero, List.getElem?_cons_succ] at n5
      go_region_law
        (first
          | (refine step_append_lies _ rfl _ _ _ rfl _ 27 i0 _ 6 88 Try.underlying25 hi0 hz0 hz1 hz2 rfl (by decide) _ _ _ rfl (V3.kids.own.alloc _) ⟨w3.heap.size, 0, none⟩ 1 1 [.int .i64 k3, .string t3, .int .i64 n3, .slice a3 m3 ca3, .int .i64 y3, .slice b3 kk3 cb3] rfl rfl (node_cells _ _ _ _ rfl) (node_one _ _ _ _ _ _ _ _ _ _) (by decide) (by first | (unfold maxLen; omega) | (simp [maxLen]; done)) (by first | omega | (simp; done)) (by have := V3.hnb; have := V3.hn; simp; omega) _ rfl ?_; intro g6 cp6 w6 hown6 hgrow6 hat6 hlt6; have qn6 := (hgrow6.cell_far ⟨w1.heap.size + 1, 5, none⟩ (by rw [size_alloc]; exact Nat.lt_succ_of_lt kn3) (fun e => (V3.row _ e.symm).2.1 rfl)).trans (((bel_alloc w3 _).cell (p := ⟨w1.heap.size + 1, 5, none⟩) kn3).trans q5); have qf6 := (hgrow6.frozen_far ⟨w1.heap.size + 1, 5, none⟩ (by rw [size_alloc]; exact Nat.lt_succ_of_lt kn3) (fun e => (V3.row _ e.symm).2.1 rfl)).trans (((bel_alloc w3 _).frozen (p := ⟨w1.heap.size + 1, 5, none⟩) kn3).trans qf5))
          | (go_simp; go_at_call 44; refine EX.mono ?_; rintro e w3 ⟨x, u, j3, bd3, rfl, hL⟩; obtain ⟨k3, t3, n3, m3, a3, ca3, y3, b3, cb3, kk3, rfl⟩ := np_cells hL.tree; have V3 := VD.grown hch hL.by' hL.ps hL.le hL.stay; have q5 := cell_of_row _ _ 5 _ _ _ V3.var; have qf5 := frozen_of_row _ _ 5 _ _ V3.var; simp only [List.getElem?_toArray, List.getElem?_cons_zero, List.getElem?_cons_succ] at q5; have kn3 := (Array.getElem?_eq_some_iff.1 V3.var).1; have qa5 : ∀ O : Obj, (w3.alloc O).cell? ⟨w1.heap.size + 1, 5, none⟩ = w3.cell? ⟨w1.heap.size + 1, 5, none⟩ := (fun O => (bel_alloc w3 O).cell (p := ⟨w1.heap.size + 1, 5, none⟩) kn3)))
      all_goals
        have V9 := VK.app VD hch (Nat.le_refl _) hL hown6 hgrow6 hat6
        rw [show ([x0] ++ [xa]).length + 1 = 3 from rfl] at V9
        generalize w6.setCell ⟨w1.heap.size + 1, 5, none⟩ (.slice (some ⟨g6, 0, none⟩) 3 cp6) = W9 at V9 ⊢
        have hct3 := hL.cnt
        have hst3 := hL.stay
        have hle3 := hL.le
        have hsx := hL.sm
        clear EX hL q5 qf5 qa5
        go_wp2_with fail
        refine (take_any c la cap L j3 bd3 ⟨#[101, 110, 100]⟩ _ V9.ps).mono ?_
        rintro e w8 ⟨rfl, j8, bd8, h8, ht8, hg8⟩
        have V8 := V9.grown hch hg8 h8 (took_le ht8).1 (took_le ht8).2
        have c0 := cell_of_row _ _ 0 _ _ _ V8.var
        have d0 := cell_of_row _ _ 0 _ _ _ V8.res
        have g0 := frozen_of_row _ _ 0 _ _ V8.res
        have c1 := cell_of_row _ _ 1 _ _ _ V8.var
        have d1 := cell_of_row _ _ 1 _ _ _ V8.res
        have g1 := frozen_of_row _ _ 1 _ _ V8.res
        have c2 := cell_of_row _ _ 2 _ _ _ V8.var
        have d2 := cell_of_row _ _ 2 _ _ _ V8.res
        have g2 := frozen_of_row _ _ 2 _ _ V8.res
        have c3 := cell_of_row _ _ 3 _ _ _ V8.var
        have d3 := cell_of_row _ _ 3 _ _ _ V8.res
        have g3 := frozen_of_row _ _ 3 _ _ V8.res
        have c4 := cell_of_row _ _ 4 _ _ _ V8.var
        have d4 := cell_of_row _ _ 4 _ _ _ V8.res
        have g4 := frozen_of_row _ _ 4 _ _ V8.res
        have c5 := cell_of_row _ _ 5 _ _ _ V8.var
        have d5 := cell_of_row _ _ 5 _ _ _ V8.res
        have g5 := frozen_of_row _ _ 5 _ _ V8.res
        simp only [List.getElem?_toArray, List.getElem?_cons_zero, List.getElem?_cons_succ] at c0 c1 c2 c3 c4 c5 d0 d1 d2 d3 d4 d5
        go_wp2_with fail
        refine bodyPost_ret (v := .agg #[.int .i64 3, .string ⟨#[]⟩, .int .i64 0, .slice none 0 0, .int .i64 z, .slice (some ⟨g6, 0, none⟩) 3 cp6]) (by simp [results, Try.results64, go_sem, *]) rfl ⟨_, _, _, _, rfl, VK.left V8 hch (Nat.le_refl _) (by decide) (fun s hs => absurd hs (by simp)) (by simp) (fun y hy => by simp at hy; rcases hy with rfl | rfl | rfl; exact hsm0; exact hsxa; exact hsx) (fun hb => ?_) _ _ _ _ _ _⟩
        rcases ht8 with ⟨q1, q2, q3, q4⟩ | ⟨q1, q2⟩
        · have e0 := hct3 q1
          have e9 := hcta (by simp)
          have e2 : bd2 = false := by
            cases bd2
            · rfl
            · have := (hsta rfl).1; simp at this
          rcases ht2 with ⟨q5, _, _, q6⟩ | ⟨q5, _⟩
          · have e4 := hc0 q5
            simp [wtL]
            omega
          · rw [q5] at e2; cases e2
        · rw [q1] at hb; cases hb
end Go.Proofs.Ytlmmomffanakiaa
