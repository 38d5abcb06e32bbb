/- What stands behind local, as the reader takes it. -/
import Derived.Test.YtlmmomffanakiaaJmK
namespace Go.Proofs.Ytlmmomffanakiaa
open Go.RowKit

def FuncOk (c : Nat) (la : Option Addr) (cap : Nat) (L : List Tk) (i : Nat) (bad : Bool) : Prop :=
  ∀ (z : Int) (w : World), PS w c la cap L i bad → Reads 74 #[.pointer (some ⟨c, 0, none⟩), .int .i64 z] w w.heap.size c la cap L i bad 4 0

/-- A call's beginning: its answer's variable, the reader's state. -/
structure RS (w wr : World) (h c : Nat) (la : Option Addr) (cap : Nat) (L : List Tk) (i : Nat) (bad : Bool) (j : Nat) (bd : Bool) : Prop where
  res : wr.heap[h]? = some (.cells #[Value.int IntKind.i64 0, Value.string ⟨#[]⟩, Value.int IntKind.i64 0, Value.slice none 0 0, Value.int IntKind.i64 0, Value.slice none 0 0] 27 (0, 0))
  ps : PS wr c la cap L j bd
  le : i ≤ j
  stay : bad = true → bd = true ∧ j = i
  by' : w.grownBy wr (some c)
theorem RS.start {w : World} {c : Nat} {la : Option Addr} {cap : Nat} {L : List Tk} {i : Nat} {bad : Bool} (h : PS w c la cap L i bad) : RS w (w.alloc (.cells #[Value.int IntKind.i64 0, Value.string ⟨#[]⟩, Value.int IntKind.i64 0, Value.slice none 0 0, Value.int IntKind.i64 0, Value.slice none 0 0] 27)) w.heap.size c la cap L i bad i bad :=
  ⟨heap_alloc_new w _, h.below (bel_alloc w _), Nat.le_refl _, fun h => ⟨h, rfl⟩, pg_below (bel_alloc w _)⟩
theorem RS.grown {w wr w' : World} {h c : Nat} {la : Option Addr} {cap : Nat} {L : List Tk} {i : Nat} {bad : Bool} {j j' : Nat} {bd bd' : Bool} (R : RS w wr h c la cap L i bad j bd) (hc : c < h) (hg : wr.grownBy w' (some c)) (hp : PS w' c la cap L j' bd') (hle : j ≤ j') (hst : bd = true → bd' = true ∧ j' = j) : RS w w' h c la cap L i bad j' bd' :=
  ⟨(hg.block _ (Array.getElem?_eq_some_iff.1 R.res).1 (fun e => by have := Option.some.inj e; omega)).trans R.res, hp, Nat.le_trans R.le hle, fun hb => by
    obtain ⟨q1, q2⟩ := R.stay hb
    obtain ⟨q3, q4⟩ := hst q1
    exact ⟨q3, by omega⟩, pg_trans R.by' hg⟩
theorem RS.below {w wr w' : World} {h c : Nat} {la : Option Addr} {cap : Nat} {L : List Tk} {i : Nat} {bad : Bool} {j : Nat} {bd : Bool} (R : RS w wr h c la cap L i bad j bd) (hc : c < h) (hb : Below wr.heap.size wr w') : RS w w' h c la cap L i bad j bd :=
  R.grown hc (pg_below hb) (R.ps.below hb) (Nat.le_refl _) (fun h => ⟨h, rfl⟩)
theorem RS.next {w wr : World} {h c : Nat} {la : Option Addr} {cap : Nat} {L : List Tk} {i : Nat} {bad : Bool} {j : Nat} (R : RS w wr h c la cap L i bad j false) (hc : c < h) (hj : j < L.length) : RS w (wr.setCell ⟨c, 1, none⟩ (.int .i64 ((j : Int) + 1))) h c la cap L i bad (j + 1) false :=
  R.grown hc (pg_set _ _ _ _) (R.ps.next _ (j + 1) (by omega) (by omega)) (by omega) (fun h => by cases h)
theorem RS.var {w wr : World} {h c : Nat} {la : Option Addr} {cap : Nat} {L : List Tk} {i : Nat} {bad : Bool} {j : Nat} {bd : Bool} (R : RS w wr h c la cap L i bad j bd) (x0 x1 x2 x4 : Value) : VK w (wr.alloc (.cells #[x0, x1, x2, .slice none 0 0, x4, .slice none 0 0] 27)) h wr.heap.size h c la cap L i bad x0 x1 x2 x4 [] none 0 [] [] (.slice none 0 0) j bd :=
  have hlt := (Array.getElem?_eq_some_iff.1 R.res).1
  have hb := bel_alloc wr (.cells #[x0, x1, x2, .slice none 0 0, x4, .slice none 0 0] 27)
  { hn := hlt, hnb := by rw [size_alloc]; omega, hKs := by rw [size_alloc]; omega, row := fun b hb => by simp [Value.ownBlock] at hb, res := (hb.block _ hlt).trans R.res, var := heap_alloc_new wr _, kids := KRow.none _ _ _ _, names := fun k hk => absurd hk (Nat.not_lt_zero _), ps := R.ps.below hb, le := R.le, stay := R.stay, by' := pg_trans R.by' (pg_below hb) }
theorem VK.next {w wr : World} {h nb K c : Nat} {la : Option Addr} {cap : Nat} {L : List Tk} {i : Nat} {bad : Bool} {x0 x1 x2 x4 : Value} {ns : List ByteArray} {an : Option Addr} {cn : Nat} {ks : List Nd} {vs : List (List Value)} {v : Value} {j : Nat} (V : VK w wr h nb K c la cap L i bad x0 x1 x2 x4 ns an cn ks vs v j false) (hc : c < h) (hj : j < L.length) : VK w (wr.setCell ⟨c, 1, none⟩ (.int .i64 ((j : Int) + 1))) h nb K c la cap L i bad x0 x1 x2 x4 ns an cn ks vs v (j + 1) false :=
  V.grown hc (pg_set _ _ _ _) (V.ps.next _ (j + 1) (by omega) (by omega)) (by omega) (fun h => by cases h)

set_option maxRecDepth 100000 in
set_option maxHeartbeats 3200000 in
theorem local_any (c : Nat) (la : Option Addr) (cap : Nat) (L : List Tk) (i : Nat) (bad : Bool) (z : Int) (w : World) (h : PS w c la cap L i bad)
    (HF : ∀ j bd, (bd = true ∨ i < j) → FuncOk c la cap L j bd) (HE : ∀ j bd, (bd = true ∨ i < j) → ExpOk 0 c la cap L j bd) :
    Reads 63 #[.pointer (some ⟨c, 0, none⟩), .int .i64 z] w w.heap.size c la cap L i bad 0 0 := by
  obtain ⟨i0, hi0, hz0, hz1, hz2⟩ := info_parts info_nd
  have hch := h.lt
  unfold Reads
  go_enter Try.func63, Try.ntmps63
  go_wp2_with fail
  have R0 := RS.start h
  refine (is_any c la cap L i bad ⟨#[102, 117, 110, 99, 116, 105, 111, 110]⟩ _ R0.ps).mono ?_
  rintro e w1 ⟨⟨b1, rfl, hb1'⟩, hb1⟩
  have R1 := R0.below hch hb1
  cases b1
  · go_wp2_with fail
    refine (name_any c la cap L i bad _ R1.ps).mono ?_
    rintro e w2 ⟨⟨sx, rfl, hsx⟩, j2, bd2, h2, ht2, hg2⟩
    have R2 := R1.grown hch hg2 h2 (took_le ht2).1 (took_le ht2).2
    have V2 := R2.var (.int .i64 1) (.string sx) (.int .i64 0) (.int .i64 z)
    go_wp2_with fail
    refine (is_any c la cap L j2 bd2 ⟨#[61]⟩ _ V2.ps).mono ?_
    rintro e w3 ⟨⟨b3, rfl, hb3'⟩, hb3⟩
    have V3 := V2.grown hch (pg_below hb3) (V2.ps.below hb3) (Nat.le_refl _) (fun h => ⟨h, rfl⟩)
    cases b3
    · have c0 := cell_of_row _ _ 0 _ _ _ V3.var
      have d0 := cell_of_row _ _ 0 _ _ _ V3.res
      have g0 := frozen_of_row _ _ 0 _ _ V3.res
      have c1 := cell_of_row _ _ 1 _ _ _ V3.var
      have d1 := cell_of_row _ _ 1 _ _ _ V3.res
      have g1 := frozen_of_row _ _ 1 _ _ V3.res
      have c2 := cell_of_row _ _ 2 _ _ _ V3.var
      have d2 := cell_of_row _ _ 2 _ _ _ V3.res
      have g2 := frozen_of_row _ _ 2 _ _ V3.res
      have c3 := cell_of_row _ _ 3 _ _ _ V3.var
      have d3 := cell_of_row _ _ 3 _ _ _ V3.res
      have g3 := frozen_of_row _ _ 3 _ _ V3.res
      have c4 := cell_of_row _ _ 4 _ _ _ V3.var
      have d4 := cell_of_row _ _ 4 _ _ _ V3.res
      have g4 := frozen_of_row _ _ 4 _ _ V3.res
      have c5 := cell_of_row _ _ 5 _ _ _ V3.var
      have d5 := cell_of_row _ _ 5 _ _ _ V3.res
      have g5 := frozen_of_row _ _ 5 _ _ V3.res
      simp only [List.getElem?_toArray, List.getElem?_cons_zero, List.getElem?_cons_succ] at c0 c1 c2 c3 c4 c5 d0 d1 d2 d3 d4 d5
      go_wp2_with fail
      refine bodyPost_ret (v := .agg #[.int .i64 1, .string sx, .int .i64 0, .slice none 0 0, .int .i64 z, .slice none 0 0]) (by simp [results, Try.results63, go_sem, *]) rfl ⟨_, _, _, _, rfl, VK.left V3 hch (Nat.le_refl _) ⟨hsx, by decide⟩ (fun s hs => absurd hs (by simp)) (by simp) (fun y hy => absurd hy (by simp)) (fun hb => ?_) _ _ _ _ _ _⟩
      simp [wtL]
    · obtain ⟨rfl, hj⟩ := hb3' rfl
      have hj4 : j2 < 4000 := by have := V3.ps.len; omega
      have p1 := V3.ps.c1
      have pf1 := V3.ps.f 1
      have V4 := V3.next hch hj
      have hij : i < j2 := by rcases ht2 with ⟨_, _, _, rfl⟩ | ⟨q1, _⟩; omega; cases q1
      go_wp2_with fail
      have VD := V4.drew hch
      have EX := HE (j2 + 1) false (Or.inr (by omega)) _ VD.ps
      have n5 := cell_of_row _ _ 5 _ _ _ VD.var
      have nf5 := frozen_of_row _ _ 5 _ _ VD.var
      simp only [List.getElem?_toArray, List.getElem?_cons_zero, List.getElem?_cons_succ] at n5
      go_region_law
        (first
          | (refine step_append_lies _ rfl _ _ _ rfl _ 27 i0 _ 6 88 Try.underlying25 hi0 hz0 hz1 hz2 rfl (by decide) _ _ _ rfl (V3.kids.own.alloc _) ⟨w3.heap.size, 0, none⟩ 1 1 [.int .i64 k3, .string t3, .int .i64 n3, .slice a3 m3 ca3, .int .i64 y3, .slice b3 kk3 cb3] rfl rfl (node_cells _ _ _ _ rfl) (node_one _ _ _ _ _ _ _ _ _ _) (by decide) (by first | (unfold maxLen; omega) | (simp [maxLen]; done)) (by first | omega | (simp; done)) (by have := V3.hnb; have := V3.hn; simp; omega) _ rfl ?_; intro g6 cp6 w6 hown6 hgrow6 hat6 hlt6; have qn6 := (hgrow6.cell_far ⟨w2.heap.size, 5, none⟩ (by rw [size_alloc]; exact Nat.lt_succ_of_lt kn3) (fun e => (V3.row _ e.symm).2.1 rfl)).trans (((bel_alloc w3 _).cell (p := ⟨w2.heap.size, 5, none⟩) kn3).trans q5); have qf6 := (hgrow6.frozen_far ⟨w2.heap.size, 5, none⟩ (by rw [size_alloc]; exact Nat.lt_succ_of_lt kn3) (fun e => (V3.row _ e.symm).2.1 rfl)).trans (((bel_alloc w3 _).frozen (p := ⟨w2.heap.size, 5, none⟩) kn3).trans qf5))
          | (go_simp; go_at_call 65; refine EX.mono ?_; rintro e w3 ⟨x, u, j3, bd3, rfl, hL⟩; obtain ⟨k3, t3, n3, m3, a3, ca3, y3, b3, cb3, kk3, rfl⟩ := np_cells hL.tree; have V3 := VD.grown hch hL.by' hL.ps hL.le hL.stay; have q5 := cell_of_row _ _ 5 _ _ _ V3.var; have qf5 := frozen_of_row _ _ 5 _ _ V3.var; simp only [List.getElem?_toArray, List.getElem?_cons_zero, List.getElem?_cons_succ] at q5; have kn3 := (Array.getElem?_eq_some_iff.1 V3.var).1; have qa5 : ∀ O : Obj, (w3.alloc O).cell? ⟨w2.heap.size, 5, none⟩ = w3.cell? ⟨w2.heap.size, 5, none⟩ := (fun O => (bel_alloc w3 O).cell (p := ⟨w2.heap.size, 5, none⟩) kn3)))
      all_goals
        have V9 := VK.app VD hch (Nat.le_refl _) hL hown6 hgrow6 hat6
        rw [show ([] : List Nd).length + 1 = 1 from rfl] at V9
        generalize w6.setCell ⟨w2.heap.size, 5, none⟩ (.slice (some ⟨g6, 0, none⟩) 1 cp6) = W9 at V9 ⊢
        have hct3 := hL.cnt
        have hst3 := hL.stay
        have hle3 := hL.le
        have hsx := hL.sm
        clear EX hL q5 qf5 qa5
        have c0 := cell_of_row _ _ 0 _ _ _ V9.var
        have d0 := cell_of_row _ _ 0 _ _ _ V9.res
        have g0 := frozen_of_row _ _ 0 _ _ V9.res
        have c1 := cell_of_row _ _ 1 _ _ _ V9.var
        have d1 := cell_of_row _ _ 1 _ _ _ V9.res
        have g1 := frozen_of_row _ _ 1 _ _ V9.res
        have c2 := cell_of_row _ _ 2 _ _ _ V9.var
        have d2 := cell_of_row _ _ 2 _ _ _ V9.res
        have g2 := frozen_of_row _ _ 2 _ _ V9.res
        have c3 := cell_of_row _ _ 3 _ _ _ V9.var
        have d3 := cell_of_row _ _ 3 _ _ _ V9.res
        have g3 := frozen_of_row _ _ 3 _ _ V9.res
        have c4 := cell_of_row _ _ 4 _ _ _ V9.var
        have d4 := cell_of_row _ _ 4 _ _ _ V9.res
        have g4 := frozen_of_row _ _ 4 _ _ V9.res
        have c5 := cell_of_row _ _ 5 _ _ _ V9.var
        have d5 := cell_of_row _ _ 5 _ _ _ V9.res
        have g5 := frozen_of_row _ _ 5 _ _ V9.res
        simp only [List.getElem?_toArray, List.getElem?_cons_zero, List.getElem?_cons_succ] at c0 c1 c2 c3 c4 c5 d0 d1 d2 d3 d4 d5
        go_wp2_with fail
        refine bodyPost_ret (v := .agg #[.int .i64 1, .string sx, .int .i64 0, .slice none 0 0, .int .i64 z, .slice (some ⟨g6, 0, none⟩) 1 cp6]) (by simp [results, Try.results63, go_sem, *]) rfl ⟨_, _, _, _, rfl, VK.left V9 hch (Nat.le_refl _) ⟨by omega, by decide⟩ (fun s hs => absurd hs (by simp)) (by simp) (fun y hy => by rw [List.nil_append, List.mem_singleton] at hy; subst hy; exact hsx) (fun hb => ?_) _ _ _ _ _ _⟩
        have e1 := hct3 hb
        simp [wtL]
        omega
  · obtain ⟨rfl, hi⟩ := hb1' rfl
    go_wp2_with fail
    refine (line_any c la cap L i false _ R1.ps).mono ?_
    rintro e w2 ⟨⟨z2, rfl⟩, hb2⟩
    have R2 := R1.below hch hb2
    have p1 := R2.ps.c1
    have pf1 := R2.ps.f 1
    have hi4 : i < 4000 := by have := R2.ps.len; omega
    have R3 := R2.next hch hi
    go_wp2_with fail
    refine (name_any c la cap L (i + 1) false _ R3.ps).mono ?_
    rintro e w4 ⟨⟨sx, rfl, hsx⟩, j4, bd4, h4, ht4, hg4⟩
    have R4 := R3.grown hch hg4 h4 (took_le ht4).1 (took_le ht4).2
    have hj4 := (took_le ht4).1
    have V5 := R4.var (.int .i64 2) (.string sx) (.int .i64 0) (.int .i64 z)
    clear p1 pf1
    go_wp2_with fail
    have VD := V5.drew hch
    have EX := HF j4 bd4 (Or.inr (by omega)) z2 _ VD.ps
    have n5 := cell_of_row _ _ 5 _ _ _ VD.var
    have nf5 := frozen_of_row _ _ 5 _ _ VD.var
    simp only [List.getElem?_toArray, List.getElem?_cons_zero, List.getElem?_cons_succ] at n5
    go_region_law
      (first
        | (refine step_append_lies _ rfl _ _ _ rfl _ 27 i0 _ 6 88 Try.underlying25 hi0 hz0 hz1 hz2 rfl (by decide) _ _ _ rfl (V3.kids.own.alloc _) ⟨w3.heap.size, 0, none⟩ 1 1 [.int .i64 k3, .string t3, .int .i64 n3, .slice a3 m3 ca3, .int .i64 y3, .slice b3 kk3 cb3] rfl rfl (node_cells _ _ _ _ rfl) (node_one _ _ _ _ _ _ _ _ _ _) (by decide) (by first | (unfold maxLen; omega) | (simp [maxLen]; done)) (by first | omega | (simp; done)) (by have := V3.hnb; have := V3.hn; simp; omega) _ rfl ?_; intro g6 cp6 w6 hown6 hgrow6 hat6 hlt6; have qn6 := (hgrow6.cell_far ⟨w4.heap.size, 5, none⟩ (by rw [size_alloc]; exact Nat.lt_succ_of_lt kn3) (fun e => (V3.row _ e.symm).2.1 rfl)).trans (((bel_alloc w3 _).cell (p := ⟨w4.heap.size, 5, none⟩) kn3).trans q5); have qf6 := (hgrow6.frozen_far ⟨w4.heap.size, 5, none⟩ (by rw [size_alloc]; exact Nat.lt_succ_of_lt kn3) (fun e => (V3.row _ e.symm).2.1 rfl)).trans (((bel_alloc w3 _).frozen (p := ⟨w4.heap.size, 5, none⟩) kn3).trans qf5))
        | (go_simp; go_at_call 74; refine EX.mono ?_; rintro e w3 ⟨x, u, j3, bd3, rfl, hL⟩; obtain ⟨k3, t3, n3, m3, a3, ca3, y3, b3, cb3, kk3, rfl⟩ := np_cells hL.tree; have V3 := VD.grown hch hL.by' hL.ps hL.le hL.stay; have q5 := cell_of_row _ _ 5 _ _ _ V3.var; have qf5 := frozen_of_row _ _ 5 _ _ V3.var; simp only [List.getElem?_toArray, List.getElem?_cons_zero, List.getElem?_cons_succ] at q5; have kn3 := (Array.getElem?_eq_some_iff.1 V3.var).1; have qa5 : ∀ O : Obj, (w3.alloc O).cell? ⟨w4.heap.size, 5, none⟩ = w3.cell? ⟨w4.heap.size, 5, none⟩ := (fun O => (bel_alloc w3 O).cell (p := ⟨w4.heap.size, 5, none⟩) kn3)))
    all_goals
      have V9 := VK.app VD hch (Nat.le_refl _) hL hown6 hgrow6 hat6
      rw [show ([] : List Nd).length + 1 = 1 from rfl] at V9
      generalize w6.setCell ⟨w4.heap.size, 5, none⟩ (.slice (some ⟨g6, 0, none⟩) 1 cp6) = W9 at V9 ⊢
      have hct3 := hL.cnt
      have hst3 := hL.stay
      have hle3 := hL.le
      have hsx := hL.sm
      clear EX hL q5 qf5 qa5
      have c0 := cell_of_row _ _ 0 _ _ _ V9.var
      have d0 := cell_of_row _ _ 0 _ _ _ V9.res
      have g0 := frozen_of_row _ _ 0 _ _ V9.res
      have c1 := cell_of_row _ _ 1 _ _ _ V9.var
      have d1 := cell_of_row _ _ 1 _ _ _ V9.res
      have g1 := frozen_of_row _ _ 1 _ _ V9.res
      have c2 := cell_of_row _ _ 2 _ _ _ V9.var
      have d2 := cell_of_row _ _ 2 _ _ _ V9.res
      have g2 := frozen_of_row _ _ 2 _ _ V9.res
      have c3 := cell_of_row _ _ 3 _ _ _ V9.var
      have d3 := cell_of_row _ _ 3 _ _ _ V9.res
      have g3 := frozen_of_row _ _ 3 _ _ V9.res
      have c4 := cell_of_row _ _ 4 _ _ _ V9.var
      have d4 := cell_of_row _ _ 4 _ _ _ V9.res
      have g4 := frozen_of_row _ _ 4 _ _ V9.res
      have c5 := cell_of_row _ _ 5 _ _ _ V9.var
      have d5 := cell_of_row _ _ 5 _ _ _ V9.res
      have g5 := frozen_of_row _ _ 5 _ _ V9.res
      simp only [List.getElem?_toArray, List.getElem?_cons_zero, List.getElem?_cons_succ] at c0 c1 c2 c3 c4 c5 d0 d1 d2 d3 d4 d5
      go_wp2_with fail
      refine bodyPost_ret (v := .agg #[.int .i64 2, .string sx, .int .i64 0, .slice none 0 0, .int .i64 z, .slice (some ⟨g6, 0, none⟩) 1 cp6]) (by simp [results, Try.results63, go_sem, *]) rfl ⟨_, _, _, _, rfl, VK.left V9 hch (Nat.le_refl _) ⟨by omega, by decide⟩ (fun s hs => absurd hs (by simp)) (by simp) (fun y hy => by rw [List.nil_append, List.mem_singleton] at hy; subst hy; exact hsx) (fun hb => ?_) _ _ _ _ _ _⟩
      have e1 := hct3 hb
      simp [wtL]
      omega
end Go.Proofs.Ytlmmomffanakiaa
