/- A block, as the reader takes it. -/
import Derived.Test.YtlmmomffanakiaaParJ
namespace Go.Proofs.Ytlmmomffanakiaa
open Go.RowKit

def StatOk (c : Nat) (la : Option Addr) (cap : Nat) (L : List Tk) (i : Nat) (bad : Bool) : Prop :=
  ∀ w : World, PS w c la cap L i bad → Reads 57 #[.pointer (some ⟨c, 0, none⟩)] w w.heap.size c la cap L i bad 1 0
def stS : List ByteArray := [⟨#[108, 111, 99, 97, 108]⟩, ⟨#[105, 102]⟩, ⟨#[119, 104, 105, 108, 101]⟩, ⟨#[114, 101, 116, 117, 114, 110]⟩, ⟨#[98, 114, 101, 97, 107]⟩]
theorem VK.sl {w wr : World} {h nb K c : Nat} {la : Option Addr} {cap : Nat} {L : List Tk} {i : Nat} {bad : Bool} {x0 x1 x2 x4 : Value} {ns : List ByteArray} {an : Option Addr} {cn : Nat} {ks : List Nd} {vs : List (List Value)} {v : Value} {j : Nat} {bd : Bool} (V : VK w wr h nb K c la cap L i bad x0 x1 x2 x4 ns an cn ks vs v j bd) : ∃ av cv, v = .slice av ks.length cv := by
  obtain ⟨ax, cx, hxv, _, _⟩ := V.kids.kp (Nat.le_refl _) (fun b hb => by have := V.row b hb; exact ⟨by omega, this.2.1⟩)
  exact ⟨ax, cx, hxv⟩

/-- The kids' row of a node's values is one that may be written. -/
def RowFree (w : World) (v : List Value) : Prop :=
  ∀ a n ca, v[5]? = some (.slice a n ca) → ∀ g o, a = some ⟨g, o, none⟩ → ∃ cs T, w.heap[g]? = some (.cells cs T (0, 0))
theorem VK.free {w wr : World} {h nb K c : Nat} {la : Option Addr} {cap : Nat} {L : List Tk} {i : Nat} {bad : Bool} {k0 n0 z0 : Int} {t0 : ByteArray} {ns : List ByteArray} {an : Option Addr} {cn : Nat} {ks : List Nd} {vs : List (List Value)} {av : Option Addr} {cv : Nat} {j : Nat} {bd : Bool} (V : VK w wr h nb K c la cap L i bad (.int .i64 k0) (.string t0) (.int .i64 n0) (.int .i64 z0) ns an cn ks vs (.slice av ks.length cv) j bd) (a0 a1 a2 a3 a4 a5 : Value) :
    RowFree ((((((wr.setCell ⟨h, 0, none⟩ a0).setCell ⟨h, 1, none⟩ a1).setCell ⟨h, 2, none⟩ a2).setCell ⟨h, 3, none⟩ a3).setCell ⟨h, 4, none⟩ a4).setCell ⟨h, 5, none⟩ a5) [.int .i64 k0, .string t0, .int .i64 n0, .slice an ns.length cn, .int .i64 z0, .slice av ks.length cv] := by
  intro a n ca hv g o ha
  simp only [List.getElem?_cons_succ, List.getElem?_cons_zero, Option.some.injEq, Value.slice.injEq] at hv
  obtain ⟨rfl, _, _⟩ := hv
  subst ha
  rcases V.kids.own.2 with ⟨e, _⟩ | ⟨g', cap', cur, e, _, hg, _⟩
  · simp at e
  · simp only [Value.slice.injEq, Option.some.injEq, Addr.mk.injEq] at e
    obtain ⟨⟨rfl, rfl, _⟩, _, _⟩ := e
    have := (V.row g rfl).1
    exact ⟨_, _, by rw [six_heap _ _ _ _ _ _ _ _ g (by omega)]; exact hg⟩

set_option maxRecDepth 100000 in
set_option maxHeartbeats 12800000 in
theorem block_root (c : Nat) (la : Option Addr) (cap : Nat) (L : List Tk) (i : Nat) (bad : Bool) (w : World) (h : PS w c la cap L i bad)
    (HS : ∀ j, i ≤ j → bad = false → StatOk c la cap L j false) :
    Calls Try.prog 44 #[.pointer (some ⟨c, 0, none⟩)] w fun e w' => ∃ t v i' bad', e = .returned (.agg v.toArray) ∧ Left w w' w.heap.size c la cap L i bad 0 0 t v i' bad' ∧ RowFree w' v := by
  obtain ⟨i0, hi0, hz0, hz1, hz2⟩ := info_parts info_nd
  have hch := h.lt
  go_enter Try.func44, Try.ntmps44
  go_wp2_with fail
  have R0 := RS.start h
  refine (line_any c la cap L i bad _ R0.ps).mono ?_
  rintro e w1 ⟨⟨z, rfl⟩, hb1⟩
  have R1 := R0.below hch hb1
  have V1 := R1.var (.int .i64 0) (.string ⟨#[]⟩) (.int .i64 0) (.int .i64 z)
  clear R0 R1 hb1
  go_wp2_with fail
  go_loopw [] (fun wr => ∃ (ks : List Nd) (vs : List (List Value)) (v : Value) (j : Nat) (bd : Bool), VK w wr w.heap.size w1.heap.size w.heap.size c la cap L i bad (.int .i64 0) (.string ⟨#[]⟩) (.int .i64 0) (.int .i64 z) [] none 0 ks vs v j bd ∧ (∀ x ∈ ks, Sm x) ∧ ks.length ≤ 9000 ∧ (bd = false → wtL ks ≤ 2 * (j - i))) (fun wr => pm wr c L.length)
  case atStart => exact ⟨[], [], _, _, _, V1, by simp, by simp, by simp [wtL]⟩
  case round =>
    obtain ⟨ks, vs, v, j, bd, V, hS, hkl, hct⟩ := hrel
    obtain ⟨av, cv, rfl⟩ := V.sl
    have p2 := V.ps.c2
    clear V1
    cases bd
    · have hct0 := hct rfl
      have hst0 : bad = false := by
        cases bad
        · rfl
        · have := (V.stay rfl).1; cases this
      clear hct
      go_wp2_with fail
      refine (kind_any c la cap L j false 0 _ V.ps).mono ?_
      rintro e w2 ⟨⟨b2, rfl, _⟩, hb2⟩
      have V2 := V.grown hch (pg_below hb2) (V.ps.below hb2) (Nat.le_refl _) (fun h => ⟨h, rfl⟩)
      cases b2
      · go_wp2_with fail
        refine (is_any c la cap L j false ⟨#[40]⟩ _ V2.ps).mono ?_
        rintro e w3 ⟨⟨b3, rfl, _⟩, hb3⟩
        have V3 := V2.grown hch (pg_below hb3) (V2.ps.below hb3) (Nat.le_refl _) (fun h => ⟨h, rfl⟩)
        go_wp2_with fail
        go_loopw [4, 6] (fun x y wr => ∃ (b : Bool) (k : Nat), x = .bool b ∧ y = .int .i64 k ∧ k ≤ 5 ∧ Below (w3.alloc (.cells (stS.map Value.string).toArray 9)).heap.size (w3.alloc (.cells (stS.map Value.string).toArray 9)) wr) (fun _ y _ => 5 - (intOf y).toNat)
        case atStart => exact ⟨_, 0, rfl, rfl, by omega, Below.refl _ _⟩
        case round =>
          rename_i wo
          obtain ⟨b, k, rfl, rfl, hk, hbw⟩ := hrel
          have hb4 : Below w3.heap.size w3 wr := (bel_alloc w3 _).trans (hbw.mono (by rw [size_alloc]; omega))
          have V4 := V3.grown hch (pg_below hb4) (V3.ps.below hb4) (Nat.le_refl _) (fun h => ⟨h, rfl⟩)
          by_cases hlt : k < 5
          · cases b
            · obtain ⟨t, ht⟩ : ∃ t, stS[k]? = some t := ⟨_, List.getElem?_eq_getElem (show k < stS.length from hlt)⟩
              have hcell : wr.cell? ⟨w3.heap.size, k, none⟩ = some (.string t) := by
                rw [st_cell hbw k]; simp [ht]
              go_wp2_with fail
              refine (is_any c la cap L j false t _ V4.ps).mono ?_
              rintro e w5 ⟨⟨b5, rfl, _⟩, hb5⟩
              go_wp2_with fail
              go_roundw
              case rel => exact ⟨_, k + 1, rfl, by go_num, by omega, hbw.trans (hb5.mono hbw.size)⟩
              case measure => simp [intOf]; omega
            · go_wp2_with fail
              go_roundw
              case rel => exact ⟨_, k + 1, rfl, by go_num, by omega, hbw⟩
              case measure => simp [intOf]; omega
          · obtain rfl : k = 5 := by omega
            cases b
            · have c0 := cell_of_row _ _ 0 _ _ _ V4.var
              have d0 := cell_of_row _ _ 0 _ _ _ V4.res
              have g0 := frozen_of_row _ _ 0 _ _ V4.res
              have c1 := cell_of_row _ _ 1 _ _ _ V4.var
              have d1 := cell_of_row _ _ 1 _ _ _ V4.res
              have g1 := frozen_of_row _ _ 1 _ _ V4.res
              have c2 := cell_of_row _ _ 2 _ _ _ V4.var
              have d2 := cell_of_row _ _ 2 _ _ _ V4.res
              have g2 := frozen_of_row _ _ 2 _ _ V4.res
              have c3 := cell_of_row _ _ 3 _ _ _ V4.var
              have d3 := cell_of_row _ _ 3 _ _ _ V4.res
              have g3 := frozen_of_row _ _ 3 _ _ V4.res
              have c4 := cell_of_row _ _ 4 _ _ _ V4.var
              have d4 := cell_of_row _ _ 4 _ _ _ V4.res
              have g4 := frozen_of_row _ _ 4 _ _ V4.res
              have c5 := cell_of_row _ _ 5 _ _ _ V4.var
              have d5 := cell_of_row _ _ 5 _ _ _ V4.res
              have g5 := frozen_of_row _ _ 5 _ _ V4.res
              simp only [List.getElem?_toArray, List.getElem?_cons_zero, List.getElem?_cons_succ] at c0 c1 c2 c3 c4 c5 d0 d1 d2 d3 d4 d5
              go_wp2_with fail
              refine bodyPost_ret (v := .agg #[.int .i64 0, .string ⟨#[]⟩, .int .i64 0, .slice none 0 0, .int .i64 z, .slice av ks.length cv]) (by simp [results, Try.results44, go_sem, *]) rfl ⟨_, _, _, _, rfl, VK.left V4 hch (Nat.le_refl _) (by decide) (fun s hs => absurd hs (by simp)) (by simp) hS (fun hb => ?_) _ _ _ _ _ _, VK.free V4 _ _ _ _ _ _⟩
              simpa using hct0
            · have hkn : ks.length ≤ 8000 := by
                have q1 := hct0
                have q2 := len_wtL ks
                have q3 := V.ps.len
                have q4 := V.ps.le
                omega
              have hbad := hst0
              go_wp2_with fail
              have VD := V4.drew hch
              have EX := HS j V.le hbad _ VD.ps
              have n5 := cell_of_row _ _ 5 _ _ _ VD.var
              have nf5 := frozen_of_row _ _ 5 _ _ VD.var
              simp only [List.getElem?_toArray, List.getElem?_cons_zero, List.getElem?_cons_succ] at n5
              go_region_law
                (first
                  | (refine step_append_lies _ rfl _ _ _ rfl _ 27 i0 _ 6 88 Try.underlying25 hi0 hz0 hz1 hz2 rfl (by decide) _ _ _ rfl (V3.kids.own.alloc _) ⟨w3.heap.size, 0, none⟩ 1 1 [.int .i64 k3, .string t3, .int .i64 n3, .slice a3 m3 ca3, .int .i64 y3, .slice b3 kk3 cb3] rfl rfl (node_cells _ _ _ _ rfl) (node_one _ _ _ _ _ _ _ _ _ _) (by decide) (by first | (unfold maxLen; omega) | (simp [maxLen]; done)) (by first | omega | (simp; done)) (by have := V3.hnb; have := V3.hn; simp; omega) _ rfl ?_; intro g6 cp6 w6 hown6 hgrow6 hat6 hlt6; have qn6 := (hgrow6.cell_far ⟨w1.heap.size, 5, none⟩ (by rw [size_alloc]; exact Nat.lt_succ_of_lt kn3) (fun e => (V3.row _ e.symm).2.1 rfl)).trans (((bel_alloc w3 _).cell (p := ⟨w1.heap.size, 5, none⟩) kn3).trans q5); have qf6 := (hgrow6.frozen_far ⟨w1.heap.size, 5, none⟩ (by rw [size_alloc]; exact Nat.lt_succ_of_lt kn3) (fun e => (V3.row _ e.symm).2.1 rfl)).trans (((bel_alloc w3 _).frozen (p := ⟨w1.heap.size, 5, none⟩) kn3).trans qf5))
                  | (go_simp; go_at_call 57; refine EX.mono ?_; rintro e w3 ⟨x, u, j3, bd3, rfl, hL⟩; obtain ⟨k3, t3, n3, m3, a3, ca3, y3, b3, cb3, kk3, rfl⟩ := np_cells hL.tree; have V3 := VD.grown hch hL.by' hL.ps hL.le hL.stay; have q5 := cell_of_row _ _ 5 _ _ _ V3.var; have qf5 := frozen_of_row _ _ 5 _ _ V3.var; simp only [List.getElem?_toArray, List.getElem?_cons_zero, List.getElem?_cons_succ] at q5; have kn3 := (Array.getElem?_eq_some_iff.1 V3.var).1; have qa5 : ∀ O : Obj, (w3.alloc O).cell? ⟨w1.heap.size, 5, none⟩ = w3.cell? ⟨w1.heap.size, 5, none⟩ := (fun O => (bel_alloc w3 O).cell (p := ⟨w1.heap.size, 5, none⟩) kn3)))
              all_goals
                have V9 := VK.app VD hch (Nat.le_refl _) hL hown6 hgrow6 hat6
                generalize w6.setCell ⟨w1.heap.size, 5, none⟩ (.slice (some ⟨g6, 0, none⟩) (ks.length + 1) cp6) = W9 at V9 ⊢
                have hct3 := hL.cnt
                have hst3 := hL.stay
                have hle3 := hL.le
                have hsx := hL.sm
                clear EX hL q5 qf5 qa5
                have hle4 := V4.le
                have hS9 : ∀ y ∈ ks ++ [x], Sm y := fun y hy => (List.mem_append.1 hy).elim (hS y) (fun h => by rw [List.mem_singleton] at h; subst h; exact hsx)
                have hk9 : (ks ++ [x]).length ≤ 9000 := by simp; omega
                have hc9 : bd3 = false → wtL (ks ++ [x]) ≤ 2 * (j3 - i) := fun hb => by have := hct3 hb; have := hct0; rw [wtL_snoc]; omega
                have hd9 : bd3 = false → j < j3 := fun hb => by have := hct3 hb; omega
                have e9 : ks.length + 1 = (ks ++ [x]).length := by simp
                rw [e9] at V9
                clear e9
                go_wp2_with fail
                refine (is_any c la cap L j3 bd3 ⟨#[59]⟩ _ V9.ps).mono ?_
                rintro e w8 ⟨⟨b8, rfl, hb8'⟩, hb8⟩
                dsimp only
                have V8 := V9.grown hch (pg_below hb8) (V9.ps.below hb8) (Nat.le_refl _) (fun h => ⟨h, rfl⟩)
                cases b8
                · go_wp2_with fail
                  go_roundw
                  case rel => exact ⟨_, _, _, _, _, V8, hS9, hk9, hc9⟩
                  case measure =>
                    rw [V8.ps.pm, V.ps.pm]
                    cases bd3
                    · have := hd9 rfl; have := V8.ps.le; simp; omega
                    · simp
                · obtain ⟨rfl, hj⟩ := hb8' rfl
                  have hj4 : j3 < 4000 := by have := V8.ps.len; omega
                  have p1 := V8.ps.c1
                  have pf1 := V8.ps.f 1
                  have V7 := V8.next hch hj
                  go_wp2_with fail
                  go_roundw
                  case rel => exact ⟨_, _, _, _, _, V7, hS9, hk9, fun hb => by have := hc9 hb; omega⟩
                  case measure =>
                    rw [V7.ps.pm, V.ps.pm]
                    have := hd9 rfl; have := V8.ps.le; simp; omega
      · go_wp2_with fail
        go_loopw [4, 6] (fun x y wr => ∃ (b : Bool) (k : Nat), x = .bool b ∧ y = .int .i64 k ∧ k ≤ 5 ∧ Below (w2.alloc (.cells (stS.map Value.string).toArray 9)).heap.size (w2.alloc (.cells (stS.map Value.string).toArray 9)) wr) (fun _ y _ => 5 - (intOf y).toNat)
        case atStart => exact ⟨_, 0, rfl, rfl, by omega, Below.refl _ _⟩
        case round =>
          rename_i wo
          obtain ⟨b, k, rfl, rfl, hk, hbw⟩ := hrel
          have hb4 : Below w2.heap.size w2 wr := (bel_alloc w2 _).trans (hbw.mono (by rw [size_alloc]; omega))
          have V4 := V2.grown hch (pg_below hb4) (V2.ps.below hb4) (Nat.le_refl _) (fun h => ⟨h, rfl⟩)
          by_cases hlt : k < 5
          · cases b
            · obtain ⟨t, ht⟩ : ∃ t, stS[k]? = some t := ⟨_, List.getElem?_eq_getElem (show k < stS.length from hlt)⟩
              have hcell : wr.cell? ⟨w2.heap.size, k, none⟩ = some (.string t) := by
                rw [st_cell hbw k]; simp [ht]
              go_wp2_with fail
              refine (is_any c la cap L j false t _ V4.ps).mono ?_
              rintro e w5 ⟨⟨b5, rfl, _⟩, hb5⟩
              go_wp2_with fail
              go_roundw
              case rel => exact ⟨_, k + 1, rfl, by go_num, by omega, hbw.trans (hb5.mono hbw.size)⟩
              case measure => simp [intOf]; omega
            · go_wp2_with fail
              go_roundw
              case rel => exact ⟨_, k + 1, rfl, by go_num, by omega, hbw⟩
              case measure => simp [intOf]; omega
          · obtain rfl : k = 5 := by omega
            cases b
            · have c0 := cell_of_row _ _ 0 _ _ _ V4.var
              have d0 := cell_of_row _ _ 0 _ _ _ V4.res
              have g0 := frozen_of_row _ _ 0 _ _ V4.res
              have c1 := cell_of_row _ _ 1 _ _ _ V4.var
              have d1 := cell_of_row _ _ 1 _ _ _ V4.res
              have g1 := frozen_of_row _ _ 1 _ _ V4.res
              have c2 := cell_of_row _ _ 2 _ _ _ V4.var
              have d2 := cell_of_row _ _ 2 _ _ _ V4.res
              have g2 := frozen_of_row _ _ 2 _ _ V4.res
              have c3 := cell_of_row _ _ 3 _ _ _ V4.var
              have d3 := cell_of_row _ _ 3 _ _ _ V4.res
              have g3 := frozen_of_row _ _ 3 _ _ V4.res
              have c4 := cell_of_row _ _ 4 _ _ _ V4.var
              have d4 := cell_of_row _ _ 4 _ _ _ V4.res
              have g4 := frozen_of_row _ _ 4 _ _ V4.res
              have c5 := cell_of_row _ _ 5 _ _ _ V4.var
              have d5 := cell_of_row _ _ 5 _ _ _ V4.res
              have g5 := frozen_of_row _ _ 5 _ _ V4.res
              simp only [List.getElem?_toArray, List.getElem?_cons_zero, List.getElem?_cons_succ] at c0 c1 c2 c3 c4 c5 d0 d1 d2 d3 d4 d5
              go_wp2_with fail
              refine bodyPost_ret (v := .agg #[.int .i64 0, .string ⟨#[]⟩, .int .i64 0, .slice none 0 0, .int .i64 z, .slice av ks.length cv]) (by simp [results, Try.results44, go_sem, *]) rfl ⟨_, _, _, _, rfl, VK.left V4 hch (Nat.le_refl _) (by decide) (fun s hs => absurd hs (by simp)) (by simp) hS (fun hb => ?_) _ _ _ _ _ _, VK.free V4 _ _ _ _ _ _⟩
              simpa using hct0
            · have hkn : ks.length ≤ 8000 := by
                have q1 := hct0
                have q2 := len_wtL ks
                have q3 := V.ps.len
                have q4 := V.ps.le
                omega
              have hbad := hst0
              go_wp2_with fail
              have VD := V4.drew hch
              have EX := HS j V.le hbad _ VD.ps
              have n5 := cell_of_row _ _ 5 _ _ _ VD.var
              have nf5 := frozen_of_row _ _ 5 _ _ VD.var
              simp only [List.getElem?_toArray, List.getElem?_cons_zero, List.getElem?_cons_succ] at n5
              go_region_law
                (first
                  | (refine step_append_lies _ rfl _ _ _ rfl _ 27 i0 _ 6 88 Try.underlying25 hi0 hz0 hz1 hz2 rfl (by decide) _ _ _ rfl (V3.kids.own.alloc _) ⟨w3.heap.size, 0, none⟩ 1 1 [.int .i64 k3, .string t3, .int .i64 n3, .slice a3 m3 ca3, .int .i64 y3, .slice b3 kk3 cb3] rfl rfl (node_cells _ _ _ _ rfl) (node_one _ _ _ _ _ _ _ _ _ _) (by decide) (by first | (unfold maxLen; omega) | (simp [maxLen]; done)) (by first | omega | (simp; done)) (by have := V3.hnb; have := V3.hn; simp; omega) _ rfl ?_; intro g6 cp6 w6 hown6 hgrow6 hat6 hlt6; have qn6 := (hgrow6.cell_far ⟨w1.heap.size, 5, none⟩ (by rw [size_alloc]; exact Nat.lt_succ_of_lt kn3) (fun e => (V3.row _ e.symm).2.1 rfl)).trans (((bel_alloc w3 _).cell (p := ⟨w1.heap.size, 5, none⟩) kn3).trans q5); have qf6 := (hgrow6.frozen_far ⟨w1.heap.size, 5, none⟩ (by rw [size_alloc]; exact Nat.lt_succ_of_lt kn3) (fun e => (V3.row _ e.symm).2.1 rfl)).trans (((bel_alloc w3 _).frozen (p := ⟨w1.heap.size, 5, none⟩) kn3).trans qf5))
                  | (go_simp; go_at_call 57; refine EX.mono ?_; rintro e w3 ⟨x, u, j3, bd3, rfl, hL⟩; obtain ⟨k3, t3, n3, m3, a3, ca3, y3, b3, cb3, kk3, rfl⟩ := np_cells hL.tree; have V3 := VD.grown hch hL.by' hL.ps hL.le hL.stay; have q5 := cell_of_row _ _ 5 _ _ _ V3.var; have qf5 := frozen_of_row _ _ 5 _ _ V3.var; simp only [List.getElem?_toArray, List.getElem?_cons_zero, List.getElem?_cons_succ] at q5; have kn3 := (Array.getElem?_eq_some_iff.1 V3.var).1; have qa5 : ∀ O : Obj, (w3.alloc O).cell? ⟨w1.heap.size, 5, none⟩ = w3.cell? ⟨w1.heap.size, 5, none⟩ := (fun O => (bel_alloc w3 O).cell (p := ⟨w1.heap.size, 5, none⟩) kn3)))
              all_goals
                have V9 := VK.app VD hch (Nat.le_refl _) hL hown6 hgrow6 hat6
                generalize w6.setCell ⟨w1.heap.size, 5, none⟩ (.slice (some ⟨g6, 0, none⟩) (ks.length + 1) cp6) = W9 at V9 ⊢
                have hct3 := hL.cnt
                have hst3 := hL.stay
                have hle3 := hL.le
                have hsx := hL.sm
                clear EX hL q5 qf5 qa5
                have hle4 := V4.le
                have hS9 : ∀ y ∈ ks ++ [x], Sm y := fun y hy => (List.mem_append.1 hy).elim (hS y) (fun h => by rw [List.mem_singleton] at h; subst h; exact hsx)
                have hk9 : (ks ++ [x]).length ≤ 9000 := by simp; omega
                have hc9 : bd3 = false → wtL (ks ++ [x]) ≤ 2 * (j3 - i) := fun hb => by have := hct3 hb; have := hct0; rw [wtL_snoc]; omega
                have hd9 : bd3 = false → j < j3 := fun hb => by have := hct3 hb; omega
                have e9 : ks.length + 1 = (ks ++ [x]).length := by simp
                rw [e9] at V9
                clear e9
                go_wp2_with fail
                refine (is_any c la cap L j3 bd3 ⟨#[59]⟩ _ V9.ps).mono ?_
                rintro e w8 ⟨⟨b8, rfl, hb8'⟩, hb8⟩
                dsimp only
                have V8 := V9.grown hch (pg_below hb8) (V9.ps.below hb8) (Nat.le_refl _) (fun h => ⟨h, rfl⟩)
                cases b8
                · go_wp2_with fail
                  go_roundw
                  case rel => exact ⟨_, _, _, _, _, V8, hS9, hk9, hc9⟩
                  case measure =>
                    rw [V8.ps.pm, V.ps.pm]
                    cases bd3
                    · have := hd9 rfl; have := V8.ps.le; simp; omega
                    · simp
                · obtain ⟨rfl, hj⟩ := hb8' rfl
                  have hj4 : j3 < 4000 := by have := V8.ps.len; omega
                  have p1 := V8.ps.c1
                  have pf1 := V8.ps.f 1
                  have V7 := V8.next hch hj
                  go_wp2_with fail
                  go_roundw
                  case rel => exact ⟨_, _, _, _, _, V7, hS9, hk9, fun hb => by have := hc9 hb; omega⟩
                  case measure =>
                    rw [V7.ps.pm, V.ps.pm]
                    have := hd9 rfl; have := V8.ps.le; simp; omega
    · have c0 := cell_of_row _ _ 0 _ _ _ V.var
      have d0 := cell_of_row _ _ 0 _ _ _ V.res
      have g0 := frozen_of_row _ _ 0 _ _ V.res
      have c1 := cell_of_row _ _ 1 _ _ _ V.var
      have d1 := cell_of_row _ _ 1 _ _ _ V.res
      have g1 := frozen_of_row _ _ 1 _ _ V.res
      have c2 := cell_of_row _ _ 2 _ _ _ V.var
      have d2 := cell_of_row _ _ 2 _ _ _ V.res
      have g2 := frozen_of_row _ _ 2 _ _ V.res
      have c3 := cell_of_row _ _ 3 _ _ _ V.var
      have d3 := cell_of_row _ _ 3 _ _ _ V.res
      have g3 := frozen_of_row _ _ 3 _ _ V.res
      have c4 := cell_of_row _ _ 4 _ _ _ V.var
      have d4 := cell_of_row _ _ 4 _ _ _ V.res
      have g4 := frozen_of_row _ _ 4 _ _ V.res
      have c5 := cell_of_row _ _ 5 _ _ _ V.var
      have d5 := cell_of_row _ _ 5 _ _ _ V.res
      have g5 := frozen_of_row _ _ 5 _ _ V.res
      simp only [List.getElem?_toArray, List.getElem?_cons_zero, List.getElem?_cons_succ] at c0 c1 c2 c3 c4 c5 d0 d1 d2 d3 d4 d5
      go_wp2_with fail
      refine bodyPost_ret (v := .agg #[.int .i64 0, .string ⟨#[]⟩, .int .i64 0, .slice none 0 0, .int .i64 z, .slice av ks.length cv]) (by simp [results, Try.results44, go_sem, *]) rfl ⟨_, _, _, _, rfl, VK.left V hch (Nat.le_refl _) (by decide) (fun s hs => absurd hs (by simp)) (by simp) hS (fun hb => ?_) _ _ _ _ _ _, VK.free V _ _ _ _ _ _⟩
      cases hb
theorem block_any (c : Nat) (la : Option Addr) (cap : Nat) (L : List Tk) (i : Nat) (bad : Bool) (w : World) (h : PS w c la cap L i bad)
    (HS : ∀ j, i ≤ j → bad = false → StatOk c la cap L j false) :
    Reads 44 #[.pointer (some ⟨c, 0, none⟩)] w w.heap.size c la cap L i bad 0 0 :=
  (block_root c la cap L i bad w h HS).mono fun _ _ ⟨t, v, i', bad', he, hL, _⟩ => ⟨t, v, i', bad', he, hL⟩
end Go.Proofs.Ytlmmomffanakiaa
