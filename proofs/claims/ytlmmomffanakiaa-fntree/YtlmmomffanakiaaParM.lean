/- A single expression, as the reader takes it. -/
import Derived.Test.YtlmmomffanakiaaParL
import Derived.Test.YtlmmomffanakiaaParG
namespace Go.Proofs.Ytlmmomffanakiaa
open Go.RowKit

def sgW : List ByteArray := [⟨#[110, 105, 108]⟩, ⟨#[116, 114, 117, 101]⟩, ⟨#[102, 97, 108, 115, 101]⟩]
theorem VK.put {w wr : World} {h nb K c : Nat} {la : Option Addr} {cap : Nat} {L : List Tk} {i : Nat} {bad : Bool} {x0 x1 x2 x4 : Value} {ns : List ByteArray} {an : Option Addr} {cn : Nat} {ks : List Nd} {vs : List (List Value)} {v : Value} {j : Nat} {bd : Bool} (V : VK w wr h nb K c la cap L i bad x0 x1 x2 x4 ns an cn ks vs v j bd) (hc : c < h) (hwh : w.heap.size ≤ h) (m : Nat) (y : Value) {y0 y1 y2 y4 : Value} (hy : (#[x0, x1, x2, .slice an ns.length cn, x4, v] : Array Value).setIfInBounds m y = #[y0, y1, y2, .slice an ns.length cn, y4, v]) :
    VK w (wr.setCell ⟨nb, m, none⟩ y) h nb K c la cap L i bad y0 y1 y2 y4 ns an cn ks vs v j bd :=
  have hn := V.hn
  have hv := heap_setCell_same wr nb m _ _ y V.var
  { hn := hn, hnb := by rw [World.size_setCell]; exact V.hnb, hKs := by rw [World.size_setCell]; exact V.hKs, res := (heap_setCell_other wr ⟨nb, m, none⟩ h _ (by show h ≠ nb; omega)).trans V.res, var := by rw [hv, hy], kids := krow_set V.kids nb m y (fun e => (V.row _ e).2.1 rfl) (fun g hg => hg.2), row := V.row, names := V.names.later (fun _ h => h) (fun p hp => World.cell?_of_block (heap_setCell_other wr ⟨nb, m, none⟩ p.block _ (by exact hp.2.2))), ps := one_ps V.ps nb m (by omega) y, le := V.le, stay := V.stay, by' := one_grown V.by' nb m (by omega) y }

theorem Left.drew {w w' : World} {lo c : Nat} {la : Option Addr} {cap : Nat} {L : List Tk} {i : Nat} {bad : Bool} {k d0 : Nat} {t : Nd} {v : List Value} {i' : Nat} {bad' : Bool} (h : Left w w' lo c la cap L i bad k d0 t v i' bad') : Left w w'.drew lo c la cap L i bad k d0 t v i' bad' :=
  { tree := NP.later (w := w') (w' := w'.drew) (fun _ h => h) (fun _ _ => rfl) h.tree, sm := h.sm, ps := h.ps.drew, le := h.le, stay := h.stay, cnt := h.cnt, by' := pg_drew h.by' }
theorem VK.rs {w wr : World} {h nb K c : Nat} {la : Option Addr} {cap : Nat} {L : List Tk} {i : Nat} {bad : Bool} {x0 x1 x2 x4 : Value} {ns : List ByteArray} {an : Option Addr} {cn : Nat} {ks : List Nd} {vs : List (List Value)} {v : Value} {j : Nat} {bd : Bool} (V : VK w wr h nb K c la cap L i bad x0 x1 x2 x4 ns an cn ks vs v j bd) : RS w wr h c la cap L i bad j bd := ⟨V.res, V.ps, V.le, V.stay, V.by'⟩
/-- What a call answers is what the function answers. -/
theorem RS.pass {w wr w3 : World} {h c : Nat} {la : Option Addr} {cap : Nat} {L : List Tk} {i : Nat} {bad : Bool} {j j3 : Nat} {bd bd3 : Bool} {k k' : Nat} {x : Nd} {u : List Value} (R : RS w wr h c la cap L i bad j bd) (hc : c < h) (hwh : w.heap.size ≤ h) (hL : Left wr w3 wr.heap.size c la cap L j bd k 0 x u j3 bd3) (hk : k' ≤ k + 2 * (j - i)) (a0 a1 a2 a3 a4 a5 : Value) :
    Left w ((((((w3.setCell ⟨h, 0, none⟩ a0).setCell ⟨h, 1, none⟩ a1).setCell ⟨h, 2, none⟩ a2).setCell ⟨h, 3, none⟩ a3).setCell ⟨h, 4, none⟩ a4).setCell ⟨h, 5, none⟩ a5) w.heap.size c la cap L i bad k' 0 x u j3 bd3 :=
  have hh := (Array.getElem?_eq_some_iff.1 R.res).1
  have hle := R.le
  have hle3 := hL.le
  { tree := hL.tree.later (fun g hg => ⟨by have := hg.1; omega, by rw [six_size]; exact hg.2⟩) (fun p hp => six_other w3 h _ _ _ _ _ _ p (by have := hp.1; omega)), sm := hL.sm, ps := six_ps hL.ps h hc _ _ _ _ _ _, le := Nat.le_trans R.le hL.le, stay := fun hb => by
      obtain ⟨q1, q2⟩ := R.stay hb
      obtain ⟨q3, q4⟩ := hL.stay q1
      exact ⟨q3, by omega⟩, cnt := fun hb => by have := hL.cnt hb; omega, by' := six_grown (pg_trans R.by' hL.by') h hwh _ _ _ _ _ _ }

set_option maxRecDepth 100000 in
set_option maxHeartbeats 12800000 in
theorem single_any (c : Nat) (la : Option Addr) (cap : Nat) (L : List Tk) (i : Nat) (bad : Bool) (w : World) (h : PS w c la cap L i bad)
    (HE : bad = false → ∀ j bd, (bd = true ∨ i < j) → ExpOk 0 c la cap L j bd) (HF : bad = false → ∀ j bd, (bd = true ∨ i < j) → FuncOk c la cap L j bd) :
    Reads 75 #[.pointer (some ⟨c, 0, none⟩)] w w.heap.size c la cap L i bad 2 0 := by
  have hch := h.lt
  unfold Reads
  go_enter Try.func75, Try.ntmps75
  go_wp2_with fail
  have R0 := RS.start h
  refine (line_any c la cap L i bad _ R0.ps).mono ?_
  rintro e w1 ⟨⟨z, rfl⟩, hb1⟩
  have R1 := R0.below hch hb1
  have V1 := R1.var (.int .i64 0) (.string ⟨#[]⟩) (.int .i64 0) (.int .i64 z)
  go_wp2_with fail
  go_loopw [5] (fun x wr => ∃ k : Nat, x = .int .i64 k ∧ k ≤ 3 ∧ Below ((w1.alloc (.cells #[.int .i64 0, .string ⟨#[]⟩, .int .i64 0, .slice none 0 0, .int .i64 z, .slice none 0 0] 27)).alloc (.cells (sgW.map Value.string).toArray 9)).heap.size ((w1.alloc (.cells #[.int .i64 0, .string ⟨#[]⟩, .int .i64 0, .slice none 0 0, .int .i64 z, .slice none 0 0] 27)).alloc (.cells (sgW.map Value.string).toArray 9)) wr) (fun x _ => 3 - (intOf x).toNat)
  case atStart => exact ⟨0, rfl, by omega, Below.refl _ _⟩
  case round =>
    obtain ⟨k, rfl, hk, hbw⟩ := hrel
    have hb4 : Below (w1.alloc (.cells #[.int .i64 0, .string ⟨#[]⟩, .int .i64 0, .slice none 0 0, .int .i64 z, .slice none 0 0] 27)).heap.size (w1.alloc (.cells #[.int .i64 0, .string ⟨#[]⟩, .int .i64 0, .slice none 0 0, .int .i64 z, .slice none 0 0] 27)) wr := (bel_alloc (w1.alloc (.cells #[.int .i64 0, .string ⟨#[]⟩, .int .i64 0, .slice none 0 0, .int .i64 z, .slice none 0 0] 27)) _).trans (hbw.mono (by rw [size_alloc _ (.cells (sgW.map Value.string).toArray 9)]; omega))
    have V4 := V1.grown hch (pg_below hb4) (V1.ps.below hb4) (Nat.le_refl _) (fun h => ⟨h, rfl⟩)
    by_cases hlt : k < 3
    · obtain ⟨t, ht⟩ : ∃ t, sgW[k]? = some t := ⟨_, List.getElem?_eq_getElem (show k < sgW.length from hlt)⟩
      have hcell : wr.cell? ⟨w1.heap.size + 1, k, none⟩ = some (.string t) := by
        have e1 := st_cell hbw k
        rw [size_alloc] at e1
        rw [e1]; simp [ht]
      go_wp2_with fail
      refine (is_any c la cap L i bad t _ V4.ps).mono ?_
      rintro e w5 ⟨⟨b5, rfl, hb5'⟩, hb5⟩
      cases b5
      · go_wp2_with fail
        go_roundw
        case rel => exact ⟨k + 1, by go_num, by omega, hbw.trans (hb5.mono hbw.size)⟩
        case measure => simp [intOf]; omega
      · obtain ⟨rfl, hi⟩ := hb5' rfl
        have V5 := V4.grown hch (pg_below hb5) (V4.ps.below hb5) (Nat.le_refl _) (fun h => ⟨h, rfl⟩)
        have hi4 : i < 4000 := by have := V5.ps.len; omega
        have p1 := V5.ps.c1
        have pf1 := V5.ps.f 1
        have V6 := V5.next hch hi
        obtain rfl | rfl | rfl : k = 0 ∨ k = 1 ∨ k = 2 := by omega
        · have V7 := V6.put hch (Nat.le_refl _) 0 (.int .i64 9) (y0 := .int .i64 9) rfl
          have c0 := cell_of_row _ _ 0 _ _ _ V5.var
          have cf0 := frozen_of_row _ _ 0 _ _ V5.var
          have d0 := cell_of_row _ _ 0 _ _ _ V5.res
          have g0 := frozen_of_row _ _ 0 _ _ V5.res
          have c1 := cell_of_row _ _ 1 _ _ _ V5.var
          have cf1 := frozen_of_row _ _ 1 _ _ V5.var
          have d1 := cell_of_row _ _ 1 _ _ _ V5.res
          have g1 := frozen_of_row _ _ 1 _ _ V5.res
          have c2 := cell_of_row _ _ 2 _ _ _ V5.var
          have cf2 := frozen_of_row _ _ 2 _ _ V5.var
          have d2 := cell_of_row _ _ 2 _ _ _ V5.res
          have g2 := frozen_of_row _ _ 2 _ _ V5.res
          have c3 := cell_of_row _ _ 3 _ _ _ V5.var
          have cf3 := frozen_of_row _ _ 3 _ _ V5.var
          have d3 := cell_of_row _ _ 3 _ _ _ V5.res
          have g3 := frozen_of_row _ _ 3 _ _ V5.res
          have c4 := cell_of_row _ _ 4 _ _ _ V5.var
          have cf4 := frozen_of_row _ _ 4 _ _ V5.var
          have d4 := cell_of_row _ _ 4 _ _ _ V5.res
          have g4 := frozen_of_row _ _ 4 _ _ V5.res
          have c5 := cell_of_row _ _ 5 _ _ _ V5.var
          have cf5 := frozen_of_row _ _ 5 _ _ V5.var
          have d5 := cell_of_row _ _ 5 _ _ _ V5.res
          have g5 := frozen_of_row _ _ 5 _ _ V5.res
          simp only [List.getElem?_toArray, List.getElem?_cons_zero, List.getElem?_cons_succ, List.length_nil] at c0 c1 c2 c3 c4 c5 d0 d1 d2 d3 d4 d5
          have e1 : w1.heap.size ≠ w.heap.size := by have := V5.hn; omega
          have e2 : w.heap.size ≠ w1.heap.size := e1.symm
          have e3 : c ≠ w.heap.size := by omega
          have e4 : w.heap.size ≠ c := e3.symm
          have e5 : c ≠ w1.heap.size := by have := V5.hn; omega
          have e6 : w1.heap.size ≠ c := e5.symm
          go_wp2_with fail
          refine bodyPost_ret (v := .agg #[.int .i64 9, .string ⟨#[]⟩, .int .i64 0, .slice none 0 0, .int .i64 z, .slice none 0 0]) (by simp [results, Try.results75, go_sem, *]) rfl ⟨_, [.int .i64 9, .string ⟨#[]⟩, .int .i64 0, .slice none 0 0, .int .i64 z, .slice none 0 0], _, _, rfl, (VK.left V7 hch (Nat.le_refl _) (by decide) (fun s hs => absurd hs (by simp)) (by simp) (fun y hy => absurd hy (by simp)) (fun hb => ?_) _ _ _ _ _ _)⟩
          first | (simp [wtL]; done) | (simp [wtL]; omega)
        · have V7 := V6.put hch (Nat.le_refl _) 0 (.int .i64 10) (y0 := .int .i64 10) rfl
          have c0 := cell_of_row _ _ 0 _ _ _ V5.var
          have cf0 := frozen_of_row _ _ 0 _ _ V5.var
          have d0 := cell_of_row _ _ 0 _ _ _ V5.res
          have g0 := frozen_of_row _ _ 0 _ _ V5.res
          have c1 := cell_of_row _ _ 1 _ _ _ V5.var
          have cf1 := frozen_of_row _ _ 1 _ _ V5.var
          have d1 := cell_of_row _ _ 1 _ _ _ V5.res
          have g1 := frozen_of_row _ _ 1 _ _ V5.res
          have c2 := cell_of_row _ _ 2 _ _ _ V5.var
          have cf2 := frozen_of_row _ _ 2 _ _ V5.var
          have d2 := cell_of_row _ _ 2 _ _ _ V5.res
          have g2 := frozen_of_row _ _ 2 _ _ V5.res
          have c3 := cell_of_row _ _ 3 _ _ _ V5.var
          have cf3 := frozen_of_row _ _ 3 _ _ V5.var
          have d3 := cell_of_row _ _ 3 _ _ _ V5.res
          have g3 := frozen_of_row _ _ 3 _ _ V5.res
          have c4 := cell_of_row _ _ 4 _ _ _ V5.var
          have cf4 := frozen_of_row _ _ 4 _ _ V5.var
          have d4 := cell_of_row _ _ 4 _ _ _ V5.res
          have g4 := frozen_of_row _ _ 4 _ _ V5.res
          have c5 := cell_of_row _ _ 5 _ _ _ V5.var
          have cf5 := frozen_of_row _ _ 5 _ _ V5.var
          have d5 := cell_of_row _ _ 5 _ _ _ V5.res
          have g5 := frozen_of_row _ _ 5 _ _ V5.res
          simp only [List.getElem?_toArray, List.getElem?_cons_zero, List.getElem?_cons_succ, List.length_nil] at c0 c1 c2 c3 c4 c5 d0 d1 d2 d3 d4 d5
          have e1 : w1.heap.size ≠ w.heap.size := by have := V5.hn; omega
          have e2 : w.heap.size ≠ w1.heap.size := e1.symm
          have e3 : c ≠ w.heap.size := by omega
          have e4 : w.heap.size ≠ c := e3.symm
          have e5 : c ≠ w1.heap.size := by have := V5.hn; omega
          have e6 : w1.heap.size ≠ c := e5.symm
          go_wp2_with fail
          refine bodyPost_ret (v := .agg #[.int .i64 10, .string ⟨#[]⟩, .int .i64 0, .slice none 0 0, .int .i64 z, .slice none 0 0]) (by simp [results, Try.results75, go_sem, *]) rfl ⟨_, [.int .i64 10, .string ⟨#[]⟩, .int .i64 0, .slice none 0 0, .int .i64 z, .slice none 0 0], _, _, rfl, (VK.left V7 hch (Nat.le_refl _) (by decide) (fun s hs => absurd hs (by simp)) (by simp) (fun y hy => absurd hy (by simp)) (fun hb => ?_) _ _ _ _ _ _)⟩
          first | (simp [wtL]; done) | (simp [wtL]; omega)
        · have V7 := V6.put hch (Nat.le_refl _) 0 (.int .i64 11) (y0 := .int .i64 11) rfl
          have c0 := cell_of_row _ _ 0 _ _ _ V5.var
          have cf0 := frozen_of_row _ _ 0 _ _ V5.var
          have d0 := cell_of_row _ _ 0 _ _ _ V5.res
          have g0 := frozen_of_row _ _ 0 _ _ V5.res
          have c1 := cell_of_row _ _ 1 _ _ _ V5.var
          have cf1 := frozen_of_row _ _ 1 _ _ V5.var
          have d1 := cell_of_row _ _ 1 _ _ _ V5.res
          have g1 := frozen_of_row _ _ 1 _ _ V5.res
          have c2 := cell_of_row _ _ 2 _ _ _ V5.var
          have cf2 := frozen_of_row _ _ 2 _ _ V5.var
          have d2 := cell_of_row _ _ 2 _ _ _ V5.res
          have g2 := frozen_of_row _ _ 2 _ _ V5.res
          have c3 := cell_of_row _ _ 3 _ _ _ V5.var
          have cf3 := frozen_of_row _ _ 3 _ _ V5.var
          have d3 := cell_of_row _ _ 3 _ _ _ V5.res
          have g3 := frozen_of_row _ _ 3 _ _ V5.res
          have c4 := cell_of_row _ _ 4 _ _ _ V5.var
          have cf4 := frozen_of_row _ _ 4 _ _ V5.var
          have d4 := cell_of_row _ _ 4 _ _ _ V5.res
          have g4 := frozen_of_row _ _ 4 _ _ V5.res
          have c5 := cell_of_row _ _ 5 _ _ _ V5.var
          have cf5 := frozen_of_row _ _ 5 _ _ V5.var
          have d5 := cell_of_row _ _ 5 _ _ _ V5.res
          have g5 := frozen_of_row _ _ 5 _ _ V5.res
          simp only [List.getElem?_toArray, List.getElem?_cons_zero, List.getElem?_cons_succ, List.length_nil] at c0 c1 c2 c3 c4 c5 d0 d1 d2 d3 d4 d5
          have e1 : w1.heap.size ≠ w.heap.size := by have := V5.hn; omega
          have e2 : w.heap.size ≠ w1.heap.size := e1.symm
          have e3 : c ≠ w.heap.size := by omega
          have e4 : w.heap.size ≠ c := e3.symm
          have e5 : c ≠ w1.heap.size := by have := V5.hn; omega
          have e6 : w1.heap.size ≠ c := e5.symm
          go_wp2_with fail
          refine bodyPost_ret (v := .agg #[.int .i64 11, .string ⟨#[]⟩, .int .i64 0, .slice none 0 0, .int .i64 z, .slice none 0 0]) (by simp [results, Try.results75, go_sem, *]) rfl ⟨_, [.int .i64 11, .string ⟨#[]⟩, .int .i64 0, .slice none 0 0, .int .i64 z, .slice none 0 0], _, _, rfl, (VK.left V7 hch (Nat.le_refl _) (by decide) (fun s hs => absurd hs (by simp)) (by simp) (fun y hy => absurd hy (by simp)) (fun hb => ?_) _ _ _ _ _ _)⟩
          first | (simp [wtL]; done) | (simp [wtL]; omega)
    · obtain rfl : k = 3 := by omega
      clear V1 hb4 hbw
      go_wp2_with fail
      refine (kind_any c la cap L i bad 1 _ V4.ps).mono ?_
      rintro e w5 ⟨⟨b5, rfl, hb5'⟩, hb5⟩
      have V5 := V4.grown hch (pg_below hb5) (V4.ps.below hb5) (Nat.le_refl _) (fun h => ⟨h, rfl⟩)
      cases b5
      · go_wp2_with fail
        refine (kind_any c la cap L i bad 2 _ V5.ps).mono ?_
        rintro e w6 ⟨⟨b6, rfl, hb6'⟩, hb6⟩
        have V6 := V5.grown hch (pg_below hb6) (V5.ps.below hb6) (Nat.le_refl _) (fun h => ⟨h, rfl⟩)
        cases b6
        · go_wp2_with fail
          refine (is_any c la cap L i bad ⟨#[123]⟩ _ V6.ps).mono ?_
          rintro e w7 ⟨⟨b7, rfl, hb7'⟩, hb7⟩
          have V7 := V6.grown hch (pg_below hb7) (V6.ps.below hb7) (Nat.le_refl _) (fun h => ⟨h, rfl⟩)
          cases b7
          · go_wp2_with fail
            refine (is_any c la cap L i bad ⟨#[102, 117, 110, 99, 116, 105, 111, 110]⟩ _ V7.ps).mono ?_
            rintro e w8 ⟨⟨b8, rfl, hb8'⟩, hb8⟩
            have V8 := V7.grown hch (pg_below hb8) (V7.ps.below hb8) (Nat.le_refl _) (fun h => ⟨h, rfl⟩)
            cases b8
            · go_wp2_with fail
              refine (prefix_any c la cap L i bad _ V8.ps HE).mono ?_
              rintro e w3 ⟨x, u, j3, bd3, rfl, hL⟩
              obtain ⟨k3, t3, n3, m3, a3, ca3, y3, b3, cb3, kk3, rfl⟩ := np_cells hL.tree
              have R3 := V8.rs.grown hch hL.by' hL.ps hL.le hL.stay
              have d0 := cell_of_row _ _ 0 _ _ _ R3.res
              have g0 := frozen_of_row _ _ 0 _ _ R3.res
              have d1 := cell_of_row _ _ 1 _ _ _ R3.res
              have g1 := frozen_of_row _ _ 1 _ _ R3.res
              have d2 := cell_of_row _ _ 2 _ _ _ R3.res
              have g2 := frozen_of_row _ _ 2 _ _ R3.res
              have d3 := cell_of_row _ _ 3 _ _ _ R3.res
              have g3 := frozen_of_row _ _ 3 _ _ R3.res
              have d4 := cell_of_row _ _ 4 _ _ _ R3.res
              have g4 := frozen_of_row _ _ 4 _ _ R3.res
              have d5 := cell_of_row _ _ 5 _ _ _ R3.res
              have g5 := frozen_of_row _ _ 5 _ _ R3.res
              simp only [List.getElem?_toArray, List.getElem?_cons_zero, List.getElem?_cons_succ] at d0 d1 d2 d3 d4 d5
              go_wp2_with fail
              refine bodyPost_ret (v := .agg #[.int .i64 k3, .string t3, .int .i64 n3, .slice a3 m3 ca3, .int .i64 y3, .slice b3 kk3 cb3]) (by simp [results, Try.results75, go_sem, *]) rfl ⟨_, [.int .i64 k3, .string t3, .int .i64 n3, .slice a3 m3 ca3, .int .i64 y3, .slice b3 kk3 cb3], _, _, rfl, RS.pass V8.rs hch (Nat.le_refl _) hL (by omega) _ _ _ _ _ _⟩
            · obtain ⟨rfl, hi⟩ := hb8' rfl
              have hi4 : i < 4000 := by have := V8.ps.len; omega
              have p1 := V8.ps.c1
              have pf1 := V8.ps.f 1
              have V9 := V8.next hch hi
              have z4 := cell_of_row _ _ 4 _ _ _ V9.var
              simp only [List.getElem?_toArray, List.getElem?_cons_zero, List.getElem?_cons_succ] at z4
              go_wp2_with fail
              refine (HF (by first | rfl | trivial) (i + 1) false (Or.inr (by omega)) z _ V9.ps).mono ?_
              rintro e w3 ⟨x, u, j3, bd3, rfl, hL⟩
              obtain ⟨k3, t3, n3, m3, a3, ca3, y3, b3, cb3, kk3, rfl⟩ := np_cells hL.tree
              have R3 := V9.rs.grown hch hL.by' hL.ps hL.le hL.stay
              have d0 := cell_of_row _ _ 0 _ _ _ R3.res
              have g0 := frozen_of_row _ _ 0 _ _ R3.res
              have d1 := cell_of_row _ _ 1 _ _ _ R3.res
              have g1 := frozen_of_row _ _ 1 _ _ R3.res
              have d2 := cell_of_row _ _ 2 _ _ _ R3.res
              have g2 := frozen_of_row _ _ 2 _ _ R3.res
              have d3 := cell_of_row _ _ 3 _ _ _ R3.res
              have g3 := frozen_of_row _ _ 3 _ _ R3.res
              have d4 := cell_of_row _ _ 4 _ _ _ R3.res
              have g4 := frozen_of_row _ _ 4 _ _ R3.res
              have d5 := cell_of_row _ _ 5 _ _ _ R3.res
              have g5 := frozen_of_row _ _ 5 _ _ R3.res
              simp only [List.getElem?_toArray, List.getElem?_cons_zero, List.getElem?_cons_succ] at d0 d1 d2 d3 d4 d5
              go_wp2_with fail
              refine bodyPost_ret (v := .agg #[.int .i64 k3, .string t3, .int .i64 n3, .slice a3 m3 ca3, .int .i64 y3, .slice b3 kk3 cb3]) (by simp [results, Try.results75, go_sem, *]) rfl ⟨_, [.int .i64 k3, .string t3, .int .i64 n3, .slice a3 m3 ca3, .int .i64 y3, .slice b3 kk3 cb3], _, _, rfl, RS.pass V9.rs hch (Nat.le_refl _) hL (by omega) _ _ _ _ _ _⟩
          · obtain ⟨rfl, hi⟩ := hb7' rfl
            have hi4 : i < 4000 := by have := V7.ps.len; omega
            have p1 := V7.ps.c1
            have pf1 := V7.ps.f 1
            have V8 := V7.next hch hi
            have f0 := frozen_of_row _ _ 0 _ _ V8.var
            have s0 := cell_of_row _ _ 0 _ _ _ V7.var
            have s1 := cell_of_row _ _ 0 _ _ _ V8.var
            simp only [List.getElem?_toArray, List.getElem?_cons_zero] at s0 s1
            have V9 := V8.put hch (Nat.le_refl _) 0 (.int .i64 15) (y0 := .int .i64 15) rfl
            go_wp2_with fail
            refine (take_any c la cap L (i + 1) false ⟨#[125]⟩ _ V9.ps).mono ?_
            rintro e w8 ⟨rfl, j8, bd8, h8, ht8, hg8⟩
            have V10 := V9.grown hch hg8 h8 (took_le ht8).1 (took_le ht8).2
            have hle8 := (took_le ht8).1
            have c0 := cell_of_row _ _ 0 _ _ _ V10.var
            have d0 := cell_of_row _ _ 0 _ _ _ V10.res
            have g0 := frozen_of_row _ _ 0 _ _ V10.res
            have c1 := cell_of_row _ _ 1 _ _ _ V10.var
            have d1 := cell_of_row _ _ 1 _ _ _ V10.res
            have g1 := frozen_of_row _ _ 1 _ _ V10.res
            have c2 := cell_of_row _ _ 2 _ _ _ V10.var
            have d2 := cell_of_row _ _ 2 _ _ _ V10.res
            have g2 := frozen_of_row _ _ 2 _ _ V10.res
            have c3 := cell_of_row _ _ 3 _ _ _ V10.var
            have d3 := cell_of_row _ _ 3 _ _ _ V10.res
            have g3 := frozen_of_row _ _ 3 _ _ V10.res
            have c4 := cell_of_row _ _ 4 _ _ _ V10.var
            have d4 := cell_of_row _ _ 4 _ _ _ V10.res
            have g4 := frozen_of_row _ _ 4 _ _ V10.res
            have c5 := cell_of_row _ _ 5 _ _ _ V10.var
            have d5 := cell_of_row _ _ 5 _ _ _ V10.res
            have g5 := frozen_of_row _ _ 5 _ _ V10.res
            simp only [List.getElem?_toArray, List.getElem?_cons_zero, List.getElem?_cons_succ] at c0 c1 c2 c3 c4 c5 d0 d1 d2 d3 d4 d5
            go_wp2_with fail
            refine bodyPost_ret (v := .agg #[.int .i64 15, .string ⟨#[]⟩, .int .i64 0, .slice none 0 0, .int .i64 z, .slice none 0 0]) (by simp [results, Try.results75, go_sem, *]) rfl ⟨_, _, _, _, rfl, VK.left V10 hch (Nat.le_refl _) (by decide) (fun s hs => absurd hs (by simp)) (by simp) (fun y hy => absurd hy (by simp)) (fun hb => ?_) _ _ _ _ _ _⟩
            first | (simp [wtL]; omega) | simp [wtL]
        · obtain ⟨rfl, hi⟩ := hb6' rfl
          have hi4 : i < 4000 := by have := V6.ps.len; omega
          have VA := V6.put hch (Nat.le_refl _) 0 (.int .i64 13) (y0 := .int .i64 13) rfl
          obtain ⟨g, rfl, hg, hc⟩ := V6.ps.toks i hi
          have x2 := hc 1 (by decide)
          simp only [Tk.cells, List.getElem?_cons_zero, List.getElem?_cons_succ] at x2
          have hx := V6.ps.txt _ (List.getElem_mem hi)
          have m4 : i * 4 = 4 * i := Nat.mul_comm _ _
          have q0 := V6.ps.c0
          have q1 := V6.ps.c1
          have qf := V6.ps.f 1
          have ec1 : g ≠ c := by omega
          have ec2 : g ≠ w1.heap.size := by have := V6.hn; omega
          have ec3 : g ≠ w.heap.size := by have := V6.hn; omega
          clear hc
          generalize L[i] = t at *
          have VB := VA.put hch (Nat.le_refl _) 1 (.string t.text) (y1 := .string t.text) rfl
          have VC := VB.next hch hi
          have c0 := cell_of_row _ _ 0 _ _ _ V6.var
          have cf0 := frozen_of_row _ _ 0 _ _ V6.var
          have d0 := cell_of_row _ _ 0 _ _ _ V6.res
          have g0 := frozen_of_row _ _ 0 _ _ V6.res
          have c1 := cell_of_row _ _ 1 _ _ _ V6.var
          have cf1 := frozen_of_row _ _ 1 _ _ V6.var
          have d1 := cell_of_row _ _ 1 _ _ _ V6.res
          have g1 := frozen_of_row _ _ 1 _ _ V6.res
          have c2 := cell_of_row _ _ 2 _ _ _ V6.var
          have cf2 := frozen_of_row _ _ 2 _ _ V6.var
          have d2 := cell_of_row _ _ 2 _ _ _ V6.res
          have g2 := frozen_of_row _ _ 2 _ _ V6.res
          have c3 := cell_of_row _ _ 3 _ _ _ V6.var
          have cf3 := frozen_of_row _ _ 3 _ _ V6.var
          have d3 := cell_of_row _ _ 3 _ _ _ V6.res
          have g3 := frozen_of_row _ _ 3 _ _ V6.res
          have c4 := cell_of_row _ _ 4 _ _ _ V6.var
          have cf4 := frozen_of_row _ _ 4 _ _ V6.var
          have d4 := cell_of_row _ _ 4 _ _ _ V6.res
          have g4 := frozen_of_row _ _ 4 _ _ V6.res
          have c5 := cell_of_row _ _ 5 _ _ _ V6.var
          have cf5 := frozen_of_row _ _ 5 _ _ V6.var
          have d5 := cell_of_row _ _ 5 _ _ _ V6.res
          have g5 := frozen_of_row _ _ 5 _ _ V6.res
          simp only [List.getElem?_toArray, List.getElem?_cons_zero, List.getElem?_cons_succ, List.length_nil] at c0 c1 c2 c3 c4 c5 d0 d1 d2 d3 d4 d5
          have e1 : w1.heap.size ≠ w.heap.size := by have := V6.hn; omega
          have e2 : w.heap.size ≠ w1.heap.size := e1.symm
          have e3 : c ≠ w.heap.size := by omega
          have e4 : w.heap.size ≠ c := e3.symm
          have e5 : c ≠ w1.heap.size := by have := V6.hn; omega
          have e6 : w1.heap.size ≠ c := e5.symm
          go_wp2_with fail
          go_region
          go_wp2_with fail
          refine bodyPost_ret (v := .agg #[.int .i64 13, .string t.text, .int .i64 0, .slice none 0 0, .int .i64 z, .slice none 0 0]) (by simp [results, Try.results75, go_sem, *]) rfl ⟨_, [.int .i64 13, .string t.text, .int .i64 0, .slice none 0 0, .int .i64 z, .slice none 0 0], _, _, rfl, Left.drew (VK.left VC hch (Nat.le_refl _) ⟨hx.1, by decide⟩ (fun s hs => absurd hs (by simp)) (by simp) (fun y hy => absurd hy (by simp)) (fun hb => ?_) _ _ _ _ _ _)⟩
          first | (simp [wtL]; done) | (simp [wtL]; omega)
      · obtain ⟨rfl, hi⟩ := hb5' rfl
        have hi4 : i < 4000 := by have := V5.ps.len; omega
        have VA := V5.put hch (Nat.le_refl _) 0 (.int .i64 12) (y0 := .int .i64 12) rfl
        obtain ⟨g, rfl, hg, hc⟩ := V5.ps.toks i hi
        have x2 := hc 2 (by decide)
        simp only [Tk.cells, List.getElem?_cons_zero, List.getElem?_cons_succ] at x2
        have hx := V5.ps.txt _ (List.getElem_mem hi)
        have m4 : i * 4 = 4 * i := Nat.mul_comm _ _
        have q0 := V5.ps.c0
        have q1 := V5.ps.c1
        have qf := V5.ps.f 1
        have ec1 : g ≠ c := by omega
        have ec2 : g ≠ w1.heap.size := by have := V5.hn; omega
        have ec3 : g ≠ w.heap.size := by have := V5.hn; omega
        clear hc
        generalize L[i] = t at *
        have VB := VA.put hch (Nat.le_refl _) 2 (.int .i64 t.n) (y2 := .int .i64 t.n) rfl
        have VC := VB.next hch hi
        have c0 := cell_of_row _ _ 0 _ _ _ V5.var
        have cf0 := frozen_of_row _ _ 0 _ _ V5.var
        have d0 := cell_of_row _ _ 0 _ _ _ V5.res
        have g0 := frozen_of_row _ _ 0 _ _ V5.res
        have c1 := cell_of_row _ _ 1 _ _ _ V5.var
        have cf1 := frozen_of_row _ _ 1 _ _ V5.var
        have d1 := cell_of_row _ _ 1 _ _ _ V5.res
        have g1 := frozen_of_row _ _ 1 _ _ V5.res
        have c2 := cell_of_row _ _ 2 _ _ _ V5.var
        have cf2 := frozen_of_row _ _ 2 _ _ V5.var
        have d2 := cell_of_row _ _ 2 _ _ _ V5.res
        have g2 := frozen_of_row _ _ 2 _ _ V5.res
        have c3 := cell_of_row _ _ 3 _ _ _ V5.var
        have cf3 := frozen_of_row _ _ 3 _ _ V5.var
        have d3 := cell_of_row _ _ 3 _ _ _ V5.res
        have g3 := frozen_of_row _ _ 3 _ _ V5.res
        have c4 := cell_of_row _ _ 4 _ _ _ V5.var
        have cf4 := frozen_of_row _ _ 4 _ _ V5.var
        have d4 := cell_of_row _ _ 4 _ _ _ V5.res
        have g4 := frozen_of_row _ _ 4 _ _ V5.res
        have c5 := cell_of_row _ _ 5 _ _ _ V5.var
        have cf5 := frozen_of_row _ _ 5 _ _ V5.var
        have d5 := cell_of_row _ _ 5 _ _ _ V5.res
        have g5 := frozen_of_row _ _ 5 _ _ V5.res
        simp only [List.getElem?_toArray, List.getElem?_cons_zero, List.getElem?_cons_succ, List.length_nil] at c0 c1 c2 c3 c4 c5 d0 d1 d2 d3 d4 d5
        have e1 : w1.heap.size ≠ w.heap.size := by have := V5.hn; omega
        have e2 : w.heap.size ≠ w1.heap.size := e1.symm
        have e3 : c ≠ w.heap.size := by omega
        have e4 : w.heap.size ≠ c := e3.symm
        have e5 : c ≠ w1.heap.size := by have := V5.hn; omega
        have e6 : w1.heap.size ≠ c := e5.symm
        go_wp2_with fail
        go_region
        go_wp2_with fail
        refine bodyPost_ret (v := .agg #[.int .i64 12, .string ⟨#[]⟩, .int .i64 t.n, .slice none 0 0, .int .i64 z, .slice none 0 0]) (by simp [results, Try.results75, go_sem, *]) rfl ⟨_, [.int .i64 12, .string ⟨#[]⟩, .int .i64 t.n, .slice none 0 0, .int .i64 z, .slice none 0 0], _, _, rfl, Left.drew (VK.left VC hch (Nat.le_refl _) ⟨by decide, by omega, by omega⟩ (fun s hs => absurd hs (by simp)) (by simp) (fun y hy => absurd hy (by simp)) (fun hb => ?_) _ _ _ _ _ _)⟩
        first | (simp [wtL]; done) | (simp [wtL]; omega)
end Go.Proofs.Ytlmmomffanakiaa
