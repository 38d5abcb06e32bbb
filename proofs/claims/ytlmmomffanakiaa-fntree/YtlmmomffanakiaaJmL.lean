/- An expression behind a sign, as the reader takes it. -/
import Derived.Test.YtlmmomffanakiaaParM
namespace Go.Proofs.Ytlmmomffanakiaa
open Go.RowKit

def unW : List ByteArray := [⟨#[110, 111, 116]⟩, ⟨#[45]⟩, ⟨#[35]⟩]

/-- A node of one kid, as a literal lays it, is what the function answers. -/
theorem RS.un {w wr w3 : World} {h c : Nat} {la : Option Addr} {cap : Nat} {L : List Tk} {i : Nat} {bad : Bool} {j j3 : Nat} {bd3 : Bool} {x : Nd} {u0 u1 u2 u3 u4 u5 : Value} {k0 z : Int} {t0 : ByteArray} {k : Nat} (R : RS w wr h c la cap L i bad j false) (hc : c < h) (hwh : w.heap.size ≤ h) (hL : Left wr w3 wr.heap.size c la cap L j false k 0 x [u0, u1, u2, u3, u4, u5] j3 bd3) {k' : Nat} (hij : i < j) (hk : k' ≤ k + 1) (ht : t0.size ≤ 4000) (a0 a1 a2 a3 a4 a5 : Value) :
    Left w (((((((w3.alloc (.cells #[u0, u1, u2, u3, u4, u5] 27)).setCell ⟨h, 0, none⟩ a0).setCell ⟨h, 1, none⟩ a1).setCell ⟨h, 2, none⟩ a2).setCell ⟨h, 3, none⟩ a3).setCell ⟨h, 4, none⟩ a4).setCell ⟨h, 5, none⟩ a5) w.heap.size c la cap L i bad k' 0 (.mk k0 t0 0 [] z [x]) [.int .i64 k0, .string t0, .int .i64 0, .slice none 0 0, .int .i64 z, .slice (some ⟨w3.heap.size, 0, none⟩) 1 1] j3 bd3 := by
  have hh := (Array.getElem?_eq_some_iff.1 R.res).1
  have hs := hL.by'.size
  have hle := R.le
  have hle3 := hL.le
  have hs1 := size_alloc w3 (.cells #[u0, u1, u2, u3, u4, u5] 27)
  have hb := bel_alloc w3 (.cells #[u0, u1, u2, u3, u4, u5] 27)
  have hrow := heap_alloc_new w3 (.cells #[u0, u1, u2, u3, u4, u5] 27)
  generalize w3.alloc (.cells #[u0, u1, u2, u3, u4, u5] 27) = W at *
  have hkr : KRow W (fun _ => True) w3.heap.size wr.heap.size (.slice (some ⟨w3.heap.size, 0, none⟩) 1 1) [x] [[u0, u1, u2, u3, u4, u5]] := krow_one (vf := [u0, u1, u2, u3, u4, u5]) hrow (Nat.le_refl _) (hL.tree.later (fun g hg => ⟨⟨⟨hg.1, by have := hg.2; omega⟩, trivial⟩, by have := hg.2; omega⟩) (fun p hp => hb.cell hp.2))
  obtain ⟨a, ca, e, hl, hkp⟩ := hkr.kp (by omega) (fun _ _ => trivial)
  have hT : NP W (fun g => Bt wr.heap.size W.heap.size g ∧ True) (.mk k0 t0 0 [] z [x]) [.int .i64 k0, .string t0, .int .i64 0, .slice none 0 0, .int .i64 z, .slice (some ⟨w3.heap.size, 0, none⟩) 1 1] := by
    simp only [NP]
    obtain ⟨rfl, _, rfl⟩ : some (⟨w3.heap.size, 0, none⟩ : Addr) = a ∧ True ∧ 1 = ca := by simpa using e
    exact ⟨by unfold maxLen; omega, none, 0, _, 1, rfl, Nat.zero_le _, hl, fun k hk => absurd hk (Nat.not_lt_zero _), hkp⟩
  exact { tree := hT.later (fun g hg => ⟨by have := hg.1.1; omega, by rw [six_size]; exact hg.1.2⟩) (fun p hp => six_other W h _ _ _ _ _ _ p (by have := hp.1.1; omega)), sm := by simp only [Sm, SmL]; exact ⟨⟨ht, by decide⟩, fun s hs => absurd hs (by simp), hL.sm, trivial⟩, ps := six_ps (hL.ps.below hb) h hc _ _ _ _ _ _, le := Nat.le_trans R.le hL.le, stay := fun hb => absurd (R.stay hb).1 (by simp), cnt := fun hb => by have := hL.cnt hb; simp [wt, wtL]; omega, by' := six_grown (pg_trans R.by' (pg_trans hL.by' (pg_below hb))) h hwh _ _ _ _ _ _ }

set_option maxRecDepth 100000 in
set_option maxHeartbeats 12800000 in
theorem exp6_any (c : Nat) (la : Option Addr) (cap : Nat) (L : List Tk) (i : Nat) (bad : Bool) (w : World) (h : PS w c la cap L i bad)
    (HU : bad = false → ∀ j bd, (bd = true ∨ i < j) → ExpOk 6 c la cap L j bd) (HE : bad = false → ∀ j bd, (bd = true ∨ i < j) → ExpOk 0 c la cap L j bd) (HF : bad = false → ∀ j bd, (bd = true ∨ i < j) → FuncOk c la cap L j bd) :
    Reads 65 #[.pointer (some ⟨c, 0, none⟩), .int .i64 6] w w.heap.size c la cap L i bad 2 0 := by
  have hch := h.lt
  unfold Reads
  go_enter Try.func65, Try.ntmps65
  go_wp2_with fail
  have R0 := RS.start h
  refine (line_any c la cap L i bad _ R0.ps).mono ?_
  rintro e w1 ⟨⟨z, rfl⟩, hb1⟩
  have R1 := R0.below hch hb1
  go_wp2_with fail
  go_loopw [7] (fun x wr => ∃ k : Nat, x = .int .i64 k ∧ k ≤ 3 ∧ Below (w1.alloc (.cells (unW.map Value.string).toArray 9)).heap.size (w1.alloc (.cells (unW.map Value.string).toArray 9)) wr) (fun x _ => 3 - (intOf x).toNat)
  case atStart => exact ⟨0, rfl, by omega, Below.refl _ _⟩
  case round =>
    obtain ⟨k, rfl, hk, hbw⟩ := hrel
    have hb4 : Below w1.heap.size w1 wr := (bel_alloc w1 _).trans (hbw.mono (by rw [size_alloc]; omega))
    have kwr : w1.heap.size < wr.heap.size := by have := hbw.size; rw [size_alloc] at this; omega
    have R4 := R1.below hch hb4
    by_cases hlt : k < 3
    · obtain ⟨t, ht⟩ : ∃ t, unW[k]? = some t := ⟨_, List.getElem?_eq_getElem (show k < unW.length from hlt)⟩
      have ht3 : t.size ≤ 4000 := (show ∀ t ∈ unW, t.size ≤ 4000 by decide) t (List.mem_of_getElem? ht)
      have hcell : wr.cell? ⟨w1.heap.size, k, none⟩ = some (.string t) := by
        rw [st_cell hbw k]; simp [ht]
      go_wp2_with fail
      refine (is_any c la cap L i bad t _ R4.ps).mono ?_
      rintro e w5 ⟨⟨b5, rfl, hb5'⟩, hb5⟩
      cases b5
      · go_wp2_with fail
        go_roundw
        case rel => exact ⟨k + 1, by go_num, by omega, hbw.trans (hb5.mono hbw.size)⟩
        case measure => simp [intOf]; omega
      · obtain ⟨rfl, hi⟩ := hb5' rfl
        have R5 := R4.below hch hb5
        have hi4 : i < 4000 := by have := R5.ps.len; omega
        have p1 := R5.ps.c1
        have pf1 := R5.ps.f 1
        have R6 := R5.next hch hi
        have hs1 : w.heap.size < w1.heap.size := (Array.getElem?_eq_some_iff.1 R1.res).1
        have hc5 : w5.cell? ⟨w1.heap.size, k, none⟩ = some (.string t) := (hb5.cell (p := ⟨w1.heap.size, k, none⟩) kwr).trans hcell
        have hc6 : (w5.setCell ⟨c, 1, none⟩ (.int .i64 ((i : Int) + 1))).cell? ⟨w1.heap.size, k, none⟩ = some (.string t) := (World.cell?_of_block (heap_setCell_other w5 ⟨c, 1, none⟩ w1.heap.size _ (by show w1.heap.size ≠ c; omega))).trans hc5
        have kw : w1.heap.size < (w5.setCell ⟨c, 1, none⟩ (.int .i64 ((i : Int) + 1))).heap.size := by rw [World.size_setCell]; exact Nat.lt_of_lt_of_le kwr hb5.size
        have RD := R6.grown hch (pg_drew (pg_refl _ _)) R6.ps.drew (Nat.le_refl _) (fun h => ⟨h, rfl⟩)
        have EX := HU (by first | rfl | trivial) (i + 1) false (Or.inr (by omega)) _ RD.ps
        go_wp2_with fail
        go_region_with (first | (go_at_call 65; refine EX.mono ?_; rintro e w7 ⟨x, u, j7, bd7, rfl, hL⟩; obtain ⟨k7, t7, n7, m7, a7, ca7, y7, b7, cb7, kk7, rfl⟩ := np_cells hL.tree; have R7 := RD.grown hch hL.by' hL.ps hL.le hL.stay; have k7h := (Array.getElem?_eq_some_iff.1 R7.res).1; have k7w : w1.heap.size < w7.heap.size := (Nat.lt_of_lt_of_le kw hL.by'.size); have q7 : w7.cell? ⟨w1.heap.size, k, none⟩ = some (.string t) := (World.cell?_of_block (hL.by'.block w1.heap.size kw (fun e => by have := Option.some.inj e; omega))).trans hc6; have qa : ∀ O : Obj, (w7.alloc O).cell? ⟨w1.heap.size, k, none⟩ = w7.cell? ⟨w1.heap.size, k, none⟩ := (fun O => (bel_alloc w7 O).cell (p := ⟨w1.heap.size, k, none⟩) k7w); have d0 := cell_of_row _ _ 0 _ _ _ R7.res; have g0 := frozen_of_row _ _ 0 _ _ R7.res; have qd0 : ∀ O : Obj, (w7.alloc O).cell? ⟨w.heap.size, 0, none⟩ = w7.cell? ⟨w.heap.size, 0, none⟩ := (fun O => (bel_alloc w7 O).cell (p := ⟨w.heap.size, 0, none⟩) k7h); have qf0 : ∀ O : Obj, (w7.alloc O).frozen? ⟨w.heap.size, 0, none⟩ = false := (fun O => ((bel_alloc w7 O).frozen (p := ⟨w.heap.size, 0, none⟩) k7h).trans (frozen_of_row _ _ 0 _ _ R7.res)); have d1 := cell_of_row _ _ 1 _ _ _ R7.res; have g1 := frozen_of_row _ _ 1 _ _ R7.res; have qd1 : ∀ O : Obj, (w7.alloc O).cell? ⟨w.heap.size, 1, none⟩ = w7.cell? ⟨w.heap.size, 1, none⟩ := (fun O => (bel_alloc w7 O).cell (p := ⟨w.heap.size, 1, none⟩) k7h); have qf1 : ∀ O : Obj, (w7.alloc O).frozen? ⟨w.heap.size, 1, none⟩ = false := (fun O => ((bel_alloc w7 O).frozen (p := ⟨w.heap.size, 1, none⟩) k7h).trans (frozen_of_row _ _ 1 _ _ R7.res)); have d2 := cell_of_row _ _ 2 _ _ _ R7.res; have g2 := frozen_of_row _ _ 2 _ _ R7.res; have qd2 : ∀ O : Obj, (w7.alloc O).cell? ⟨w.heap.size, 2, none⟩ = w7.cell? ⟨w.heap.size, 2, none⟩ := (fun O => (bel_alloc w7 O).cell (p := ⟨w.heap.size, 2, none⟩) k7h); have qf2 : ∀ O : Obj, (w7.alloc O).frozen? ⟨w.heap.size, 2, none⟩ = false := (fun O => ((bel_alloc w7 O).frozen (p := ⟨w.heap.size, 2, none⟩) k7h).trans (frozen_of_row _ _ 2 _ _ R7.res)); have d3 := cell_of_row _ _ 3 _ _ _ R7.res; have g3 := frozen_of_row _ _ 3 _ _ R7.res; have qd3 : ∀ O : Obj, (w7.alloc O).cell? ⟨w.heap.size, 3, none⟩ = w7.cell? ⟨w.heap.size, 3, none⟩ := (fun O => (bel_alloc w7 O).cell (p := ⟨w.heap.size, 3, none⟩) k7h); have qf3 : ∀ O : Obj, (w7.alloc O).frozen? ⟨w.heap.size, 3, none⟩ = false := (fun O => ((bel_alloc w7 O).frozen (p := ⟨w.heap.size, 3, none⟩) k7h).trans (frozen_of_row _ _ 3 _ _ R7.res)); have d4 := cell_of_row _ _ 4 _ _ _ R7.res; have g4 := frozen_of_row _ _ 4 _ _ R7.res; have qd4 : ∀ O : Obj, (w7.alloc O).cell? ⟨w.heap.size, 4, none⟩ = w7.cell? ⟨w.heap.size, 4, none⟩ := (fun O => (bel_alloc w7 O).cell (p := ⟨w.heap.size, 4, none⟩) k7h); have qf4 : ∀ O : Obj, (w7.alloc O).frozen? ⟨w.heap.size, 4, none⟩ = false := (fun O => ((bel_alloc w7 O).frozen (p := ⟨w.heap.size, 4, none⟩) k7h).trans (frozen_of_row _ _ 4 _ _ R7.res)); have d5 := cell_of_row _ _ 5 _ _ _ R7.res; have g5 := frozen_of_row _ _ 5 _ _ R7.res; have qd5 : ∀ O : Obj, (w7.alloc O).cell? ⟨w.heap.size, 5, none⟩ = w7.cell? ⟨w.heap.size, 5, none⟩ := (fun O => (bel_alloc w7 O).cell (p := ⟨w.heap.size, 5, none⟩) k7h); have qf5 : ∀ O : Obj, (w7.alloc O).frozen? ⟨w.heap.size, 5, none⟩ = false := (fun O => ((bel_alloc w7 O).frozen (p := ⟨w.heap.size, 5, none⟩) k7h).trans (frozen_of_row _ _ 5 _ _ R7.res)); simp only [List.getElem?_toArray, List.getElem?_cons_zero, List.getElem?_cons_succ] at d0 d1 d2 d3 d4 d5))
        all_goals
          have h9 := RS.un (k0 := 20) (z := z) (t0 := t) (k' := 2) RD hch (Nat.le_refl _) hL (by omega) (by omega) ht3 (.int .i64 20) (.string t) (.int .i64 0) (.slice none 0 0) (.int .i64 z) (.slice (some ⟨w7.heap.size, 0, none⟩) 1 1)
          rw [World.setCell_alloc_past _ _ _ _ k7h, World.setCell_alloc_past _ _ _ _ (by simpa using k7h), World.setCell_alloc_past _ _ _ _ (by simpa using k7h), World.setCell_alloc_past _ _ _ _ (by simpa using k7h), World.setCell_alloc_past _ _ _ _ (by simpa using k7h), World.setCell_alloc_past _ _ _ _ (by simpa using k7h)] at h9
          have r9 := ((bel_alloc ((((((w7.setCell ⟨w.heap.size, 0, none⟩ (.int .i64 20)).setCell ⟨w.heap.size, 1, none⟩ (.string t)).setCell ⟨w.heap.size, 2, none⟩ (.int .i64 0)).setCell ⟨w.heap.size, 3, none⟩ (.slice none 0 0)).setCell ⟨w.heap.size, 4, none⟩ (.int .i64 z)).setCell ⟨w.heap.size, 5, none⟩ (.slice (some ⟨w7.heap.size, 0, none⟩) 1 1)) (.cells #[.int .i64 k7, .string t7, .int .i64 n7, .slice a7 m7 ca7, .int .i64 y7, .slice b7 kk7 cb7] 27)).block w.heap.size (by rw [six_size]; exact k7h)).trans (six_var (.int .i64 20) (.string t) (.int .i64 0) (.slice none 0 0) (.int .i64 z) (.slice (some ⟨w7.heap.size, 0, none⟩) 1 1) R7.res)
          generalize (((((((w7.setCell ⟨w.heap.size, 0, none⟩ (.int .i64 20)).setCell ⟨w.heap.size, 1, none⟩ (.string t)).setCell ⟨w.heap.size, 2, none⟩ (.int .i64 0)).setCell ⟨w.heap.size, 3, none⟩ (.slice none 0 0)).setCell ⟨w.heap.size, 4, none⟩ (.int .i64 z)).setCell ⟨w.heap.size, 5, none⟩ (.slice (some ⟨w7.heap.size, 0, none⟩) 1 1)).alloc (.cells #[.int .i64 k7, .string t7, .int .i64 n7, .slice a7 m7 ca7, .int .i64 y7, .slice b7 kk7 cb7] 27)) = W9 at h9 r9 ⊢
          clear EX hL R7 q7 qa d0 d1 d2 d3 d4 d5 g0 g1 g2 g3 g4 g5 qd0 qd1 qd2 qd3 qd4 qd5 qf0 qf1 qf2 qf3 qf4 qf5
          have d0 := cell_of_row _ _ 0 _ _ _ r9
          have g0 := frozen_of_row _ _ 0 _ _ r9
          have d1 := cell_of_row _ _ 1 _ _ _ r9
          have g1 := frozen_of_row _ _ 1 _ _ r9
          have d2 := cell_of_row _ _ 2 _ _ _ r9
          have g2 := frozen_of_row _ _ 2 _ _ r9
          have d3 := cell_of_row _ _ 3 _ _ _ r9
          have g3 := frozen_of_row _ _ 3 _ _ r9
          have d4 := cell_of_row _ _ 4 _ _ _ r9
          have g4 := frozen_of_row _ _ 4 _ _ r9
          have d5 := cell_of_row _ _ 5 _ _ _ r9
          have g5 := frozen_of_row _ _ 5 _ _ r9
          simp only [List.getElem?_toArray, List.getElem?_cons_zero, List.getElem?_cons_succ] at d0 d1 d2 d3 d4 d5
          go_wp2_with fail
          refine bodyPost_ret (v := .agg #[.int .i64 20, .string t, .int .i64 0, .slice none 0 0, .int .i64 z, .slice (some ⟨w7.heap.size, 0, none⟩) 1 1]) (by simp [results, Try.results65, go_sem, *]) rfl ⟨_, [.int .i64 20, .string t, .int .i64 0, .slice none 0 0, .int .i64 z, .slice (some ⟨w7.heap.size, 0, none⟩) 1 1], _, _, rfl, h9⟩
    · obtain rfl : k = 3 := by omega
      go_wp2_with fail
      refine (single_any c la cap L i bad _ R4.ps HE HF).mono ?_
      rintro e w3 ⟨x, u, j3, bd3, rfl, hL⟩
      obtain ⟨k3, t3, n3, m3, a3, ca3, y3, b3, cb3, kk3, rfl⟩ := np_cells hL.tree
      have R3 := R4.grown hch hL.by' hL.ps hL.le hL.stay
      have d0 := cell_of_row _ _ 0 _ _ _ R3.res
      have g0 := frozen_of_row _ _ 0 _ _ R3.res
      have d1 := cell_of_row _ _ 1 _ _ _ R3.res
      have g1 := frozen_of_row _ _ 1 _ _ R3.res
      have d2 := cell_of_row _ _ 2 _ _ _ R3.res
      have g2 := frozen_of_row _ _ 2 _ _ R3.res
      have d3 := cell_of_row _ _ 3 _ _ _ R3.res
      have g3 := frozen_of_row _ _ 3 _ _ R3.res
      have d4 := cell_of_row _ _ 4 _ _ _ R3.res
      have g4 := frozen_of_row _ _ 4 _ _ R3.res
      have d5 := cell_of_row _ _ 5 _ _ _ R3.res
      have g5 := frozen_of_row _ _ 5 _ _ R3.res
      simp only [List.getElem?_toArray, List.getElem?_cons_zero, List.getElem?_cons_succ] at d0 d1 d2 d3 d4 d5
      go_wp2_with fail
      refine bodyPost_ret (v := .agg #[.int .i64 k3, .string t3, .int .i64 n3, .slice a3 m3 ca3, .int .i64 y3, .slice b3 kk3 cb3]) (by simp [results, Try.results65, go_sem, *]) rfl ⟨_, [.int .i64 k3, .string t3, .int .i64 n3, .slice a3 m3 ca3, .int .i64 y3, .slice b3 kk3 cb3], _, _, rfl, RS.pass R4 hch (Nat.le_refl _) hL (by omega) _ _ _ _ _ _⟩
end Go.Proofs.Ytlmmomffanakiaa
namespace Go.Proofs.Ytlmmomffanakiaa
open Go.RowKit

theorem VarAt.bin {w wr w' : World} {h nb c : Nat} {la : Option Addr} {cap : Nat} {L : List Tk} {i : Nat} {bad : Bool} {f x : Nd} {x0 x1 x2 x3 x4 x5 u0 u1 u2 u3 u4 u5 : Value} {j j' : Nat} {bd bd' : Bool} {lo : Nat} (y : Int) (sg : ByteArray) (hsg : sg.size ≤ 4000)
    (v : VarAt w wr h nb c la cap L i bad 2 f [x0, x1, x2, x3, x4, x5] j bd) (hc : c < h) (hwh : w.heap.size ≤ h) (hn : h < nb) (hnl : nb < lo) (hg : wr.grownBy w' (some c)) (hT : NP w' (Bt lo w'.heap.size) x [u0, u1, u2, u3, u4, u5]) (hs : Sm x) (hp : PS w' c la cap L j' bd') (hle : j ≤ j') (hst : bd = true → bd' = true ∧ j' = j) (hct : bd' = false → wt x + 2 ≤ 2 * (j' - j)) :
    VarAt w (((((((w'.alloc (.cells #[x0, x1, x2, x3, x4, x5, u0, u1, u2, u3, u4, u5] 27)).setCell ⟨nb, 0, none⟩ (.int .i64 19)).setCell ⟨nb, 1, none⟩ (.string sg)).setCell ⟨nb, 2, none⟩ (.int .i64 0)).setCell ⟨nb, 3, none⟩ (.slice none 0 0)).setCell ⟨nb, 4, none⟩ (.int .i64 y)).setCell ⟨nb, 5, none⟩ (.slice (some ⟨w'.heap.size, 0, none⟩) 2 2)) h nb c la cap L i bad 2 (.mk 19 sg 0 [] y [f, x])
      [.int .i64 19, .string sg, .int .i64 0, .slice none 0 0, .int .i64 y, .slice (some ⟨w'.heap.size, 0, none⟩) 2 2] j' bd' := by
  have vs := v.step hc (by omega) hg hp hle hst
  have hb := bel_alloc w' (.cells #[x0, x1, x2, x3, x4, x5, u0, u1, u2, u3, u4, u5] 27)
  have vb := vs.below hb
  have hnb := (Array.getElem?_eq_some_iff.1 vs.var).1
  have hrow := heap_alloc_new w' (.cells #[x0, x1, x2, x3, x4, x5, u0, u1, u2, u3, u4, u5] 27)
  have hsz := size_alloc w' (.cells #[x0, x1, x2, x3, x4, x5, u0, u1, u2, u3, u4, u5] 27)
  generalize hW : w'.alloc (.cells #[x0, x1, x2, x3, x4, x5, u0, u1, u2, u3, u4, u5] 27) = W at *
  have hxT : NP W (fun g => Bt h W.heap.size g ∧ (g ≠ h ∧ g ≠ nb)) x [u0, u1, u2, u3, u4, u5] := hT.later (fun g hg => ⟨⟨by have := hg.1; omega, by have := hg.2; omega⟩, by have := hg.1; omega, by have := hg.1; omega⟩) (fun p hp => hb.cell hp.2)
  have hO : ∀ p : Addr, p.block ≠ nb → ((((((W.setCell ⟨nb, 0, none⟩ (.int .i64 19)).setCell ⟨nb, 1, none⟩ (.string sg)).setCell ⟨nb, 2, none⟩ (.int .i64 0)).setCell ⟨nb, 3, none⟩ (.slice none 0 0)).setCell ⟨nb, 4, none⟩ (.int .i64 y)).setCell ⟨nb, 5, none⟩ (.slice (some ⟨w'.heap.size, 0, none⟩) 2 2)).cell? p = W.cell? p := fun p hp => six_other W nb _ _ _ _ _ _ p hp
  have hcell : ∀ m, W.cell? ⟨w'.heap.size, m, none⟩ = [x0, x1, x2, x3, x4, x5, u0, u1, u2, u3, u4, u5][m]? := fun m => by rw [cell_of_row _ _ _ _ _ _ hrow]; simp
  refine { res := (six_heap W nb _ _ _ _ _ _ h (by omega)).trans vb.res, var := six_var _ _ _ _ _ _ vb.var, tree := ?_, sm := ?_, ps := six_ps vb.ps nb (by omega) _ _ _ _ _ _, le := vb.le, stay := vb.stay, cnt := fun hb' => ?_, by' := six_grown vb.by' nb (by omega) _ _ _ _ _ _ }
  · simp only [NP]
    refine ⟨by unfold maxLen; omega, none, 0, _, 2, rfl, Nat.zero_le _, by unfold maxLen; simp, fun k hk => absurd hk (Nat.not_lt_zero _), ?_⟩
    simp only [KP]
    have hfin : ∀ (t : Nd) (z : List Value), NP W (fun g => Bt h W.heap.size g ∧ (g ≠ h ∧ g ≠ nb)) t z → NP ((((((W.setCell ⟨nb, 0, none⟩ (.int .i64 19)).setCell ⟨nb, 1, none⟩ (.string sg)).setCell ⟨nb, 2, none⟩ (.int .i64 0)).setCell ⟨nb, 3, none⟩ (.slice none 0 0)).setCell ⟨nb, 4, none⟩ (.int .i64 y)).setCell ⟨nb, 5, none⟩ (.slice (some ⟨w'.heap.size, 0, none⟩) 2 2)) (fun g => Bt h ((((((W.setCell ⟨nb, 0, none⟩ (.int .i64 19)).setCell ⟨nb, 1, none⟩ (.string sg)).setCell ⟨nb, 2, none⟩ (.int .i64 0)).setCell ⟨nb, 3, none⟩ (.slice none 0 0)).setCell ⟨nb, 4, none⟩ (.int .i64 y)).setCell ⟨nb, 5, none⟩ (.slice (some ⟨w'.heap.size, 0, none⟩) 2 2)).heap.size g ∧ (g ≠ h ∧ g ≠ nb)) t z := fun t z ht =>
      ht.later (fun g hg => ⟨⟨hg.1.1, by rw [six_size]; exact hg.1.2⟩, hg.2⟩) (fun p hp => hO p hp.2.2)
    have hPg : Bt h ((((((W.setCell ⟨nb, 0, none⟩ (.int .i64 19)).setCell ⟨nb, 1, none⟩ (.string sg)).setCell ⟨nb, 2, none⟩ (.int .i64 0)).setCell ⟨nb, 3, none⟩ (.slice none 0 0)).setCell ⟨nb, 4, none⟩ (.int .i64 y)).setCell ⟨nb, 5, none⟩ (.slice (some ⟨w'.heap.size, 0, none⟩) 2 2)).heap.size w'.heap.size ∧ (w'.heap.size ≠ h ∧ w'.heap.size ≠ nb) := ⟨⟨by omega, by rw [six_size]; omega⟩, by omega, by omega⟩
    refine ⟨⟨w'.heap.size, 0, [x0, x1, x2, x3, x4, x5], rfl, hPg, fun m hm => ?_, hfin _ _ vb.tree⟩, ⟨w'.heap.size, 0, [u0, u1, u2, u3, u4, u5], rfl, hPg, fun m hm => ?_, hfin _ _ hxT⟩, trivial⟩
    · rw [hO _ (by show w'.heap.size ≠ nb; omega), show 0 + 6 * 0 + m = m by omega, hcell]
      match m, hm with
      | 0, _ | 1, _ | 2, _ | 3, _ | 4, _ | 5, _ => rfl
    · rw [hO _ (by show w'.heap.size ≠ nb; omega), show 0 + 6 * (0 + 1) + m = 6 + m by omega, hcell]
      match m, hm with
      | 0, _ | 1, _ | 2, _ | 3, _ | 4, _ | 5, _ => rfl
  · simp only [Sm, SmL]
    exact ⟨⟨hsg, by decide⟩, fun s hs => absurd hs (by simp), v.sm, hs, trivial⟩
  · have hbd : bd = false := by
      cases bd
      · rfl
      · rw [(hst rfl).1] at hb'; cases hb'
    have q1 := v.cnt hbd
    have q2 := hct hb'
    have q3 := v.le
    simp [wt, wtL]
    omega
theorem VarAt.bin' {w wr w' : World} {h nb c : Nat} {la : Option Addr} {cap : Nat} {L : List Tk} {i : Nat} {bad : Bool} {f x : Nd} {x0 x1 x2 x3 x4 x5 u0 u1 u2 u3 u4 u5 : Value} {j j' : Nat} {bd bd' : Bool} {lo : Nat} (y : Int) (sg : ByteArray) (hsg : sg.size ≤ 4000)
    (v : VarAt w wr h nb c la cap L i bad 2 f [x0, x1, x2, x3, x4, x5] j bd) (hc : c < h) (hwh : w.heap.size ≤ h) (hn : h < nb) (hnl : nb < lo) (hg : wr.grownBy w' (some c)) (hT : NP w' (Bt lo w'.heap.size) x [u0, u1, u2, u3, u4, u5]) (hs : Sm x) (hp : PS w' c la cap L j' bd') (hle : j ≤ j') (hst : bd = true → bd' = true ∧ j' = j) (hct : bd' = false → wt x + 2 ≤ 2 * (j' - j)) :
    VarAt w (((((((w'.setCell ⟨nb, 0, none⟩ (.int .i64 19)).setCell ⟨nb, 1, none⟩ (.string sg)).setCell ⟨nb, 2, none⟩ (.int .i64 0)).setCell ⟨nb, 3, none⟩ (.slice none 0 0)).setCell ⟨nb, 4, none⟩ (.int .i64 y)).setCell ⟨nb, 5, none⟩ (.slice (some ⟨w'.heap.size, 0, none⟩) 2 2)).alloc (.cells #[x0, x1, x2, x3, x4, x5, u0, u1, u2, u3, u4, u5] 27)) h nb c la cap L i bad 2 (.mk 19 sg 0 [] y [f, x])
      [.int .i64 19, .string sg, .int .i64 0, .slice none 0 0, .int .i64 y, .slice (some ⟨w'.heap.size, 0, none⟩) 2 2] j' bd' := by
  have q := VarAt.bin y sg hsg v hc hwh hn hnl hg hT hs hp hle hst hct
  have hnb : nb < w'.heap.size := Nat.lt_of_lt_of_le (Array.getElem?_eq_some_iff.1 v.var).1 hg.size
  rw [World.setCell_alloc_past _ _ _ _ hnb, World.setCell_alloc_past _ _ _ _ (by simpa using hnb), World.setCell_alloc_past _ _ _ _ (by simpa using hnb), World.setCell_alloc_past _ _ _ _ (by simpa using hnb), World.setCell_alloc_past _ _ _ _ (by simpa using hnb), World.setCell_alloc_past _ _ _ _ (by simpa using hnb)] at q
  exact q
/-- What a call answered, in a variable of its own. -/
theorem RS.at' {w w0 wr : World} {h c : Nat} {la : Option Addr} {cap : Nat} {L : List Tk} {i : Nat} {bad : Bool} {j : Nat} {bd : Bool} {lo : Nat} {x : Nd} {u0 u1 u2 u3 u4 u5 : Value} (R : RS w wr h c la cap L i bad j bd) (hlo : h < lo) (hL : Left w0 wr lo c la cap L i bad 2 0 x [u0, u1, u2, u3, u4, u5] j bd) : VarAt w (wr.alloc (.cells #[u0, u1, u2, u3, u4, u5] 27)) h wr.heap.size c la cap L i bad 2 x [u0, u1, u2, u3, u4, u5] j bd := by
  have hh := (Array.getElem?_eq_some_iff.1 R.res).1
  have hs1 := size_alloc wr (.cells #[u0, u1, u2, u3, u4, u5] 27)
  have hb := bel_alloc wr (.cells #[u0, u1, u2, u3, u4, u5] 27)
  have hrow := heap_alloc_new wr (.cells #[u0, u1, u2, u3, u4, u5] 27)
  generalize wr.alloc (.cells #[u0, u1, u2, u3, u4, u5] 27) = W at *
  exact { res := (hb.block _ hh).trans R.res, var := hrow, tree := hL.tree.later (fun g hg => ⟨⟨by have := hg.1; omega, by have := hg.2; omega⟩, by have := hg.1; omega, by have := hg.2; omega⟩) (fun p hp => hb.cell hp.2), sm := hL.sm, ps := R.ps.below hb, le := R.le, stay := R.stay, cnt := fun hb => by have := hL.cnt hb; omega, by' := pg_trans R.by' (pg_below hb) }

end Go.Proofs.Ytlmmomffanakiaa
