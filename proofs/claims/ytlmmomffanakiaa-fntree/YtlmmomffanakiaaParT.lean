/- A statement, as the reader takes it. -/
import Derived.Test.YtlmmomffanakiaaJmL
import Derived.Deep.Cut
namespace Go.Proofs.Ytlmmomffanakiaa
open Go.RowKit

def PrefixOk (c : Nat) (la : Option Addr) (cap : Nat) (L : List Tk) (i : Nat) (bad : Bool) : Prop :=
  ∀ w : World, PS w c la cap L i bad → Reads 68 #[.pointer (some ⟨c, 0, none⟩)] w w.heap.size c la cap L i bad 2 0
def LocalOk (c : Nat) (la : Option Addr) (cap : Nat) (L : List Tk) (i : Nat) (bad : Bool) : Prop :=
  ∀ (z : Int) (w : World), PS w c la cap L i bad → Reads 63 #[.pointer (some ⟨c, 0, none⟩), .int .i64 z] w w.heap.size c la cap L i bad 0 0
def IfOk (c : Nat) (la : Option Addr) (cap : Nat) (L : List Tk) (i : Nat) (bad : Bool) : Prop :=
  ∀ (z : Int) (w : World), PS w c la cap L i bad → Reads 64 #[.pointer (some ⟨c, 0, none⟩), .int .i64 z] w w.heap.size c la cap L i bad 0 0
/-- A node's row of two kids, as a literal lays it. -/
theorem krow_two {w : World} {Q : Nat → Prop} {g lo B : Nat} {f x : Nd} {x0 x1 x2 x3 x4 x5 u0 u1 u2 u3 u4 u5 : Value} (hg : w.heap[g]? = some (.cells #[x0, x1, x2, x3, x4, x5, u0, u1, u2, u3, u4, u5] 27 (0, 0))) (hB : B ≤ g) (hf : NP w (fun b => (Bt lo w.heap.size b ∧ Q b) ∧ b ≠ g) f [x0, x1, x2, x3, x4, x5]) (hx : NP w (fun b => (Bt lo w.heap.size b ∧ Q b) ∧ b ≠ g) x [u0, u1, u2, u3, u4, u5]) : KRow w Q B lo (.slice (some ⟨g, 0, none⟩) 2 2) [f, x] [[x0, x1, x2, x3, x4, x5], [u0, u1, u2, u3, u4, u5]] := by
  refine ⟨rfl, fun i hi hi' => ?_, ⟨by simp, .inr ⟨g, 2, _, rfl, hB, hg, Nat.le_refl _, by unfold maxLen; omega, by simp, by simp⟩⟩⟩
  have hq : ∀ b, ((Bt lo w.heap.size b ∧ Q b) ∧ b ≠ g) → ((Bt lo w.heap.size b ∧ Q b) ∧ Value.ownBlock (.slice (some ⟨g, 0, none⟩) 2 2) ≠ some b) := fun b hb => ⟨hb.1, fun e => hb.2 (by simpa [Value.ownBlock] using e.symm)⟩
  obtain rfl | rfl : i = 0 ∨ i = 1 := by simp at hi; omega
  · exact ⟨rfl, hf.later (fun b hb => hq b hb) (fun _ _ => rfl)⟩
  · exact ⟨rfl, hx.later (fun b hb => hq b hb) (fun _ _ => rfl)⟩
/-- A node of a literal's kids is what the function answers. -/
theorem RS.kids {w wr : World} {h c : Nat} {la : Option Addr} {cap : Nat} {L : List Tk} {i : Nat} {bad : Bool} {j : Nat} {bd : Bool} {k0 z : Int} {lo B : Nat} {ks : List Nd} {vs : List (List Value)} {v : Value} {kk : Nat} (R : RS w wr h c la cap L i bad j bd) (hc : c < h) (hwh : w.heap.size ≤ h) (hK : KRow wr (fun _ => True) B lo v ks vs) (hlo : h < lo) (hB : lo ≤ B) (hS : ∀ x ∈ ks, Sm x) (hcnt : bd = false → wtL ks + kk ≤ 2 * (j - i)) (a0 a1 a2 a3 a4 a5 : Value) :
    Left w ((((((wr.setCell ⟨h, 0, none⟩ a0).setCell ⟨h, 1, none⟩ a1).setCell ⟨h, 2, none⟩ a2).setCell ⟨h, 3, none⟩ a3).setCell ⟨h, 4, none⟩ a4).setCell ⟨h, 5, none⟩ a5) w.heap.size c la cap L i bad kk 0 (.mk k0 ⟨#[]⟩ 0 [] z ks) [.int .i64 k0, .string ⟨#[]⟩, .int .i64 0, .slice none 0 0, .int .i64 z, v] j bd := by
  obtain ⟨ax, cx, rfl, hxl, hxk⟩ := hK.kp hB (fun _ _ => trivial)
  have hT : NP wr (fun g => Bt lo wr.heap.size g ∧ True) (.mk k0 ⟨#[]⟩ 0 [] z ks) [.int .i64 k0, .string ⟨#[]⟩, .int .i64 0, .slice none 0 0, .int .i64 z, .slice ax ks.length cx] := by
    simp only [NP]
    exact ⟨by unfold maxLen; decide, none, 0, ax, cx, rfl, Nat.zero_le _, hxl, fun k hk => absurd hk (Nat.not_lt_zero _), hxk⟩
  exact { tree := hT.later (fun g hg => ⟨by have := hg.1.1; omega, by rw [six_size]; exact hg.1.2⟩) (fun p hp => six_other wr h _ _ _ _ _ _ p (by have := hp.1.1; omega)), sm := by simp only [Sm]; exact ⟨by decide, fun s hs => absurd hs (by simp), (SmL_iff ks).2 hS⟩, ps := six_ps R.ps h hc _ _ _ _ _ _, le := R.le, stay := R.stay, cnt := fun hb => by have := hcnt hb; simp only [wt, List.length_nil]; omega, by' := six_grown R.by' h hwh _ _ _ _ _ _ }
theorem VarAt.rs {w wr : World} {h nb c : Nat} {la : Option Addr} {cap : Nat} {L : List Tk} {i : Nat} {bad : Bool} {d : Nat} {f : Nd} {vf : List Value} {j : Nat} {bd : Bool} (v : VarAt w wr h nb c la cap L i bad d f vf j bd) : RS w wr h c la cap L i bad j bd := ⟨v.res, v.ps, v.le, v.stay, v.by'⟩
theorem VarAt.bad! {w wr : World} {h nb c : Nat} {la : Option Addr} {cap : Nat} {L : List Tk} {i : Nat} {bad : Bool} {d : Nat} {f : Nd} {vf : List Value} {j : Nat} {bd : Bool} (v : VarAt w wr h nb c la cap L i bad d f vf j bd) (hc : c < h) (hcn : c ≠ nb) : VarAt w (wr.setCell ⟨c, 2, none⟩ (.bool true)) h nb c la cap L i bad d f vf j true :=
  v.step hc hcn (pg_set _ _ _ _) v.ps.bad! (Nat.le_refl _) (fun _ => ⟨rfl, rfl⟩)

/-- A node of the variable's tree and another one is what the function answers. -/
theorem VarAt.pair {w wr w' : World} {h nb c : Nat} {la : Option Addr} {cap : Nat} {L : List Tk} {i : Nat} {bad : Bool} {f x : Nd} {x0 x1 x2 x3 x4 x5 u0 u1 u2 u3 u4 u5 : Value} {j j' : Nat} {bd bd' : Bool} {k0 z : Int}
    (v : VarAt w wr h nb c la cap L i bad 2 f [x0, x1, x2, x3, x4, x5] j bd) (hc : c < h) (hwh : w.heap.size ≤ h) (hcn : c ≠ nb) (hL : Left wr w' wr.heap.size c la cap L j bd 2 0 x [u0, u1, u2, u3, u4, u5] j' bd') (a0 a1 a2 a3 a4 a5 : Value) :
    Left w (((((((w'.alloc (.cells #[x0, x1, x2, x3, x4, x5, u0, u1, u2, u3, u4, u5] 27)).setCell ⟨h, 0, none⟩ a0).setCell ⟨h, 1, none⟩ a1).setCell ⟨h, 2, none⟩ a2).setCell ⟨h, 3, none⟩ a3).setCell ⟨h, 4, none⟩ a4).setCell ⟨h, 5, none⟩ a5) w.heap.size c la cap L i bad 1 0 (.mk k0 ⟨#[]⟩ 0 [] z [f, x]) [.int .i64 k0, .string ⟨#[]⟩, .int .i64 0, .slice none 0 0, .int .i64 z, .slice (some ⟨w'.heap.size, 0, none⟩) 2 2] j' bd' := by
  have vs := v.step hc hcn hL.by' hL.ps hL.le hL.stay
  have hb := bel_alloc w' (.cells #[x0, x1, x2, x3, x4, x5, u0, u1, u2, u3, u4, u5] 27)
  have vb := vs.below hb
  have hh := (Array.getElem?_eq_some_iff.1 vs.res).1
  have hh' := (Array.getElem?_eq_some_iff.1 v.res).1
  have hnb := (Array.getElem?_eq_some_iff.1 vs.var).1
  have hrow := heap_alloc_new w' (.cells #[x0, x1, x2, x3, x4, x5, u0, u1, u2, u3, u4, u5] 27)
  have hsz := size_alloc w' (.cells #[x0, x1, x2, x3, x4, x5, u0, u1, u2, u3, u4, u5] 27)
  have hs1 := hL.by'.size
  generalize w'.alloc (.cells #[x0, x1, x2, x3, x4, x5, u0, u1, u2, u3, u4, u5] 27) = W at *
  have K := krow_two (Q := fun _ => True) (lo := h + 1) hrow (Nat.le_refl _) (vs.tree.later (w' := W) (fun g hg => ⟨⟨⟨by have := hg.1.1; have := hg.2.1; omega, by have := hg.1.2; omega⟩, trivial⟩, by have := hg.1.2; omega⟩) (fun p hp => hb.cell hp.1.2)) (hL.tree.later (w' := W) (fun g hg => ⟨⟨⟨by have := hg.1; omega, by have := hg.2; omega⟩, trivial⟩, by have := hg.2; omega⟩) (fun p hp => hb.cell hp.2))
  refine RS.kids vb.rs hc hwh K (by omega) (by omega) (fun y hy => by simp at hy; rcases hy with rfl | rfl; exact v.sm; exact hL.sm) (fun hb' => ?_) _ _ _ _ _ _
  have hbd : bd = false := by
    cases bd
    · rfl
    · rw [(hL.stay rfl).1] at hb'; cases hb'
  have q1 := v.cnt hbd
  have q2 := hL.cnt hb'
  have q3 := v.le
  have q4 := hL.le
  simp [wtL]
  omega
/-- A node of the variable's tree alone is what the function answers. -/
theorem VarAt.lone {w wr : World} {h nb c : Nat} {la : Option Addr} {cap : Nat} {L : List Tk} {i : Nat} {bad : Bool} {f : Nd} {x0 x1 x2 x3 x4 x5 : Value} {j : Nat} {bd : Bool} {k0 z : Int}
    (v : VarAt w wr h nb c la cap L i bad 2 f [x0, x1, x2, x3, x4, x5] j bd) (hc : c < h) (hwh : w.heap.size ≤ h) (a0 a1 a2 a3 a4 a5 : Value) :
    Left w (((((((wr.alloc (.cells #[x0, x1, x2, x3, x4, x5] 27)).setCell ⟨h, 0, none⟩ a0).setCell ⟨h, 1, none⟩ a1).setCell ⟨h, 2, none⟩ a2).setCell ⟨h, 3, none⟩ a3).setCell ⟨h, 4, none⟩ a4).setCell ⟨h, 5, none⟩ a5) w.heap.size c la cap L i bad 1 0 (.mk k0 ⟨#[]⟩ 0 [] z [f]) [.int .i64 k0, .string ⟨#[]⟩, .int .i64 0, .slice none 0 0, .int .i64 z, .slice (some ⟨wr.heap.size, 0, none⟩) 1 1] j bd := by
  have hb := bel_alloc wr (.cells #[x0, x1, x2, x3, x4, x5] 27)
  have vb := v.below hb
  have hh := (Array.getElem?_eq_some_iff.1 v.res).1
  have hrow := heap_alloc_new wr (.cells #[x0, x1, x2, x3, x4, x5] 27)
  have hsz := size_alloc wr (.cells #[x0, x1, x2, x3, x4, x5] 27)
  generalize wr.alloc (.cells #[x0, x1, x2, x3, x4, x5] 27) = W at *
  have K : KRow W (fun _ => True) wr.heap.size (h + 1) (.slice (some ⟨wr.heap.size, 0, none⟩) 1 1) [f] [[x0, x1, x2, x3, x4, x5]] := krow_one (vf := [x0, x1, x2, x3, x4, x5]) hrow (Nat.le_refl _) (v.tree.later (w' := W) (fun g hg => ⟨⟨⟨by have := hg.1.1; have := hg.2.1; omega, by have := hg.1.2; omega⟩, trivial⟩, by have := hg.1.2; omega⟩) (fun p hp => hb.cell hp.1.2))
  refine RS.kids vb.rs hc hwh K (by omega) (by omega) (fun y hy => by simp at hy; rcases hy with rfl; exact v.sm) (fun hb' => ?_) _ _ _ _ _ _
  have q1 := v.cnt hb'
  simp [wtL]
  omega

set_option maxRecDepth 100000 in
set_option maxHeartbeats 12800000 in
theorem stat_any (c : Nat) (la : Option Addr) (cap : Nat) (L : List Tk) (i : Nat) (w : World) (h : PS w c la cap L i false)
    (HP : PrefixOk c la cap L i false) (HE : ∀ j bd, (bd = true ∨ i < j) → ExpOk 0 c la cap L j bd) (HB : ∀ j bd, (bd = true ∨ i < j) → BlockOk c la cap L j bd) (HL : LocalOk c la cap L (i + 1) false) (HI : IfOk c la cap L (i + 1) false) :
    Reads 57 #[.pointer (some ⟨c, 0, none⟩)] w w.heap.size c la cap L i false 1 0 := by
  obtain ⟨i0, hi0, hz0, hz1, hz2⟩ := info_parts info_nd
  have hch := h.lt
  unfold Reads
  go_enter Try.func57, Try.ntmps57
  go_wp2_with fail
  have R0 := RS.start h
  refine (line_any c la cap L i false _ R0.ps).mono ?_
  rintro e w1 ⟨⟨z, rfl⟩, hb1⟩
  have R1 := R0.below hch hb1
  clear R0 hb1
  go_wp2_with fail
  refine (is_any c la cap L i false ⟨#[108, 111, 99, 97, 108]⟩ _ R1.ps).mono ?_
  rintro e w2 ⟨⟨b2, rfl, hb2'⟩, hb2⟩
  have R2 := R1.below hch hb2
  cases b2
  · clear R1
    go_wp2_with fail
    refine (is_any c la cap L i false ⟨#[105, 102]⟩ _ R2.ps).mono ?_
    rintro e w3 ⟨⟨b3, rfl, hb3'⟩, hb3⟩
    have R3 := R2.below hch hb3
    cases b3
    · clear R2
      go_wp2_with fail
      refine (is_any c la cap L i false ⟨#[119, 104, 105, 108, 101]⟩ _ R3.ps).mono ?_
      rintro e w4 ⟨⟨b4, rfl, hb4'⟩, hb4⟩
      have R4 := R3.below hch hb4
      cases b4
      · clear R3
        go_wp2_with fail
        refine (is_any c la cap L i false ⟨#[114, 101, 116, 117, 114, 110]⟩ _ R4.ps).mono ?_
        rintro e w5 ⟨⟨b5, rfl, hb5'⟩, hb5⟩
        have R5 := R4.below hch hb5
        cases b5
        · clear R4
          go_wp2_with fail
          refine (is_any c la cap L i false ⟨#[98, 114, 101, 97, 107]⟩ _ R5.ps).mono ?_
          rintro e w6 ⟨⟨b6, rfl, hb6'⟩, hb6⟩
          have R6 := R5.below hch hb6
          cases b6
          · clear R5
            go_wp2_with fail
            refine (HP _ R6.ps).mono ?_
            rintro e w7 ⟨x, u, j7, bd7, rfl, hL⟩
            obtain ⟨k7, t7, n7, m7, a7, ca7, y7, b7, cb7, kk7, rfl⟩ := np_cells hL.tree
            have hs6 := (Array.getElem?_eq_some_iff.1 R6.res).1
            have R7 := R6.grown hch hL.by' hL.ps hL.le hL.stay
            have V8 : VarAt w (w7.alloc (.cells #[.int .i64 k7, .string t7, .int .i64 n7, .slice a7 m7 ca7, .int .i64 y7, .slice b7 kk7 cb7] 27)) w.heap.size w7.heap.size c la cap L i false 2 x [.int .i64 k7, .string t7, .int .i64 n7, .slice a7 m7 ca7, .int .i64 y7, .slice b7 kk7 cb7] j7 bd7 := R7.at' hs6 hL
            have hs7 : w.heap.size < w7.heap.size := (Array.getElem?_eq_some_iff.1 R7.res).1
            clear hL R7
            go_upto_region 25 with fail
            generalize w7.alloc (.cells #[.int .i64 k7, .string t7, .int .i64 n7, .slice a7 m7 ca7, .int .i64 y7, .slice b7 kk7 cb7] 27) = w8 at V8 ⊢
            have hcn : c ≠ w7.heap.size := by omega
            have hcn' : w7.heap.size ≠ c := hcn.symm
            have hj7 := V8.le
            have hcnt7 := V8.cnt
            have pc2 := V8.ps.c2
            have pf2 := V8.ps.f 2
            have c0 := V8.cells 0
            have c1 := V8.cells 1
            have c2 := V8.cells 2
            have c3 := V8.cells 3
            have c4 := V8.cells 4
            have c5 := V8.cells 5
            simp only [List.getElem?_cons_zero, List.getElem?_cons_succ] at c0 c1 c2 c3 c4 c5
            by_cases hk : k7 = 18
            · subst hk
              cases bd7
              · have k8h : w.heap.size < w8.heap.size := (Array.getElem?_eq_some_iff.1 V8.res).1
                have k8n : w7.heap.size < w8.heap.size := (Array.getElem?_eq_some_iff.1 V8.var).1
                have h9 := V8.lone (k0 := 8) (z := z) hch (Nat.le_refl _) (.int .i64 8) (.string ⟨#[]⟩) (.int .i64 0) (.slice none 0 0) (.int .i64 z) (.slice (some ⟨w8.heap.size, 0, none⟩) 1 1)
                rw [World.setCell_alloc_past _ _ _ _ k8h, World.setCell_alloc_past _ _ _ _ (by simpa using k8h), World.setCell_alloc_past _ _ _ _ (by simpa using k8h), World.setCell_alloc_past _ _ _ _ (by simpa using k8h), World.setCell_alloc_past _ _ _ _ (by simpa using k8h), World.setCell_alloc_past _ _ _ _ (by simpa using k8h)] at h9
                have HW9 : Hid (Left w _ _ _ _ _ _ _ _ _ _ _ _ _ _) := h9
                clear h9
                have d0 := cell_of_row _ _ 0 _ _ _ V8.res
                have g0 := frozen_of_row _ _ 0 _ _ V8.res
                have d1 := cell_of_row _ _ 1 _ _ _ V8.res
                have g1 := frozen_of_row _ _ 1 _ _ V8.res
                have d2 := cell_of_row _ _ 2 _ _ _ V8.res
                have g2 := frozen_of_row _ _ 2 _ _ V8.res
                have d3 := cell_of_row _ _ 3 _ _ _ V8.res
                have g3 := frozen_of_row _ _ 3 _ _ V8.res
                have d4 := cell_of_row _ _ 4 _ _ _ V8.res
                have g4 := frozen_of_row _ _ 4 _ _ V8.res
                have d5 := cell_of_row _ _ 5 _ _ _ V8.res
                have g5 := frozen_of_row _ _ 5 _ _ V8.res
                simp only [List.getElem?_toArray, List.getElem?_cons_zero, List.getElem?_cons_succ] at d0 d1 d2 d3 d4 d5
                go_wp2_with fail
                refine bodyPost_ret (v := .agg #[.int .i64 8, .string ⟨#[]⟩, .int .i64 0, .slice none 0 0, .int .i64 z, .slice (some ⟨w8.heap.size, 0, none⟩) 1 1]) (by simp [results, Try.results57, go_sem, *]) rfl (by first | exact ⟨_, [.int .i64 8, .string ⟨#[]⟩, .int .i64 0, .slice none 0 0, .int .i64 z, .slice (some ⟨w8.heap.size, 0, none⟩) 1 1], _, _, rfl, HW9.out⟩ | exact ⟨_, [.int .i64 8, .string ⟨#[]⟩, .int .i64 0, .slice none 0 0, .int .i64 z, .slice (some ⟨w8.heap.size, 0, none⟩) 1 1], rfl, _, Or.inl HW9.out⟩)
              · have VX := V8.bad! hch hcn
                go_wp2_with fail
                refine (take_any c la cap L j7 true ⟨#[61]⟩ _ VX.ps).mono ?_
                rintro e w10 ⟨rfl, j10, bd10, h10, ht10, hg10⟩
                have V10 := VX.step hch hcn hg10 h10 (took_le ht10).1 (took_le ht10).2
                have hle10 := (took_le ht10).1
                have EXJ : bd10 = true ∨ i < j10 := by
                  cases bd10
                  · have := V10.cnt rfl
                    exact Or.inr (by omega)
                  · exact Or.inl rfl
                have VD := V10.drew
                have EX := HE j10 bd10 EXJ _ VD.ps
                have c0 := V10.cells 0
                have c1 := V10.cells 1
                have c2 := V10.cells 2
                have c3 := V10.cells 3
                have c4 := V10.cells 4
                have c5 := V10.cells 5
                simp only [List.getElem?_cons_zero, List.getElem?_cons_succ] at c0 c1 c2 c3 c4 c5
                go_wp2_with fail
                go_region_with (first | (go_at_call 65; refine EX.mono ?_; rintro e we ⟨y, v9, je, bde, rfl, hLe⟩; obtain ⟨k3, t3, n3, m3, a3, ca3, y3, b3, cb3, kk3, rfl⟩ := np_cells hLe.tree; have VE := VD.step hch hcn hLe.by' hLe.ps hLe.le hLe.stay; have keh := (Array.getElem?_eq_some_iff.1 VE.res).1; have q0 := VE.cells 0; have q1 := VE.cells 1; have q2 := VE.cells 2; have q3 := VE.cells 3; have q4 := VE.cells 4; have q5 := VE.cells 5; simp only [List.getElem?_cons_zero, List.getElem?_cons_succ] at q0 q1 q2 q3 q4 q5; have d0 := cell_of_row _ _ 0 _ _ _ VE.res; have g0 := frozen_of_row _ _ 0 _ _ VE.res; have qd0 : ∀ O : Obj, (we.alloc O).cell? ⟨w.heap.size, 0, none⟩ = we.cell? ⟨w.heap.size, 0, none⟩ := (fun O => (bel_alloc we O).cell (p := ⟨w.heap.size, 0, none⟩) keh); have qf0 : ∀ O : Obj, (we.alloc O).frozen? ⟨w.heap.size, 0, none⟩ = false := (fun O => ((bel_alloc we O).frozen (p := ⟨w.heap.size, 0, none⟩) keh).trans (frozen_of_row _ _ 0 _ _ VE.res)); have d1 := cell_of_row _ _ 1 _ _ _ VE.res; have g1 := frozen_of_row _ _ 1 _ _ VE.res; have qd1 : ∀ O : Obj, (we.alloc O).cell? ⟨w.heap.size, 1, none⟩ = we.cell? ⟨w.heap.size, 1, none⟩ := (fun O => (bel_alloc we O).cell (p := ⟨w.heap.size, 1, none⟩) keh); have qf1 : ∀ O : Obj, (we.alloc O).frozen? ⟨w.heap.size, 1, none⟩ = false := (fun O => ((bel_alloc we O).frozen (p := ⟨w.heap.size, 1, none⟩) keh).trans (frozen_of_row _ _ 1 _ _ VE.res)); have d2 := cell_of_row _ _ 2 _ _ _ VE.res; have g2 := frozen_of_row _ _ 2 _ _ VE.res; have qd2 : ∀ O : Obj, (we.alloc O).cell? ⟨w.heap.size, 2, none⟩ = we.cell? ⟨w.heap.size, 2, none⟩ := (fun O => (bel_alloc we O).cell (p := ⟨w.heap.size, 2, none⟩) keh); have qf2 : ∀ O : Obj, (we.alloc O).frozen? ⟨w.heap.size, 2, none⟩ = false := (fun O => ((bel_alloc we O).frozen (p := ⟨w.heap.size, 2, none⟩) keh).trans (frozen_of_row _ _ 2 _ _ VE.res)); have d3 := cell_of_row _ _ 3 _ _ _ VE.res; have g3 := frozen_of_row _ _ 3 _ _ VE.res; have qd3 : ∀ O : Obj, (we.alloc O).cell? ⟨w.heap.size, 3, none⟩ = we.cell? ⟨w.heap.size, 3, none⟩ := (fun O => (bel_alloc we O).cell (p := ⟨w.heap.size, 3, none⟩) keh); have qf3 : ∀ O : Obj, (we.alloc O).frozen? ⟨w.heap.size, 3, none⟩ = false := (fun O => ((bel_alloc we O).frozen (p := ⟨w.heap.size, 3, none⟩) keh).trans (frozen_of_row _ _ 3 _ _ VE.res)); have d4 := cell_of_row _ _ 4 _ _ _ VE.res; have g4 := frozen_of_row _ _ 4 _ _ VE.res; have qd4 : ∀ O : Obj, (we.alloc O).cell? ⟨w.heap.size, 4, none⟩ = we.cell? ⟨w.heap.size, 4, none⟩ := (fun O => (bel_alloc we O).cell (p := ⟨w.heap.size, 4, none⟩) keh); have qf4 : ∀ O : Obj, (we.alloc O).frozen? ⟨w.heap.size, 4, none⟩ = false := (fun O => ((bel_alloc we O).frozen (p := ⟨w.heap.size, 4, none⟩) keh).trans (frozen_of_row _ _ 4 _ _ VE.res)); have d5 := cell_of_row _ _ 5 _ _ _ VE.res; have g5 := frozen_of_row _ _ 5 _ _ VE.res; have qd5 : ∀ O : Obj, (we.alloc O).cell? ⟨w.heap.size, 5, none⟩ = we.cell? ⟨w.heap.size, 5, none⟩ := (fun O => (bel_alloc we O).cell (p := ⟨w.heap.size, 5, none⟩) keh); have qf5 : ∀ O : Obj, (we.alloc O).frozen? ⟨w.heap.size, 5, none⟩ = false := (fun O => ((bel_alloc we O).frozen (p := ⟨w.heap.size, 5, none⟩) keh).trans (frozen_of_row _ _ 5 _ _ VE.res)); simp only [List.getElem?_toArray, List.getElem?_cons_zero, List.getElem?_cons_succ] at d0 d1 d2 d3 d4 d5))
                all_goals
                  have h9 := VarAt.pair (k0 := 7) (z := z) VD hch (Nat.le_refl _) hcn hLe (.int .i64 7) (.string ⟨#[]⟩) (.int .i64 0) (.slice none 0 0) (.int .i64 z) (.slice (some ⟨we.heap.size, 0, none⟩) 2 2)
                  rw [World.setCell_alloc_past _ _ _ _ keh, World.setCell_alloc_past _ _ _ _ (by simpa using keh), World.setCell_alloc_past _ _ _ _ (by simpa using keh), World.setCell_alloc_past _ _ _ _ (by simpa using keh), World.setCell_alloc_past _ _ _ _ (by simpa using keh), World.setCell_alloc_past _ _ _ _ (by simpa using keh)] at h9
                  have r9 := ((bel_alloc ((((((we.setCell ⟨w.heap.size, 0, none⟩ (.int .i64 7)).setCell ⟨w.heap.size, 1, none⟩ (.string ⟨#[]⟩)).setCell ⟨w.heap.size, 2, none⟩ (.int .i64 0)).setCell ⟨w.heap.size, 3, none⟩ (.slice none 0 0)).setCell ⟨w.heap.size, 4, none⟩ (.int .i64 z)).setCell ⟨w.heap.size, 5, none⟩ (.slice (some ⟨we.heap.size, 0, none⟩) 2 2)) (.cells #[.int .i64 18, .string t7, .int .i64 n7, .slice a7 m7 ca7, .int .i64 y7, .slice b7 kk7 cb7, .int .i64 k3, .string t3, .int .i64 n3, .slice a3 m3 ca3, .int .i64 y3, .slice b3 kk3 cb3] 27)).block w.heap.size (by rw [six_size]; exact keh)).trans (six_var (.int .i64 7) (.string ⟨#[]⟩) (.int .i64 0) (.slice none 0 0) (.int .i64 z) (.slice (some ⟨we.heap.size, 0, none⟩) 2 2) VE.res)
                  generalize (((((((we.setCell ⟨w.heap.size, 0, none⟩ (.int .i64 7)).setCell ⟨w.heap.size, 1, none⟩ (.string ⟨#[]⟩)).setCell ⟨w.heap.size, 2, none⟩ (.int .i64 0)).setCell ⟨w.heap.size, 3, none⟩ (.slice none 0 0)).setCell ⟨w.heap.size, 4, none⟩ (.int .i64 z)).setCell ⟨w.heap.size, 5, none⟩ (.slice (some ⟨we.heap.size, 0, none⟩) 2 2)).alloc (.cells #[.int .i64 18, .string t7, .int .i64 n7, .slice a7 m7 ca7, .int .i64 y7, .slice b7 kk7 cb7, .int .i64 k3, .string t3, .int .i64 n3, .slice a3 m3 ca3, .int .i64 y3, .slice b3 kk3 cb3] 27)) = W9 at h9 r9 ⊢
                  clear EX hLe VE q0 q1 q2 q3 q4 q5 d0 d1 d2 d3 d4 d5 g0 g1 g2 g3 g4 g5 qd0 qd1 qd2 qd3 qd4 qd5 qf0 qf1 qf2 qf3 qf4 qf5
                  have d0 := cell_of_row _ _ 0 _ _ _ r9
                  have g0 := frozen_of_row _ _ 0 _ _ r9
                  have d1 := cell_of_row _ _ 1 _ _ _ r9
                  have g1 := frozen_of_row _ _ 1 _ _ r9
                  have d2 := cell_of_row _ _ 2 _ _ _ r9
                  have g2 := frozen_of_row _ _ 2 _ _ r9
                  have d3 := cell_of_row _ _ 3 _ _ _ r9
                  have g3 := frozen_of_row _ _ 3 _ _ r9
                  have d4 := cell_of_row _ _ 4 _ _ _ r9
                  have g4 := frozen_of_row _ _ 4 _ _ r9
                  have d5 := cell_of_row _ _ 5 _ _ _ r9
                  have g5 := frozen_of_row _ _ 5 _ _ r9
                  simp only [List.getElem?_toArray, List.getElem?_cons_zero, List.getElem?_cons_succ] at d0 d1 d2 d3 d4 d5
                  go_wp2_with fail
                  refine bodyPost_ret (v := .agg #[.int .i64 7, .string ⟨#[]⟩, .int .i64 0, .slice none 0 0, .int .i64 z, .slice (some ⟨we.heap.size, 0, none⟩) 2 2]) (by simp [results, Try.results57, go_sem, *]) rfl (by first | exact ⟨_, [.int .i64 7, .string ⟨#[]⟩, .int .i64 0, .slice none 0 0, .int .i64 z, .slice (some ⟨we.heap.size, 0, none⟩) 2 2], _, _, rfl, h9⟩ | (cases bde <;> first | exact ⟨_, [.int .i64 7, .string ⟨#[]⟩, .int .i64 0, .slice none 0 0, .int .i64 z, .slice (some ⟨we.heap.size, 0, none⟩) 2 2], rfl, _, Or.inl h9⟩ | exact ⟨_, [.int .i64 7, .string ⟨#[]⟩, .int .i64 0, .slice none 0 0, .int .i64 z, .slice (some ⟨we.heap.size, 0, none⟩) 2 2], rfl, _, Or.inr h9⟩))
            · by_cases h14 : k7 = 14
              · subst h14
                have VX := V8
                go_wp2_with fail
                refine (take_any c la cap L j7 bd7 ⟨#[61]⟩ _ VX.ps).mono ?_
                rintro e w10 ⟨rfl, j10, bd10, h10, ht10, hg10⟩
                have V10 := VX.step hch hcn hg10 h10 (took_le ht10).1 (took_le ht10).2
                have hle10 := (took_le ht10).1
                have EXJ : bd10 = true ∨ i < j10 := by
                  cases bd10
                  · have := V10.cnt rfl
                    exact Or.inr (by omega)
                  · exact Or.inl rfl
                have VD := V10.drew
                have EX := HE j10 bd10 EXJ _ VD.ps
                have c0 := V10.cells 0
                have c1 := V10.cells 1
                have c2 := V10.cells 2
                have c3 := V10.cells 3
                have c4 := V10.cells 4
                have c5 := V10.cells 5
                simp only [List.getElem?_cons_zero, List.getElem?_cons_succ] at c0 c1 c2 c3 c4 c5
                go_wp2_with fail
                go_region_with (first | (go_at_call 65; refine EX.mono ?_; rintro e we ⟨y, v9, je, bde, rfl, hLe⟩; obtain ⟨k3, t3, n3, m3, a3, ca3, y3, b3, cb3, kk3, rfl⟩ := np_cells hLe.tree; have VE := VD.step hch hcn hLe.by' hLe.ps hLe.le hLe.stay; have keh := (Array.getElem?_eq_some_iff.1 VE.res).1; have q0 := VE.cells 0; have q1 := VE.cells 1; have q2 := VE.cells 2; have q3 := VE.cells 3; have q4 := VE.cells 4; have q5 := VE.cells 5; simp only [List.getElem?_cons_zero, List.getElem?_cons_succ] at q0 q1 q2 q3 q4 q5; have d0 := cell_of_row _ _ 0 _ _ _ VE.res; have g0 := frozen_of_row _ _ 0 _ _ VE.res; have qd0 : ∀ O : Obj, (we.alloc O).cell? ⟨w.heap.size, 0, none⟩ = we.cell? ⟨w.heap.size, 0, none⟩ := (fun O => (bel_alloc we O).cell (p := ⟨w.heap.size, 0, none⟩) keh); have qf0 : ∀ O : Obj, (we.alloc O).frozen? ⟨w.heap.size, 0, none⟩ = false := (fun O => ((bel_alloc we O).frozen (p := ⟨w.heap.size, 0, none⟩) keh).trans (frozen_of_row _ _ 0 _ _ VE.res)); have d1 := cell_of_row _ _ 1 _ _ _ VE.res; have g1 := frozen_of_row _ _ 1 _ _ VE.res; have qd1 : ∀ O : Obj, (we.alloc O).cell? ⟨w.heap.size, 1, none⟩ = we.cell? ⟨w.heap.size, 1, none⟩ := (fun O => (bel_alloc we O).cell (p := ⟨w.heap.size, 1, none⟩) keh); have qf1 : ∀ O : Obj, (we.alloc O).frozen? ⟨w.heap.size, 1, none⟩ = false := (fun O => ((bel_alloc we O).frozen (p := ⟨w.heap.size, 1, none⟩) keh).trans (frozen_of_row _ _ 1 _ _ VE.res)); have d2 := cell_of_row _ _ 2 _ _ _ VE.res; have g2 := frozen_of_row _ _ 2 _ _ VE.res; have qd2 : ∀ O : Obj, (we.alloc O).cell? ⟨w.heap.size, 2, none⟩ = we.cell? ⟨w.heap.size, 2, none⟩ := (fun O => (bel_alloc we O).cell (p := ⟨w.heap.size, 2, none⟩) keh); have qf2 : ∀ O : Obj, (we.alloc O).frozen? ⟨w.heap.size, 2, none⟩ = false := (fun O => ((bel_alloc we O).frozen (p := ⟨w.heap.size, 2, none⟩) keh).trans (frozen_of_row _ _ 2 _ _ VE.res)); have d3 := cell_of_row _ _ 3 _ _ _ VE.res; have g3 := frozen_of_row _ _ 3 _ _ VE.res; have qd3 : ∀ O : Obj, (we.alloc O).cell? ⟨w.heap.size, 3, none⟩ = we.cell? ⟨w.heap.size, 3, none⟩ := (fun O => (bel_alloc we O).cell (p := ⟨w.heap.size, 3, none⟩) keh); have qf3 : ∀ O : Obj, (we.alloc O).frozen? ⟨w.heap.size, 3, none⟩ = false := (fun O => ((bel_alloc we O).frozen (p := ⟨w.heap.size, 3, none⟩) keh).trans (frozen_of_row _ _ 3 _ _ VE.res)); have d4 := cell_of_row _ _ 4 _ _ _ VE.res; have g4 := frozen_of_row _ _ 4 _ _ VE.res; have qd4 : ∀ O : Obj, (we.alloc O).cell? ⟨w.heap.size, 4, none⟩ = we.cell? ⟨w.heap.size, 4, none⟩ := (fun O => (bel_alloc we O).cell (p := ⟨w.heap.size, 4, none⟩) keh); have qf4 : ∀ O : Obj, (we.alloc O).frozen? ⟨w.heap.size, 4, none⟩ = false := (fun O => ((bel_alloc we O).frozen (p := ⟨w.heap.size, 4, none⟩) keh).trans (frozen_of_row _ _ 4 _ _ VE.res)); have d5 := cell_of_row _ _ 5 _ _ _ VE.res; have g5 := frozen_of_row _ _ 5 _ _ VE.res; have qd5 : ∀ O : Obj, (we.alloc O).cell? ⟨w.heap.size, 5, none⟩ = we.cell? ⟨w.heap.size, 5, none⟩ := (fun O => (bel_alloc we O).cell (p := ⟨w.heap.size, 5, none⟩) keh); have qf5 : ∀ O : Obj, (we.alloc O).frozen? ⟨w.heap.size, 5, none⟩ = false := (fun O => ((bel_alloc we O).frozen (p := ⟨w.heap.size, 5, none⟩) keh).trans (frozen_of_row _ _ 5 _ _ VE.res)); simp only [List.getElem?_toArray, List.getElem?_cons_zero, List.getElem?_cons_succ] at d0 d1 d2 d3 d4 d5))
                all_goals
                  have h9 := VarAt.pair (k0 := 7) (z := z) VD hch (Nat.le_refl _) hcn hLe (.int .i64 7) (.string ⟨#[]⟩) (.int .i64 0) (.slice none 0 0) (.int .i64 z) (.slice (some ⟨we.heap.size, 0, none⟩) 2 2)
                  rw [World.setCell_alloc_past _ _ _ _ keh, World.setCell_alloc_past _ _ _ _ (by simpa using keh), World.setCell_alloc_past _ _ _ _ (by simpa using keh), World.setCell_alloc_past _ _ _ _ (by simpa using keh), World.setCell_alloc_past _ _ _ _ (by simpa using keh), World.setCell_alloc_past _ _ _ _ (by simpa using keh)] at h9
                  have r9 := ((bel_alloc ((((((we.setCell ⟨w.heap.size, 0, none⟩ (.int .i64 7)).setCell ⟨w.heap.size, 1, none⟩ (.string ⟨#[]⟩)).setCell ⟨w.heap.size, 2, none⟩ (.int .i64 0)).setCell ⟨w.heap.size, 3, none⟩ (.slice none 0 0)).setCell ⟨w.heap.size, 4, none⟩ (.int .i64 z)).setCell ⟨w.heap.size, 5, none⟩ (.slice (some ⟨we.heap.size, 0, none⟩) 2 2)) (.cells #[.int .i64 14, .string t7, .int .i64 n7, .slice a7 m7 ca7, .int .i64 y7, .slice b7 kk7 cb7, .int .i64 k3, .string t3, .int .i64 n3, .slice a3 m3 ca3, .int .i64 y3, .slice b3 kk3 cb3] 27)).block w.heap.size (by rw [six_size]; exact keh)).trans (six_var (.int .i64 7) (.string ⟨#[]⟩) (.int .i64 0) (.slice none 0 0) (.int .i64 z) (.slice (some ⟨we.heap.size, 0, none⟩) 2 2) VE.res)
                  generalize (((((((we.setCell ⟨w.heap.size, 0, none⟩ (.int .i64 7)).setCell ⟨w.heap.size, 1, none⟩ (.string ⟨#[]⟩)).setCell ⟨w.heap.size, 2, none⟩ (.int .i64 0)).setCell ⟨w.heap.size, 3, none⟩ (.slice none 0 0)).setCell ⟨w.heap.size, 4, none⟩ (.int .i64 z)).setCell ⟨w.heap.size, 5, none⟩ (.slice (some ⟨we.heap.size, 0, none⟩) 2 2)).alloc (.cells #[.int .i64 14, .string t7, .int .i64 n7, .slice a7 m7 ca7, .int .i64 y7, .slice b7 kk7 cb7, .int .i64 k3, .string t3, .int .i64 n3, .slice a3 m3 ca3, .int .i64 y3, .slice b3 kk3 cb3] 27)) = W9 at h9 r9 ⊢
                  clear EX hLe VE q0 q1 q2 q3 q4 q5 d0 d1 d2 d3 d4 d5 g0 g1 g2 g3 g4 g5 qd0 qd1 qd2 qd3 qd4 qd5 qf0 qf1 qf2 qf3 qf4 qf5
                  have d0 := cell_of_row _ _ 0 _ _ _ r9
                  have g0 := frozen_of_row _ _ 0 _ _ r9
                  have d1 := cell_of_row _ _ 1 _ _ _ r9
                  have g1 := frozen_of_row _ _ 1 _ _ r9
                  have d2 := cell_of_row _ _ 2 _ _ _ r9
                  have g2 := frozen_of_row _ _ 2 _ _ r9
                  have d3 := cell_of_row _ _ 3 _ _ _ r9
                  have g3 := frozen_of_row _ _ 3 _ _ r9
                  have d4 := cell_of_row _ _ 4 _ _ _ r9
                  have g4 := frozen_of_row _ _ 4 _ _ r9
                  have d5 := cell_of_row _ _ 5 _ _ _ r9
                  have g5 := frozen_of_row _ _ 5 _ _ r9
                  simp only [List.getElem?_toArray, List.getElem?_cons_zero, List.getElem?_cons_succ] at d0 d1 d2 d3 d4 d5
                  go_wp2_with fail
                  refine bodyPost_ret (v := .agg #[.int .i64 7, .string ⟨#[]⟩, .int .i64 0, .slice none 0 0, .int .i64 z, .slice (some ⟨we.heap.size, 0, none⟩) 2 2]) (by simp [results, Try.results57, go_sem, *]) rfl (by first | exact ⟨_, [.int .i64 7, .string ⟨#[]⟩, .int .i64 0, .slice none 0 0, .int .i64 z, .slice (some ⟨we.heap.size, 0, none⟩) 2 2], _, _, rfl, h9⟩ | (cases bde <;> first | exact ⟨_, [.int .i64 7, .string ⟨#[]⟩, .int .i64 0, .slice none 0 0, .int .i64 z, .slice (some ⟨we.heap.size, 0, none⟩) 2 2], rfl, _, Or.inl h9⟩ | exact ⟨_, [.int .i64 7, .string ⟨#[]⟩, .int .i64 0, .slice none 0 0, .int .i64 z, .slice (some ⟨we.heap.size, 0, none⟩) 2 2], rfl, _, Or.inr h9⟩))
              · by_cases h17 : k7 = 17
                · subst h17
                  have VX := V8
                  go_wp2_with fail
                  refine (take_any c la cap L j7 bd7 ⟨#[61]⟩ _ VX.ps).mono ?_
                  rintro e w10 ⟨rfl, j10, bd10, h10, ht10, hg10⟩
                  have V10 := VX.step hch hcn hg10 h10 (took_le ht10).1 (took_le ht10).2
                  have hle10 := (took_le ht10).1
                  have EXJ : bd10 = true ∨ i < j10 := by
                    cases bd10
                    · have := V10.cnt rfl
                      exact Or.inr (by omega)
                    · exact Or.inl rfl
                  have VD := V10.drew
                  have EX := HE j10 bd10 EXJ _ VD.ps
                  have c0 := V10.cells 0
                  have c1 := V10.cells 1
                  have c2 := V10.cells 2
                  have c3 := V10.cells 3
                  have c4 := V10.cells 4
                  have c5 := V10.cells 5
                  simp only [List.getElem?_cons_zero, List.getElem?_cons_succ] at c0 c1 c2 c3 c4 c5
                  go_wp2_with fail
                  go_region_with (first | (go_at_call 65; refine EX.mono ?_; rintro e we ⟨y, v9, je, bde, rfl, hLe⟩; obtain ⟨k3, t3, n3, m3, a3, ca3, y3, b3, cb3, kk3, rfl⟩ := np_cells hLe.tree; have VE := VD.step hch hcn hLe.by' hLe.ps hLe.le hLe.stay; have keh := (Array.getElem?_eq_some_iff.1 VE.res).1; have q0 := VE.cells 0; have q1 := VE.cells 1; have q2 := VE.cells 2; have q3 := VE.cells 3; have q4 := VE.cells 4; have q5 := VE.cells 5; simp only [List.getElem?_cons_zero, List.getElem?_cons_succ] at q0 q1 q2 q3 q4 q5; have d0 := cell_of_row _ _ 0 _ _ _ VE.res; have g0 := frozen_of_row _ _ 0 _ _ VE.res; have qd0 : ∀ O : Obj, (we.alloc O).cell? ⟨w.heap.size, 0, none⟩ = we.cell? ⟨w.heap.size, 0, none⟩ := (fun O => (bel_alloc we O).cell (p := ⟨w.heap.size, 0, none⟩) keh); have qf0 : ∀ O : Obj, (we.alloc O).frozen? ⟨w.heap.size, 0, none⟩ = false := (fun O => ((bel_alloc we O).frozen (p := ⟨w.heap.size, 0, none⟩) keh).trans (frozen_of_row _ _ 0 _ _ VE.res)); have d1 := cell_of_row _ _ 1 _ _ _ VE.res; have g1 := frozen_of_row _ _ 1 _ _ VE.res; have qd1 : ∀ O : Obj, (we.alloc O).cell? ⟨w.heap.size, 1, none⟩ = we.cell? ⟨w.heap.size, 1, none⟩ := (fun O => (bel_alloc we O).cell (p := ⟨w.heap.size, 1, none⟩) keh); have qf1 : ∀ O : Obj, (we.alloc O).frozen? ⟨w.heap.size, 1, none⟩ = false := (fun O => ((bel_alloc we O).frozen (p := ⟨w.heap.size, 1, none⟩) keh).trans (frozen_of_row _ _ 1 _ _ VE.res)); have d2 := cell_of_row _ _ 2 _ _ _ VE.res; have g2 := frozen_of_row _ _ 2 _ _ VE.res; have qd2 : ∀ O : Obj, (we.alloc O).cell? ⟨w.heap.size, 2, none⟩ = we.cell? ⟨w.heap.size, 2, none⟩ := (fun O => (bel_alloc we O).cell (p := ⟨w.heap.size, 2, none⟩) keh); have qf2 : ∀ O : Obj, (we.alloc O).frozen? ⟨w.heap.size, 2, none⟩ = false := (fun O => ((bel_alloc we O).frozen (p := ⟨w.heap.size, 2, none⟩) keh).trans (frozen_of_row _ _ 2 _ _ VE.res)); have d3 := cell_of_row _ _ 3 _ _ _ VE.res; have g3 := frozen_of_row _ _ 3 _ _ VE.res; have qd3 : ∀ O : Obj, (we.alloc O).cell? ⟨w.heap.size, 3, none⟩ = we.cell? ⟨w.heap.size, 3, none⟩ := (fun O => (bel_alloc we O).cell (p := ⟨w.heap.size, 3, none⟩) keh); have qf3 : ∀ O : Obj, (we.alloc O).frozen? ⟨w.heap.size, 3, none⟩ = false := (fun O => ((bel_alloc we O).frozen (p := ⟨w.heap.size, 3, none⟩) keh).trans (frozen_of_row _ _ 3 _ _ VE.res)); have d4 := cell_of_row _ _ 4 _ _ _ VE.res; have g4 := frozen_of_row _ _ 4 _ _ VE.res; have qd4 : ∀ O : Obj, (we.alloc O).cell? ⟨w.heap.size, 4, none⟩ = we.cell? ⟨w.heap.size, 4, none⟩ := (fun O => (bel_alloc we O).cell (p := ⟨w.heap.size, 4, none⟩) keh); have qf4 : ∀ O : Obj, (we.alloc O).frozen? ⟨w.heap.size, 4, none⟩ = false := (fun O => ((bel_alloc we O).frozen (p := ⟨w.heap.size, 4, none⟩) keh).trans (frozen_of_row _ _ 4 _ _ VE.res)); have d5 := cell_of_row _ _ 5 _ _ _ VE.res; have g5 := frozen_of_row _ _ 5 _ _ VE.res; have qd5 : ∀ O : Obj, (we.alloc O).cell? ⟨w.heap.size, 5, none⟩ = we.cell? ⟨w.heap.size, 5, none⟩ := (fun O => (bel_alloc we O).cell (p := ⟨w.heap.size, 5, none⟩) keh); have qf5 : ∀ O : Obj, (we.alloc O).frozen? ⟨w.heap.size, 5, none⟩ = false := (fun O => ((bel_alloc we O).frozen (p := ⟨w.heap.size, 5, none⟩) keh).trans (frozen_of_row _ _ 5 _ _ VE.res)); simp only [List.getElem?_toArray, List.getElem?_cons_zero, List.getElem?_cons_succ] at d0 d1 d2 d3 d4 d5))
                  all_goals
                    have h9 := VarAt.pair (k0 := 7) (z := z) VD hch (Nat.le_refl _) hcn hLe (.int .i64 7) (.string ⟨#[]⟩) (.int .i64 0) (.slice none 0 0) (.int .i64 z) (.slice (some ⟨we.heap.size, 0, none⟩) 2 2)
                    rw [World.setCell_alloc_past _ _ _ _ keh, World.setCell_alloc_past _ _ _ _ (by simpa using keh), World.setCell_alloc_past _ _ _ _ (by simpa using keh), World.setCell_alloc_past _ _ _ _ (by simpa using keh), World.setCell_alloc_past _ _ _ _ (by simpa using keh), World.setCell_alloc_past _ _ _ _ (by simpa using keh)] at h9
                    have r9 := ((bel_alloc ((((((we.setCell ⟨w.heap.size, 0, none⟩ (.int .i64 7)).setCell ⟨w.heap.size, 1, none⟩ (.string ⟨#[]⟩)).setCell ⟨w.heap.size, 2, none⟩ (.int .i64 0)).setCell ⟨w.heap.size, 3, none⟩ (.slice none 0 0)).setCell ⟨w.heap.size, 4, none⟩ (.int .i64 z)).setCell ⟨w.heap.size, 5, none⟩ (.slice (some ⟨we.heap.size, 0, none⟩) 2 2)) (.cells #[.int .i64 17, .string t7, .int .i64 n7, .slice a7 m7 ca7, .int .i64 y7, .slice b7 kk7 cb7, .int .i64 k3, .string t3, .int .i64 n3, .slice a3 m3 ca3, .int .i64 y3, .slice b3 kk3 cb3] 27)).block w.heap.size (by rw [six_size]; exact keh)).trans (six_var (.int .i64 7) (.string ⟨#[]⟩) (.int .i64 0) (.slice none 0 0) (.int .i64 z) (.slice (some ⟨we.heap.size, 0, none⟩) 2 2) VE.res)
                    generalize (((((((we.setCell ⟨w.heap.size, 0, none⟩ (.int .i64 7)).setCell ⟨w.heap.size, 1, none⟩ (.string ⟨#[]⟩)).setCell ⟨w.heap.size, 2, none⟩ (.int .i64 0)).setCell ⟨w.heap.size, 3, none⟩ (.slice none 0 0)).setCell ⟨w.heap.size, 4, none⟩ (.int .i64 z)).setCell ⟨w.heap.size, 5, none⟩ (.slice (some ⟨we.heap.size, 0, none⟩) 2 2)).alloc (.cells #[.int .i64 17, .string t7, .int .i64 n7, .slice a7 m7 ca7, .int .i64 y7, .slice b7 kk7 cb7, .int .i64 k3, .string t3, .int .i64 n3, .slice a3 m3 ca3, .int .i64 y3, .slice b3 kk3 cb3] 27)) = W9 at h9 r9 ⊢
                    clear EX hLe VE q0 q1 q2 q3 q4 q5 d0 d1 d2 d3 d4 d5 g0 g1 g2 g3 g4 g5 qd0 qd1 qd2 qd3 qd4 qd5 qf0 qf1 qf2 qf3 qf4 qf5
                    have d0 := cell_of_row _ _ 0 _ _ _ r9
                    have g0 := frozen_of_row _ _ 0 _ _ r9
                    have d1 := cell_of_row _ _ 1 _ _ _ r9
                    have g1 := frozen_of_row _ _ 1 _ _ r9
                    have d2 := cell_of_row _ _ 2 _ _ _ r9
                    have g2 := frozen_of_row _ _ 2 _ _ r9
                    have d3 := cell_of_row _ _ 3 _ _ _ r9
                    have g3 := frozen_of_row _ _ 3 _ _ r9
                    have d4 := cell_of_row _ _ 4 _ _ _ r9
                    have g4 := frozen_of_row _ _ 4 _ _ r9
                    have d5 := cell_of_row _ _ 5 _ _ _ r9
                    have g5 := frozen_of_row _ _ 5 _ _ r9
                    simp only [List.getElem?_toArray, List.getElem?_cons_zero, List.getElem?_cons_succ] at d0 d1 d2 d3 d4 d5
                    go_wp2_with fail
                    refine bodyPost_ret (v := .agg #[.int .i64 7, .string ⟨#[]⟩, .int .i64 0, .slice none 0 0, .int .i64 z, .slice (some ⟨we.heap.size, 0, none⟩) 2 2]) (by simp [results, Try.results57, go_sem, *]) rfl (by first | exact ⟨_, [.int .i64 7, .string ⟨#[]⟩, .int .i64 0, .slice none 0 0, .int .i64 z, .slice (some ⟨we.heap.size, 0, none⟩) 2 2], _, _, rfl, h9⟩ | (cases bde <;> first | exact ⟨_, [.int .i64 7, .string ⟨#[]⟩, .int .i64 0, .slice none 0 0, .int .i64 z, .slice (some ⟨we.heap.size, 0, none⟩) 2 2], rfl, _, Or.inl h9⟩ | exact ⟨_, [.int .i64 7, .string ⟨#[]⟩, .int .i64 0, .slice none 0 0, .int .i64 z, .slice (some ⟨we.heap.size, 0, none⟩) 2 2], rfl, _, Or.inr h9⟩))
                · have VX := V8.bad! hch hcn
                  have b14 : (k7 != 14) = true := by simpa using h14
                  have b17 : (k7 != 17) = true := by simpa using h17
                  go_wp2_with fail
                  refine (take_any c la cap L j7 true ⟨#[61]⟩ _ VX.ps).mono ?_
                  rintro e w10 ⟨rfl, j10, bd10, h10, ht10, hg10⟩
                  have V10 := VX.step hch hcn hg10 h10 (took_le ht10).1 (took_le ht10).2
                  have hle10 := (took_le ht10).1
                  have EXJ : bd10 = true ∨ i < j10 := by
                    cases bd10
                    · have := V10.cnt rfl
                      exact Or.inr (by omega)
                    · exact Or.inl rfl
                  have VD := V10.drew
                  have EX := HE j10 bd10 EXJ _ VD.ps
                  have c0 := V10.cells 0
                  have c1 := V10.cells 1
                  have c2 := V10.cells 2
                  have c3 := V10.cells 3
                  have c4 := V10.cells 4
                  have c5 := V10.cells 5
                  simp only [List.getElem?_cons_zero, List.getElem?_cons_succ] at c0 c1 c2 c3 c4 c5
                  go_wp2_with fail
                  go_region_with (first | (go_at_call 65; refine EX.mono ?_; rintro e we ⟨y, v9, je, bde, rfl, hLe⟩; obtain ⟨k3, t3, n3, m3, a3, ca3, y3, b3, cb3, kk3, rfl⟩ := np_cells hLe.tree; have VE := VD.step hch hcn hLe.by' hLe.ps hLe.le hLe.stay; have keh := (Array.getElem?_eq_some_iff.1 VE.res).1; have q0 := VE.cells 0; have q1 := VE.cells 1; have q2 := VE.cells 2; have q3 := VE.cells 3; have q4 := VE.cells 4; have q5 := VE.cells 5; simp only [List.getElem?_cons_zero, List.getElem?_cons_succ] at q0 q1 q2 q3 q4 q5; have d0 := cell_of_row _ _ 0 _ _ _ VE.res; have g0 := frozen_of_row _ _ 0 _ _ VE.res; have qd0 : ∀ O : Obj, (we.alloc O).cell? ⟨w.heap.size, 0, none⟩ = we.cell? ⟨w.heap.size, 0, none⟩ := (fun O => (bel_alloc we O).cell (p := ⟨w.heap.size, 0, none⟩) keh); have qf0 : ∀ O : Obj, (we.alloc O).frozen? ⟨w.heap.size, 0, none⟩ = false := (fun O => ((bel_alloc we O).frozen (p := ⟨w.heap.size, 0, none⟩) keh).trans (frozen_of_row _ _ 0 _ _ VE.res)); have d1 := cell_of_row _ _ 1 _ _ _ VE.res; have g1 := frozen_of_row _ _ 1 _ _ VE.res; have qd1 : ∀ O : Obj, (we.alloc O).cell? ⟨w.heap.size, 1, none⟩ = we.cell? ⟨w.heap.size, 1, none⟩ := (fun O => (bel_alloc we O).cell (p := ⟨w.heap.size, 1, none⟩) keh); have qf1 : ∀ O : Obj, (we.alloc O).frozen? ⟨w.heap.size, 1, none⟩ = false := (fun O => ((bel_alloc we O).frozen (p := ⟨w.heap.size, 1, none⟩) keh).trans (frozen_of_row _ _ 1 _ _ VE.res)); have d2 := cell_of_row _ _ 2 _ _ _ VE.res; have g2 := frozen_of_row _ _ 2 _ _ VE.res; have qd2 : ∀ O : Obj, (we.alloc O).cell? ⟨w.heap.size, 2, none⟩ = we.cell? ⟨w.heap.size, 2, none⟩ := (fun O => (bel_alloc we O).cell (p := ⟨w.heap.size, 2, none⟩) keh); have qf2 : ∀ O : Obj, (we.alloc O).frozen? ⟨w.heap.size, 2, none⟩ = false := (fun O => ((bel_alloc we O).frozen (p := ⟨w.heap.size, 2, none⟩) keh).trans (frozen_of_row _ _ 2 _ _ VE.res)); have d3 := cell_of_row _ _ 3 _ _ _ VE.res; have g3 := frozen_of_row _ _ 3 _ _ VE.res; have qd3 : ∀ O : Obj, (we.alloc O).cell? ⟨w.heap.size, 3, none⟩ = we.cell? ⟨w.heap.size, 3, none⟩ := (fun O => (bel_alloc we O).cell (p := ⟨w.heap.size, 3, none⟩) keh); have qf3 : ∀ O : Obj, (we.alloc O).frozen? ⟨w.heap.size, 3, none⟩ = false := (fun O => ((bel_alloc we O).frozen (p := ⟨w.heap.size, 3, none⟩) keh).trans (frozen_of_row _ _ 3 _ _ VE.res)); have d4 := cell_of_row _ _ 4 _ _ _ VE.res; have g4 := frozen_of_row _ _ 4 _ _ VE.res; have qd4 : ∀ O : Obj, (we.alloc O).cell? ⟨w.heap.size, 4, none⟩ = we.cell? ⟨w.heap.size, 4, none⟩ := (fun O => (bel_alloc we O).cell (p := ⟨w.heap.size, 4, none⟩) keh); have qf4 : ∀ O : Obj, (we.alloc O).frozen? ⟨w.heap.size, 4, none⟩ = false := (fun O => ((bel_alloc we O).frozen (p := ⟨w.heap.size, 4, none⟩) keh).trans (frozen_of_row _ _ 4 _ _ VE.res)); have d5 := cell_of_row _ _ 5 _ _ _ VE.res; have g5 := frozen_of_row _ _ 5 _ _ VE.res; have qd5 : ∀ O : Obj, (we.alloc O).cell? ⟨w.heap.size, 5, none⟩ = we.cell? ⟨w.heap.size, 5, none⟩ := (fun O => (bel_alloc we O).cell (p := ⟨w.heap.size, 5, none⟩) keh); have qf5 : ∀ O : Obj, (we.alloc O).frozen? ⟨w.heap.size, 5, none⟩ = false := (fun O => ((bel_alloc we O).frozen (p := ⟨w.heap.size, 5, none⟩) keh).trans (frozen_of_row _ _ 5 _ _ VE.res)); simp only [List.getElem?_toArray, List.getElem?_cons_zero, List.getElem?_cons_succ] at d0 d1 d2 d3 d4 d5))
                  all_goals
                    have h9 := VarAt.pair (k0 := 7) (z := z) VD hch (Nat.le_refl _) hcn hLe (.int .i64 7) (.string ⟨#[]⟩) (.int .i64 0) (.slice none 0 0) (.int .i64 z) (.slice (some ⟨we.heap.size, 0, none⟩) 2 2)
                    rw [World.setCell_alloc_past _ _ _ _ keh, World.setCell_alloc_past _ _ _ _ (by simpa using keh), World.setCell_alloc_past _ _ _ _ (by simpa using keh), World.setCell_alloc_past _ _ _ _ (by simpa using keh), World.setCell_alloc_past _ _ _ _ (by simpa using keh), World.setCell_alloc_past _ _ _ _ (by simpa using keh)] at h9
                    have r9 := ((bel_alloc ((((((we.setCell ⟨w.heap.size, 0, none⟩ (.int .i64 7)).setCell ⟨w.heap.size, 1, none⟩ (.string ⟨#[]⟩)).setCell ⟨w.heap.size, 2, none⟩ (.int .i64 0)).setCell ⟨w.heap.size, 3, none⟩ (.slice none 0 0)).setCell ⟨w.heap.size, 4, none⟩ (.int .i64 z)).setCell ⟨w.heap.size, 5, none⟩ (.slice (some ⟨we.heap.size, 0, none⟩) 2 2)) (.cells #[.int .i64 k7, .string t7, .int .i64 n7, .slice a7 m7 ca7, .int .i64 y7, .slice b7 kk7 cb7, .int .i64 k3, .string t3, .int .i64 n3, .slice a3 m3 ca3, .int .i64 y3, .slice b3 kk3 cb3] 27)).block w.heap.size (by rw [six_size]; exact keh)).trans (six_var (.int .i64 7) (.string ⟨#[]⟩) (.int .i64 0) (.slice none 0 0) (.int .i64 z) (.slice (some ⟨we.heap.size, 0, none⟩) 2 2) VE.res)
                    generalize (((((((we.setCell ⟨w.heap.size, 0, none⟩ (.int .i64 7)).setCell ⟨w.heap.size, 1, none⟩ (.string ⟨#[]⟩)).setCell ⟨w.heap.size, 2, none⟩ (.int .i64 0)).setCell ⟨w.heap.size, 3, none⟩ (.slice none 0 0)).setCell ⟨w.heap.size, 4, none⟩ (.int .i64 z)).setCell ⟨w.heap.size, 5, none⟩ (.slice (some ⟨we.heap.size, 0, none⟩) 2 2)).alloc (.cells #[.int .i64 k7, .string t7, .int .i64 n7, .slice a7 m7 ca7, .int .i64 y7, .slice b7 kk7 cb7, .int .i64 k3, .string t3, .int .i64 n3, .slice a3 m3 ca3, .int .i64 y3, .slice b3 kk3 cb3] 27)) = W9 at h9 r9 ⊢
                    clear EX hLe VE q0 q1 q2 q3 q4 q5 d0 d1 d2 d3 d4 d5 g0 g1 g2 g3 g4 g5 qd0 qd1 qd2 qd3 qd4 qd5 qf0 qf1 qf2 qf3 qf4 qf5
                    have d0 := cell_of_row _ _ 0 _ _ _ r9
                    have g0 := frozen_of_row _ _ 0 _ _ r9
                    have d1 := cell_of_row _ _ 1 _ _ _ r9
                    have g1 := frozen_of_row _ _ 1 _ _ r9
                    have d2 := cell_of_row _ _ 2 _ _ _ r9
                    have g2 := frozen_of_row _ _ 2 _ _ r9
                    have d3 := cell_of_row _ _ 3 _ _ _ r9
                    have g3 := frozen_of_row _ _ 3 _ _ r9
                    have d4 := cell_of_row _ _ 4 _ _ _ r9
                    have g4 := frozen_of_row _ _ 4 _ _ r9
                    have d5 := cell_of_row _ _ 5 _ _ _ r9
                    have g5 := frozen_of_row _ _ 5 _ _ r9
                    simp only [List.getElem?_toArray, List.getElem?_cons_zero, List.getElem?_cons_succ] at d0 d1 d2 d3 d4 d5
                    go_wp2_with fail
                    refine bodyPost_ret (v := .agg #[.int .i64 7, .string ⟨#[]⟩, .int .i64 0, .slice none 0 0, .int .i64 z, .slice (some ⟨we.heap.size, 0, none⟩) 2 2]) (by simp [results, Try.results57, go_sem, *]) rfl (by first | exact ⟨_, [.int .i64 7, .string ⟨#[]⟩, .int .i64 0, .slice none 0 0, .int .i64 z, .slice (some ⟨we.heap.size, 0, none⟩) 2 2], _, _, rfl, h9⟩ | (cases bde <;> first | exact ⟨_, [.int .i64 7, .string ⟨#[]⟩, .int .i64 0, .slice none 0 0, .int .i64 z, .slice (some ⟨we.heap.size, 0, none⟩) 2 2], rfl, _, Or.inl h9⟩ | exact ⟨_, [.int .i64 7, .string ⟨#[]⟩, .int .i64 0, .slice none 0 0, .int .i64 z, .slice (some ⟨we.heap.size, 0, none⟩) 2 2], rfl, _, Or.inr h9⟩))
          · obtain ⟨-, hi⟩ := hb6' rfl
            have hi4 : i < 4000 := by have := R6.ps.len; omega
            have p1 := R6.ps.c1
            have pf1 := R6.ps.f 1
            have RN := R6.next hch hi
            have KN := KRow.none (w6.setCell ⟨c, 1, none⟩ (.int .i64 ((i : Int) + 1))) (fun _ => True) (w.heap.size + 1) (w.heap.size + 1)
            have d0 := cell_of_row _ _ 0 _ _ _ R6.res
            have g0 := frozen_of_row _ _ 0 _ _ R6.res
            have d1 := cell_of_row _ _ 1 _ _ _ R6.res
            have g1 := frozen_of_row _ _ 1 _ _ R6.res
            have d2 := cell_of_row _ _ 2 _ _ _ R6.res
            have g2 := frozen_of_row _ _ 2 _ _ R6.res
            have d3 := cell_of_row _ _ 3 _ _ _ R6.res
            have g3 := frozen_of_row _ _ 3 _ _ R6.res
            have d4 := cell_of_row _ _ 4 _ _ _ R6.res
            have g4 := frozen_of_row _ _ 4 _ _ R6.res
            have d5 := cell_of_row _ _ 5 _ _ _ R6.res
            have g5 := frozen_of_row _ _ 5 _ _ R6.res
            simp only [List.getElem?_toArray, List.getElem?_cons_zero, List.getElem?_cons_succ] at d0 d1 d2 d3 d4 d5
            have ne1 : c ≠ w.heap.size := by omega
            have ne2 : w.heap.size ≠ c := ne1.symm
            go_wp2_with fail
            refine bodyPost_ret (v := .agg #[.int .i64 6, .string ⟨#[]⟩, .int .i64 0, .slice none 0 0, .int .i64 z, .slice none 0 0]) (by simp [results, Try.results57, go_sem, *]) rfl ⟨_, [.int .i64 6, .string ⟨#[]⟩, .int .i64 0, .slice none 0 0, .int .i64 z, .slice none 0 0], _, _, rfl, RS.kids RN hch (Nat.le_refl _) KN (by omega) (Nat.le_refl _) (fun x hx => absurd hx (by simp)) (fun _ => by first | (simp [wtL]; done) | (simp [wtL]; omega)) _ _ _ _ _ _⟩
        · obtain ⟨-, hi⟩ := hb5' rfl
          have hi4 : i < 4000 := by have := R5.ps.len; omega
          have p1 := R5.ps.c1
          have pf1 := R5.ps.f 1
          have RN := R5.next hch hi
          have V3 := RN.var (.int .i64 5) (.string ⟨#[]⟩) (.int .i64 0) (.int .i64 z)
          simp only [World.size_setCell] at V3
          clear hb5'
          go_wp2_with fail
          refine (begins_any c la cap L (i + 1) false _ V3.ps).mono ?_
          rintro e w7 ⟨⟨b7, rfl⟩, hb7⟩
          have V7 := V3.grown hch (pg_below hb7) (V3.ps.below hb7) (Nat.le_refl _) (fun h => ⟨h, rfl⟩)
          clear V3 p1 pf1
          cases b7
          · have c0 := cell_of_row _ _ 0 _ _ _ V7.var
            have d0 := cell_of_row _ _ 0 _ _ _ V7.res
            have g0 := frozen_of_row _ _ 0 _ _ V7.res
            have c1 := cell_of_row _ _ 1 _ _ _ V7.var
            have d1 := cell_of_row _ _ 1 _ _ _ V7.res
            have g1 := frozen_of_row _ _ 1 _ _ V7.res
            have c2 := cell_of_row _ _ 2 _ _ _ V7.var
            have d2 := cell_of_row _ _ 2 _ _ _ V7.res
            have g2 := frozen_of_row _ _ 2 _ _ V7.res
            have c3 := cell_of_row _ _ 3 _ _ _ V7.var
            have d3 := cell_of_row _ _ 3 _ _ _ V7.res
            have g3 := frozen_of_row _ _ 3 _ _ V7.res
            have c4 := cell_of_row _ _ 4 _ _ _ V7.var
            have d4 := cell_of_row _ _ 4 _ _ _ V7.res
            have g4 := frozen_of_row _ _ 4 _ _ V7.res
            have c5 := cell_of_row _ _ 5 _ _ _ V7.var
            have d5 := cell_of_row _ _ 5 _ _ _ V7.res
            have g5 := frozen_of_row _ _ 5 _ _ V7.res
            simp only [List.getElem?_toArray, List.getElem?_cons_zero, List.getElem?_cons_succ] at c0 c1 c2 c3 c4 c5 d0 d1 d2 d3 d4 d5
            go_wp2_with fail
            refine bodyPost_ret (v := .agg #[.int .i64 5, .string ⟨#[]⟩, .int .i64 0, .slice none 0 0, .int .i64 z, .slice none 0 0]) (by simp [results, Try.results57, go_sem, *]) rfl ⟨_, _, _, _, rfl, VK.left V7 hch (Nat.le_refl _) (by decide) (fun s hs => absurd hs (by simp)) (by simp) (fun y hy => absurd hy (by simp)) (fun hb => ?_) _ _ _ _ _ _⟩
            first | (simp [wtL]; done) | (simp [wtL]; omega)
          · go_wp2_with fail
            have VD := V7.drew hch
            have EX := HE (i + 1) false (Or.inr (by omega)) _ VD.ps
            have n5 := cell_of_row _ _ 5 _ _ _ VD.var
            have nf5 := frozen_of_row _ _ 5 _ _ VD.var
            simp only [List.getElem?_toArray, List.getElem?_cons_zero, List.getElem?_cons_succ] at n5
            go_region_law
              (first
                | (refine step_append_lies _ rfl _ _ _ rfl _ 27 i0 _ 6 88 Try.underlying25 hi0 hz0 hz1 hz2 rfl (by decide) _ _ _ rfl (V3.kids.own.alloc _) ⟨w3.heap.size, 0, none⟩ 1 1 [.int .i64 k3, .string t3, .int .i64 n3, .slice a3 m3 ca3, .int .i64 y3, .slice b3 kk3 cb3] rfl rfl (node_cells _ _ _ _ rfl) (node_one _ _ _ _ _ _ _ _ _ _) (by decide) (by first | (unfold maxLen; omega) | (simp [maxLen]; done)) (by first | omega | (simp; done)) (by have := V3.hnb; have := V3.hn; simp; omega) _ rfl ?_; intro g6 cp6 w6 hown6 hgrow6 hat6 hlt6; have qn6 := (hgrow6.cell_far ⟨w5.heap.size, 5, none⟩ (by rw [size_alloc]; exact Nat.lt_succ_of_lt kn3) (fun e => (V3.row _ e.symm).2.1 rfl)).trans (((bel_alloc w3 _).cell (p := ⟨w5.heap.size, 5, none⟩) kn3).trans q5); have qf6 := (hgrow6.frozen_far ⟨w5.heap.size, 5, none⟩ (by rw [size_alloc]; exact Nat.lt_succ_of_lt kn3) (fun e => (V3.row _ e.symm).2.1 rfl)).trans (((bel_alloc w3 _).frozen (p := ⟨w5.heap.size, 5, none⟩) kn3).trans qf5))
                | (go_simp; go_at_call 65; refine EX.mono ?_; rintro e w3 ⟨x, u, j3, bd3, rfl, hL⟩; obtain ⟨k3, t3, n3, m3, a3, ca3, y3, b3, cb3, kk3, rfl⟩ := np_cells hL.tree; have V3 := VD.grown hch hL.by' hL.ps hL.le hL.stay; have q5 := cell_of_row _ _ 5 _ _ _ V3.var; have qf5 := frozen_of_row _ _ 5 _ _ V3.var; simp only [List.getElem?_toArray, List.getElem?_cons_zero, List.getElem?_cons_succ] at q5; have kn3 := (Array.getElem?_eq_some_iff.1 V3.var).1; have qa5 : ∀ O : Obj, (w3.alloc O).cell? ⟨w5.heap.size, 5, none⟩ = w3.cell? ⟨w5.heap.size, 5, none⟩ := (fun O => (bel_alloc w3 O).cell (p := ⟨w5.heap.size, 5, none⟩) kn3)))
            all_goals
              have V9 := VK.app VD hch (Nat.le_refl _) hL hown6 hgrow6 hat6
              rw [show ([] : List Nd).length + 1 = 1 from rfl] at V9
              generalize w6.setCell ⟨w5.heap.size, 5, none⟩ (.slice (some ⟨g6, 0, none⟩) 1 cp6) = W9 at V9 ⊢
              have hct3 := hL.cnt
              have hsx := hL.sm
              have hle3 := hL.le
              clear EX hL q5 qf5 qa5
              have c0 := cell_of_row _ _ 0 _ _ _ V9.var
              have d0 := cell_of_row _ _ 0 _ _ _ V9.res
              have g0 := frozen_of_row _ _ 0 _ _ V9.res
              have c1 := cell_of_row _ _ 1 _ _ _ V9.var
              have d1 := cell_of_row _ _ 1 _ _ _ V9.res
              have g1 := frozen_of_row _ _ 1 _ _ V9.res
              have c2 := cell_of_row _ _ 2 _ _ _ V9.var
              have d2 := cell_of_row _ _ 2 _ _ _ V9.res
              have g2 := frozen_of_row _ _ 2 _ _ V9.res
              have c3 := cell_of_row _ _ 3 _ _ _ V9.var
              have d3 := cell_of_row _ _ 3 _ _ _ V9.res
              have g3 := frozen_of_row _ _ 3 _ _ V9.res
              have c4 := cell_of_row _ _ 4 _ _ _ V9.var
              have d4 := cell_of_row _ _ 4 _ _ _ V9.res
              have g4 := frozen_of_row _ _ 4 _ _ V9.res
              have c5 := cell_of_row _ _ 5 _ _ _ V9.var
              have d5 := cell_of_row _ _ 5 _ _ _ V9.res
              have g5 := frozen_of_row _ _ 5 _ _ V9.res
              simp only [List.getElem?_toArray, List.getElem?_cons_zero, List.getElem?_cons_succ] at c0 c1 c2 c3 c4 c5 d0 d1 d2 d3 d4 d5
              go_wp2_with fail
              refine bodyPost_ret (v := .agg #[.int .i64 5, .string ⟨#[]⟩, .int .i64 0, .slice none 0 0, .int .i64 z, .slice (some ⟨g6, 0, none⟩) 1 cp6]) (by simp [results, Try.results57, go_sem, *]) rfl ⟨_, _, _, _, rfl, VK.left V9 hch (Nat.le_refl _) (by decide) (fun s hs => absurd hs (by simp)) (by simp) (fun y hy => by rw [List.nil_append, List.mem_singleton] at hy; subst hy; exact hsx) (fun hb => ?_) _ _ _ _ _ _⟩
              have e1 := hct3 hb
              simp [wtL]
              omega
      · obtain ⟨-, hi⟩ := hb4' rfl
        have hi4 : i < 4000 := by have := R4.ps.len; omega
        have p1 := R4.ps.c1
        have pf1 := R4.ps.f 1
        have RN := R4.next hch hi
        go_wp2_with fail
        refine (HE (i + 1) false (Or.inr (by omega)) _ RN.ps).mono ?_
        rintro e wq ⟨x0, u0, j1, bd1, rfl, hL0⟩
        obtain ⟨k1, t1, n1, m1, a1, ca1, y1, b1, cb1, kk1, rfl⟩ := np_cells hL0.tree
        have RQ := RN.grown hch hL0.by' hL0.ps hL0.le hL0.stay
        have hs1 := (Array.getElem?_eq_some_iff.1 RN.res).1
        have hs01 := hL0.by'.size
        go_wp2_with fail
        have V1 := RQ.var1 hch hL0.tree hs1 (.int .i64 4) (.string ⟨#[]⟩) (.int .i64 0) (.int .i64 z)
        have hc0 := hL0.cnt
        have hst0 := hL0.stay
        have hle0 := hL0.le
        have hsm0 := hL0.sm
        clear hL0 RQ
        refine (take_any c la cap L j1 bd1 ⟨#[100, 111]⟩ _ V1.ps).mono ?_
        rintro e w2 ⟨rfl, j2, bd2, h2, ht2, hg2⟩
        have V2 := V1.grown hch hg2 h2 (took_le ht2).1 (took_le ht2).2
        have hle2 := (took_le ht2).1
        clear V1 p1 pf1
        go_wp2_with fail
        have VD := V2.drew hch
        have EX := HB j2 bd2 (by
            cases bd2
            · exact Or.inr (by omega)
            · exact Or.inl rfl) _ VD.ps
        have n5 := cell_of_row _ _ 5 _ _ _ VD.var
        have nf5 := frozen_of_row _ _ 5 _ _ VD.var
        simp only [List.getElem?_toArray, List.getElem?_cons_zero, List.getElem?_cons_succ] at n5
        go_region_law
          (first
            | (refine step_append_lies _ rfl _ _ _ rfl _ 27 i0 _ 6 88 Try.underlying25 hi0 hz0 hz1 hz2 rfl (by decide) _ _ _ rfl (V3.kids.own.alloc _) ⟨w3.heap.size, 0, none⟩ 1 1 [.int .i64 k3, .string t3, .int .i64 n3, .slice a3 m3 ca3, .int .i64 y3, .slice b3 kk3 cb3] rfl rfl (node_cells _ _ _ _ rfl) (node_one _ _ _ _ _ _ _ _ _ _) (by decide) (by first | (unfold maxLen; omega) | (simp [maxLen]; done)) (by first | omega | (simp; done)) (by have := V3.hnb; have := V3.hn; simp; omega) _ rfl ?_; intro g6 cp6 w6 hown6 hgrow6 hat6 hlt6; have qn6 := (hgrow6.cell_far ⟨wq.heap.size + 1, 5, none⟩ (by rw [size_alloc]; exact Nat.lt_succ_of_lt kn3) (fun e => (V3.row _ e.symm).2.1 rfl)).trans (((bel_alloc w3 _).cell (p := ⟨wq.heap.size + 1, 5, none⟩) kn3).trans q5); have qf6 := (hgrow6.frozen_far ⟨wq.heap.size + 1, 5, none⟩ (by rw [size_alloc]; exact Nat.lt_succ_of_lt kn3) (fun e => (V3.row _ e.symm).2.1 rfl)).trans (((bel_alloc w3 _).frozen (p := ⟨wq.heap.size + 1, 5, none⟩) kn3).trans qf5))
            | (go_simp; go_at_call 44; refine EX.mono ?_; rintro e w3 ⟨x, u, j3, bd3, rfl, hL⟩; obtain ⟨k3, t3, n3, m3, a3, ca3, y3, b3, cb3, kk3, rfl⟩ := np_cells hL.tree; have V3 := VD.grown hch hL.by' hL.ps hL.le hL.stay; have q5 := cell_of_row _ _ 5 _ _ _ V3.var; have qf5 := frozen_of_row _ _ 5 _ _ V3.var; simp only [List.getElem?_toArray, List.getElem?_cons_zero, List.getElem?_cons_succ] at q5; have kn3 := (Array.getElem?_eq_some_iff.1 V3.var).1; have qa5 : ∀ O : Obj, (w3.alloc O).cell? ⟨wq.heap.size + 1, 5, none⟩ = w3.cell? ⟨wq.heap.size + 1, 5, none⟩ := (fun O => (bel_alloc w3 O).cell (p := ⟨wq.heap.size + 1, 5, none⟩) kn3)))
        all_goals
          have V4 := VK.app VD hch (Nat.le_refl _) hL hown6 hgrow6 hat6
          rw [show [x0].length + 1 = 2 from rfl] at V4
          generalize w6.setCell ⟨wq.heap.size + 1, 5, none⟩ (.slice (some ⟨g6, 0, none⟩) 2 cp6) = W4 at V4 ⊢
          have hct3 := hL.cnt
          have hst3 := hL.stay
          have hle3 := hL.le
          have hsx := hL.sm
          clear EX hL q5 qf5 qa5
          go_wp2_with fail
          refine (take_any c la cap L j3 bd3 ⟨#[101, 110, 100]⟩ _ V4.ps).mono ?_
          rintro e w8 ⟨rfl, j8, bd8, h8, ht8, hg8⟩
          have V8 := V4.grown hch hg8 h8 (took_le ht8).1 (took_le ht8).2
          have c0 := cell_of_row _ _ 0 _ _ _ V8.var
          have d0 := cell_of_row _ _ 0 _ _ _ V8.res
          have g0 := frozen_of_row _ _ 0 _ _ V8.res
          have c1 := cell_of_row _ _ 1 _ _ _ V8.var
          have d1 := cell_of_row _ _ 1 _ _ _ V8.res
          have g1 := frozen_of_row _ _ 1 _ _ V8.res
          have c2 := cell_of_row _ _ 2 _ _ _ V8.var
          have d2 := cell_of_row _ _ 2 _ _ _ V8.res
          have g2 := frozen_of_row _ _ 2 _ _ V8.res
          have c3 := cell_of_row _ _ 3 _ _ _ V8.var
          have d3 := cell_of_row _ _ 3 _ _ _ V8.res
          have g3 := frozen_of_row _ _ 3 _ _ V8.res
          have c4 := cell_of_row _ _ 4 _ _ _ V8.var
          have d4 := cell_of_row _ _ 4 _ _ _ V8.res
          have g4 := frozen_of_row _ _ 4 _ _ V8.res
          have c5 := cell_of_row _ _ 5 _ _ _ V8.var
          have d5 := cell_of_row _ _ 5 _ _ _ V8.res
          have g5 := frozen_of_row _ _ 5 _ _ V8.res
          simp only [List.getElem?_toArray, List.getElem?_cons_zero, List.getElem?_cons_succ] at c0 c1 c2 c3 c4 c5 d0 d1 d2 d3 d4 d5
          go_wp2_with fail
          refine bodyPost_ret (v := .agg #[.int .i64 4, .string ⟨#[]⟩, .int .i64 0, .slice none 0 0, .int .i64 z, .slice (some ⟨g6, 0, none⟩) 2 cp6]) (by simp [results, Try.results57, go_sem, *]) rfl ⟨_, _, _, _, rfl, VK.left V8 hch (Nat.le_refl _) (by decide) (fun s hs => absurd hs (by simp)) (by simp) (fun y hy => by simp at hy; rcases hy with rfl | rfl; exact hsm0; exact hsx) (fun hb => ?_) _ _ _ _ _ _⟩
          rcases ht8 with ⟨q1, q2, q3, q4⟩ | ⟨q1, q2⟩
          · have e1 := hct3 q1
            have e2 : bd2 = false := by
              cases bd2
              · rfl
              · rw [(hst3 rfl).1] at q1; cases q1
            rcases ht2 with ⟨q5, _, _, q6⟩ | ⟨q5, _⟩
            · have e4 := hc0 q5
              simp [wtL]
              omega
            · rw [q5] at e2; cases e2
          · rw [q1] at hb; cases hb
    · obtain ⟨-, hi⟩ := hb3' rfl
      have hi4 : i < 4000 := by have := R3.ps.len; omega
      have p1 := R3.ps.c1
      have pf1 := R3.ps.f 1
      have RN := R3.next hch hi
      go_wp2_with fail
      refine (HI z _ RN.ps).mono ?_
      rintro e w3 ⟨x, u, j3, bd3, rfl, hL⟩
      obtain ⟨k3, t3, n3, m3, a3, ca3, y3, b3, cb3, kk3, rfl⟩ := np_cells hL.tree
      have R3 := RN.grown hch hL.by' hL.ps hL.le hL.stay
      have d0 := cell_of_row _ _ 0 _ _ _ R3.res
      have g0 := frozen_of_row _ _ 0 _ _ R3.res
      have d1 := cell_of_row _ _ 1 _ _ _ R3.res
      have g1 := frozen_of_row _ _ 1 _ _ R3.res
      have d2 := cell_of_row _ _ 2 _ _ _ R3.res
      have g2 := frozen_of_row _ _ 2 _ _ R3.res
      have d3 := cell_of_row _ _ 3 _ _ _ R3.res
      have g3 := frozen_of_row _ _ 3 _ _ R3.res
      have d4 := cell_of_row _ _ 4 _ _ _ R3.res
      have g4 := frozen_of_row _ _ 4 _ _ R3.res
      have d5 := cell_of_row _ _ 5 _ _ _ R3.res
      have g5 := frozen_of_row _ _ 5 _ _ R3.res
      simp only [List.getElem?_toArray, List.getElem?_cons_zero, List.getElem?_cons_succ] at d0 d1 d2 d3 d4 d5
      go_wp2_with fail
      refine bodyPost_ret (v := .agg #[.int .i64 k3, .string t3, .int .i64 n3, .slice a3 m3 ca3, .int .i64 y3, .slice b3 kk3 cb3]) (by simp [results, Try.results57, go_sem, *]) rfl ⟨_, [.int .i64 k3, .string t3, .int .i64 n3, .slice a3 m3 ca3, .int .i64 y3, .slice b3 kk3 cb3], _, _, rfl, RS.pass RN hch (Nat.le_refl _) hL (by omega) _ _ _ _ _ _⟩
  · obtain ⟨-, hi⟩ := hb2' rfl
    have hi4 : i < 4000 := by have := R2.ps.len; omega
    have p1 := R2.ps.c1
    have pf1 := R2.ps.f 1
    have RN := R2.next hch hi
    go_wp2_with fail
    refine (HL z _ RN.ps).mono ?_
    rintro e w3 ⟨x, u, j3, bd3, rfl, hL⟩
    obtain ⟨k3, t3, n3, m3, a3, ca3, y3, b3, cb3, kk3, rfl⟩ := np_cells hL.tree
    have R3 := RN.grown hch hL.by' hL.ps hL.le hL.stay
    have d0 := cell_of_row _ _ 0 _ _ _ R3.res
    have g0 := frozen_of_row _ _ 0 _ _ R3.res
    have d1 := cell_of_row _ _ 1 _ _ _ R3.res
    have g1 := frozen_of_row _ _ 1 _ _ R3.res
    have d2 := cell_of_row _ _ 2 _ _ _ R3.res
    have g2 := frozen_of_row _ _ 2 _ _ R3.res
    have d3 := cell_of_row _ _ 3 _ _ _ R3.res
    have g3 := frozen_of_row _ _ 3 _ _ R3.res
    have d4 := cell_of_row _ _ 4 _ _ _ R3.res
    have g4 := frozen_of_row _ _ 4 _ _ R3.res
    have d5 := cell_of_row _ _ 5 _ _ _ R3.res
    have g5 := frozen_of_row _ _ 5 _ _ R3.res
    simp only [List.getElem?_toArray, List.getElem?_cons_zero, List.getElem?_cons_succ] at d0 d1 d2 d3 d4 d5
    go_wp2_with fail
    refine bodyPost_ret (v := .agg #[.int .i64 k3, .string t3, .int .i64 n3, .slice a3 m3 ca3, .int .i64 y3, .slice b3 kk3 cb3]) (by simp [results, Try.results57, go_sem, *]) rfl ⟨_, [.int .i64 k3, .string t3, .int .i64 n3, .slice a3 m3 ca3, .int .i64 y3, .slice b3 kk3 cb3], _, _, rfl, RS.pass RN hch (Nat.le_refl _) hL (by omega) _ _ _ _ _ _⟩
end Go.Proofs.Ytlmmomffanakiaa
