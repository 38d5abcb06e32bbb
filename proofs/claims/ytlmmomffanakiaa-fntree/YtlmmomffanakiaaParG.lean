/- A name or brackets, and what stands behind them: the walk. -/
import Derived.Test.YtlmmomffanakiaaJmK
namespace Go.Proofs.Ytlmmomffanakiaa
open Go.RowKit

theorem VarAt.drew {w wr : World} {h nb c : Nat} {la : Option Addr} {cap : Nat} {L : List Tk} {i : Nat} {bad : Bool} {d : Nat} {f : Nd} {vf : List Value} {j : Nat} {bd : Bool} (v : VarAt w wr h nb c la cap L i bad d f vf j bd) : VarAt w wr.drew h nb c la cap L i bad d f vf j bd := v.below (Below.refl _ _).drew

set_option maxRecDepth 100000 in
set_option maxHeartbeats 25600000 in
theorem prefix_any (c : Nat) (la : Option Addr) (cap : Nat) (L : List Tk) (i : Nat) (bad : Bool) (w : World) (h : PS w c la cap L i bad)
    (HE : bad = false → ∀ j bd, (bd = true ∨ i < j) → ExpOk 0 c la cap L j bd) :
    Reads 68 #[.pointer (some ⟨c, 0, none⟩)] w w.heap.size c la cap L i bad 2 0 := by
  have hcw := h.lt
  unfold Reads
  go_enter Try.func68, Try.ntmps68
  go_wp2_with fail
  have hz := bel_alloc w (.cells #[Value.int IntKind.i64 0, Value.string ⟨#[]⟩, Value.int IntKind.i64 0, Value.slice none 0 0, Value.int IntKind.i64 0, Value.slice none 0 0] 27)
  refine (line_any c la cap L i bad _ (h.below hz)).mono ?_
  rintro e w1 ⟨⟨z, rfl⟩, hb1⟩
  have hR1 : w1.heap[w.heap.size]? = _ := (hb1.block _ (by rw [size_alloc]; omega)).trans (heap_alloc_new w _)
  have hbw1 := hz.trans (hb1.mono hz.size)
  have hlow1 : w.heap.size + 1 ≤ w1.heap.size := by have := hb1.size; rw [size_alloc] at this; omega
  have h1 := h.below hbw1
  clear hb1 hz
  go_wp2_with fail
  have hv1 := bel_alloc w1 (.cells #[Value.int IntKind.i64 14, Value.string ⟨#[]⟩, Value.int IntKind.i64 0, Value.slice none 0 0, Value.int IntKind.i64 z, Value.slice none 0 0] 27)
  have h2 := h1.below hv1
  have hN2 : (w1.alloc (.cells #[Value.int IntKind.i64 14, Value.string ⟨#[]⟩, Value.int IntKind.i64 0, Value.slice none 0 0, Value.int IntKind.i64 z, Value.slice none 0 0] 27)).heap[w1.heap.size]? = some (.cells #[Value.int IntKind.i64 14, Value.string ⟨#[]⟩, Value.int IntKind.i64 0, Value.slice none 0 0, Value.int IntKind.i64 z, Value.slice none 0 0] 27 (0, 0)) := heap_alloc_new w1 _
  have hR2 := (hv1.block w.heap.size (by omega)).trans hR1
  have hg2 := pg_below (row := some c) (hbw1.trans (hv1.mono (by omega)))
  refine (is_any c la cap L i bad ⟨#[40]⟩ _ h2).mono ?_
  rintro e w3 ⟨⟨b3, rfl, hbb⟩, hb3⟩
  have hsz2 := hb3.size
  rw [size_alloc] at hsz2
  have h3 := h2.below hb3
  have hN3 := (hb3.block w1.heap.size (by rw [size_alloc]; omega)).trans hN2
  have hR3 := (hb3.block w.heap.size (by rw [size_alloc]; omega)).trans hR2
  have hg3 := pg_trans hg2 (pg_below (row := some c) hb3)
  clear hN2 hR2 hg2 hb3 h2 hv1
  cases b3
  · go_wp2_with fail
    refine (name_any c la cap L i bad _ h3).mono ?_
    rintro e w4 ⟨⟨sx, rfl, hsx⟩, j4, bd4, h4, ht4, hg4⟩
    have hN4 := (hg4.block _ (Array.getElem?_eq_some_iff.1 hN3).1 (fun e => by have := Option.some.inj e; omega)).trans hN3
    have hR4 := (hg4.block _ (Array.getElem?_eq_some_iff.1 hR3).1 (fun e => by have := Option.some.inj e; omega)).trans hR3
    have n1 := cell_of_row _ _ 1 _ _ _ hN4
    have fn1 := frozen_of_row _ _ 1 _ _ hN4
    simp only [List.getElem?_toArray, List.getElem?_cons_zero, List.getElem?_cons_succ] at n1
    have V0 : VarAt w (w4.setCell ⟨w1.heap.size, 1, none⟩ (.string sx)) w.heap.size w1.heap.size c la cap L i bad 2 (.mk 14 sx 0 [] z []) [.int .i64 14, .string sx, .int .i64 0, .slice none 0 0, .int .i64 z, .slice none 0 0] j4 bd4 :=
      { res := (heap_setCell_other w4 _ _ _ (by show w.heap.size ≠ w1.heap.size; omega)).trans hR4, var := heap_setCell_same _ _ 1 _ _ _ hN4, tree := by
          simp only [NP]
          exact ⟨by unfold maxLen; omega, none, 0, none, 0, rfl, Nat.zero_le _, Nat.zero_le _, fun k hk => absurd hk (Nat.not_lt_zero _), trivial⟩, sm := by simp only [Sm, SmL]; exact ⟨⟨hsx, by decide⟩, fun x hx => absurd hx (by simp), trivial⟩, ps := one_ps h4 _ _ (by omega) _, le := by rcases ht4 with ⟨_, _, _, rfl⟩ | ⟨_, rfl⟩ <;> omega, stay := fun hb => by rcases ht4 with ⟨h, _⟩ | ⟨h, h'⟩ <;> simp_all, cnt := fun hb => by
          rcases ht4 with ⟨_, _, _, rfl⟩ | ⟨h, _⟩
          · simp [wt, wtL]
          · simp_all, by' := one_grown (pg_trans hg3 hg4) _ _ (by omega) _ }
    clear hN3 hR3 hR4 h3 h1 hg3
    go_wp2_with fail
    go_loopw [] (fun wr => ∃ (f : Nd) (vf : List Value) (j : Nat) (bd : Bool), VarAt w wr w.heap.size w1.heap.size c la cap L i bad 2 f vf j bd) (fun wr => pm wr c L.length)
    case atStart => exact ⟨_, _, _, _, V0⟩
    case round =>
      obtain ⟨f, vf, j, bd, V⟩ := hrel
      have p2 := V.ps.c2
      cases bd
      · go_wp2_with fail
        refine (is_any c la cap L j false ⟨#[91]⟩ _ V.ps).mono ?_
        rintro e w5 ⟨⟨b5, rfl, hb5'⟩, hb5⟩
        have V5 := V.below hb5
        cases b5
        · go_wp2_with fail
          refine (is_any c la cap L j false ⟨#[46]⟩ _ V5.ps).mono ?_
          rintro e w6 ⟨⟨b6, rfl, hb6'⟩, hb6⟩
          have V6 := V5.below hb6
          cases b6
          · go_wp2_with fail
            refine (is_any c la cap L j false ⟨#[40]⟩ _ V6.ps).mono ?_
            rintro e w7 ⟨⟨b7, rfl, hb7'⟩, hb7⟩
            have V7 := V6.below hb7
            cases b7
            · obtain ⟨k9, t9, n9, m9, a9, ca9, y9, b9, cb9, kk9, rfl⟩ := np_cells V7.tree
              have c0 := V7.cells 0
              have c1 := V7.cells 1
              have c2 := V7.cells 2
              have c3 := V7.cells 3
              have c4 := V7.cells 4
              have c5 := V7.cells 5
              have d0 := cell_of_row _ _ 0 _ _ _ V7.res
              have d1 := cell_of_row _ _ 1 _ _ _ V7.res
              have d2 := cell_of_row _ _ 2 _ _ _ V7.res
              have d3 := cell_of_row _ _ 3 _ _ _ V7.res
              have d4 := cell_of_row _ _ 4 _ _ _ V7.res
              have d5 := cell_of_row _ _ 5 _ _ _ V7.res
              have g0 := frozen_of_row _ _ 0 _ _ V7.res
              have g1 := frozen_of_row _ _ 1 _ _ V7.res
              have g2 := frozen_of_row _ _ 2 _ _ V7.res
              have g3 := frozen_of_row _ _ 3 _ _ V7.res
              have g4 := frozen_of_row _ _ 4 _ _ V7.res
              have g5 := frozen_of_row _ _ 5 _ _ V7.res
              simp only [List.getElem?_toArray, List.getElem?_cons_zero, List.getElem?_cons_succ] at c0 c1 c2 c3 c4 c5 d0 d1 d2 d3 d4 d5
              go_wp2_with fail
              refine bodyPost_ret (v := .agg #[.int .i64 k9, .string t9, .int .i64 n9, .slice a9 m9 ca9, .int .i64 y9, .slice b9 kk9 cb9]) (by simp [results, Try.results68, go_sem, *]) rfl ⟨_, [.int .i64 k9, .string t9, .int .i64 n9, .slice a9 m9 ca9, .int .i64 y9, .slice b9 kk9 cb9], _, _, rfl, V7.left (Nat.le_refl _) hcw _ _ _ _ _ _⟩
            · have EA' := args_any c la cap L j false w.heap.size (fun g => Bt w.heap.size w7.heap.size g ∧ (g ≠ w.heap.size ∧ g ≠ w1.heap.size)) f vf w7 V7.ps hcw V7.by'.size (fun g hg => hg.1) V7.tree V7.sm (fun j' bd' hh => HE (by first | exact hbf_of V7.stay | trivial) j' bd' (hh.imp id (fun h9 => by have := V7.le; omega)))
              obtain ⟨k9, t9, n9, m9, a9, ca9, y9, b9, cb9, kk9, rfl⟩ := np_cells V7.tree
              have c0 := V7.cells 0
              have c1 := V7.cells 1
              have c2 := V7.cells 2
              have c3 := V7.cells 3
              have c4 := V7.cells 4
              have c5 := V7.cells 5
              simp only [List.getElem?_cons_zero, List.getElem?_cons_succ] at c0 c1 c2 c3 c4 c5
              go_wp2_with fail
              refine EA'.mono ?_
              rintro e w8 ⟨t, u, j8, bd8, rfl, hL, hN, hlt8⟩
              obtain ⟨k8, t8, n8, m8, a8, ca8, y8, b8, cb8, kk8, rfl⟩ := np_cells hN
              have hst8 := hL.stay
              have hct8 := hL.cnt
              have hcn7 := V7.cnt rfl
              have hle7 := V7.le
              have V8 := VarAt.put rfl V7 hcw (Nat.le_refl _) (by omega) hL.by' hN (fun g hg => hg.elim (fun h9 => ⟨⟨h9.1.1, Nat.lt_of_lt_of_le h9.1.2 hL.by'.size⟩, h9.2⟩) (fun h9 => by have q1 := (Array.getElem?_eq_some_iff.1 V7.var).1; have q2 := h9.1; exact ⟨⟨by omega, h9.2⟩, by omega, by omega⟩)) hL.sm hL.ps hL.le hst8 (fun hb => by have := hct8 hb; have := hL.le; omega)
              have V8c := VarAt.step V7 hcw (by omega) hL.by' hL.ps hL.le hL.stay
              have hln8 := hL.ps.le
              have e0 := V8c.cells 0
              have ef0 := frozen_of_row _ _ 0 _ _ V8c.var
              have e1 := V8c.cells 1
              have ef1 := frozen_of_row _ _ 1 _ _ V8c.var
              have e2 := V8c.cells 2
              have ef2 := frozen_of_row _ _ 2 _ _ V8c.var
              have e3 := V8c.cells 3
              have ef3 := frozen_of_row _ _ 3 _ _ V8c.var
              have e4 := V8c.cells 4
              have ef4 := frozen_of_row _ _ 4 _ _ V8c.var
              have e5 := V8c.cells 5
              have ef5 := frozen_of_row _ _ 5 _ _ V8c.var
              simp only [List.getElem?_cons_zero, List.getElem?_cons_succ] at e0 e1 e2 e3 e4 e5
              clear c0 c1 c2 c3 c4 c5 EA' hL hN
              go_wp2_with fail
              go_roundw
              case rel => exact ⟨_, _, _, _, V8⟩
              case measure =>
                rw [V8.ps.pm, V.ps.pm]
                cases bd8
                · have := hlt8 rfl; simp; omega
                · simp
          · obtain ⟨k9, t9, n9, m9, a9, ca9, y9, b9, cb9, kk9, rfl⟩ := np_cells V6.tree
            have hj5 := (hb6' rfl).2
            have q1 := V6.ps.c1
            have qf1 := V6.ps.f 1
            have hj4 : j < 4000 := by have := V.ps.len; omega
            have V7 := V6.next hj5 hcw (by omega)
            go_wp2_with fail
            refine (line_any c la cap L (j + 1) false _ V7.ps).mono ?_
            rintro e w8 ⟨⟨z8, rfl⟩, hb8⟩
            have hg68 : w6.grownBy w8 (some c) := pg_trans (pg_set w6 c 1 (.int .i64 ((j : Int) + 1))) (pg_below hb8)
            have V8 := V7.below hb8
            clear q1 qf1
            go_wp2_with fail
            refine (name_any c la cap L (j + 1) false _ (V8.ps.below (bel_alloc w8 _))).mono ?_
            rintro e w9 ⟨⟨sk, rfl, hsk⟩, j9, bd9, h9, ht9, hg9⟩
            have hK9 := (hg9.block w8.heap.size (by rw [size_alloc]; omega) (fun e => by have := Option.some.inj e; have := V8.ps.lt; omega)).trans (heap_alloc_new w8 _)
            have hcw8 : c < w8.heap.size := V8.ps.lt
            have hg89 := one_grown (pg_trans (pg_below (row := some c) (bel_alloc w8 _)) hg9) w8.heap.size 1 (Nat.le_refl _) (.string sk)
            have hg69 := pg_trans hg68 hg89
            have hK10 := heap_setCell_same _ _ 1 _ _ (.string sk) hK9
            have hP9 := one_ps h9 w8.heap.size 1 hcw8 (.string sk)
            have hj9 := took_le ht9
            have hs69 := hg69.size
            have hnb6 := (Array.getElem?_eq_some_iff.1 V6.var).1
            have V9 := V8.step hcw (by omega) hg89 hP9 hj9.1 hj9.2
            have V10 := VarAt.two' y9 V6 hcw (Nat.le_refl _) (by omega) (lo := w1.heap.size + 1) (by omega) hg69 (x := .mk 13 sk 0 [] z8 []) (u0 := .int .i64 13) (u1 := .string sk) (u2 := .int .i64 0) (u3 := .slice none 0 0) (u4 := .int .i64 z8) (u5 := .slice none 0 0) (by
              simp only [NP]
              exact ⟨by unfold maxLen; omega, none, 0, none, 0, rfl, Nat.zero_le _, Nat.zero_le _, fun k hk => absurd hk (Nat.not_lt_zero _), trivial⟩) (by simp only [Sm, SmL]; exact ⟨⟨hsk, by decide⟩, fun s hs => absurd hs (by simp), trivial⟩) hP9 (by omega) (fun h9 => by cases h9) (fun hb => by simp [wt, wtL]; omega)
            have hj9' := hj9.1
            have hln9 := h9.le
            have f1k := frozen_of_row _ _ 1 _ _ hK9
            have c1k := cell_of_row _ _ 1 _ _ _ hK9
            have e0 := V9.cells 0
            have ef0 := frozen_of_row _ _ 0 _ _ V9.var
            have kc0 := cell_of_row _ _ 0 _ _ _ hK10
            have e1 := V9.cells 1
            have ef1 := frozen_of_row _ _ 1 _ _ V9.var
            have kc1 := cell_of_row _ _ 1 _ _ _ hK10
            have e2 := V9.cells 2
            have ef2 := frozen_of_row _ _ 2 _ _ V9.var
            have kc2 := cell_of_row _ _ 2 _ _ _ hK10
            have e3 := V9.cells 3
            have ef3 := frozen_of_row _ _ 3 _ _ V9.var
            have kc3 := cell_of_row _ _ 3 _ _ _ hK10
            have e4 := V9.cells 4
            have ef4 := frozen_of_row _ _ 4 _ _ V9.var
            have kc4 := cell_of_row _ _ 4 _ _ _ hK10
            have e5 := V9.cells 5
            have ef5 := frozen_of_row _ _ 5 _ _ V9.var
            have kc5 := cell_of_row _ _ 5 _ _ _ hK10
            simp only [List.getElem?_cons_zero, List.getElem?_cons_succ, List.getElem?_toArray] at e0 e1 e2 e3 e4 e5 c1k
            simp at kc0 kc1 kc2 kc3 kc4 kc5
            have V9a := V8.step hcw (by omega) (pg_trans (pg_below (row := some c) (bel_alloc w8 _)) hg9) h9 hj9.1 hj9.2
            have knb9 := (Array.getElem?_eq_some_iff.1 V9a.var).1
            have wc0 := V9a.cells 0
            have wf0 := frozen_of_row _ _ 0 _ _ V9a.var
            have qa0 : ∀ O : Obj, ((w9.setCell ⟨w8.heap.size, 1, none⟩ (.string sk)).alloc O).cell? ⟨w1.heap.size, 0, none⟩ = (w9.setCell ⟨w8.heap.size, 1, none⟩ (.string sk)).cell? ⟨w1.heap.size, 0, none⟩ := fun O => (bel_alloc _ O).cell (p := ⟨w1.heap.size, 0, none⟩) (by simpa using knb9)
            have wc1 := V9a.cells 1
            have wf1 := frozen_of_row _ _ 1 _ _ V9a.var
            have qa1 : ∀ O : Obj, ((w9.setCell ⟨w8.heap.size, 1, none⟩ (.string sk)).alloc O).cell? ⟨w1.heap.size, 1, none⟩ = (w9.setCell ⟨w8.heap.size, 1, none⟩ (.string sk)).cell? ⟨w1.heap.size, 1, none⟩ := fun O => (bel_alloc _ O).cell (p := ⟨w1.heap.size, 1, none⟩) (by simpa using knb9)
            have wc2 := V9a.cells 2
            have wf2 := frozen_of_row _ _ 2 _ _ V9a.var
            have qa2 : ∀ O : Obj, ((w9.setCell ⟨w8.heap.size, 1, none⟩ (.string sk)).alloc O).cell? ⟨w1.heap.size, 2, none⟩ = (w9.setCell ⟨w8.heap.size, 1, none⟩ (.string sk)).cell? ⟨w1.heap.size, 2, none⟩ := fun O => (bel_alloc _ O).cell (p := ⟨w1.heap.size, 2, none⟩) (by simpa using knb9)
            have wc3 := V9a.cells 3
            have wf3 := frozen_of_row _ _ 3 _ _ V9a.var
            have qa3 : ∀ O : Obj, ((w9.setCell ⟨w8.heap.size, 1, none⟩ (.string sk)).alloc O).cell? ⟨w1.heap.size, 3, none⟩ = (w9.setCell ⟨w8.heap.size, 1, none⟩ (.string sk)).cell? ⟨w1.heap.size, 3, none⟩ := fun O => (bel_alloc _ O).cell (p := ⟨w1.heap.size, 3, none⟩) (by simpa using knb9)
            have wc4 := V9a.cells 4
            have wf4 := frozen_of_row _ _ 4 _ _ V9a.var
            have qa4 : ∀ O : Obj, ((w9.setCell ⟨w8.heap.size, 1, none⟩ (.string sk)).alloc O).cell? ⟨w1.heap.size, 4, none⟩ = (w9.setCell ⟨w8.heap.size, 1, none⟩ (.string sk)).cell? ⟨w1.heap.size, 4, none⟩ := fun O => (bel_alloc _ O).cell (p := ⟨w1.heap.size, 4, none⟩) (by simpa using knb9)
            have wc5 := V9a.cells 5
            have wf5 := frozen_of_row _ _ 5 _ _ V9a.var
            have qa5 : ∀ O : Obj, ((w9.setCell ⟨w8.heap.size, 1, none⟩ (.string sk)).alloc O).cell? ⟨w1.heap.size, 5, none⟩ = (w9.setCell ⟨w8.heap.size, 1, none⟩ (.string sk)).cell? ⟨w1.heap.size, 5, none⟩ := fun O => (bel_alloc _ O).cell (p := ⟨w1.heap.size, 5, none⟩) (by simpa using knb9)
            simp only [List.getElem?_cons_zero, List.getElem?_cons_succ] at wc0 wc1 wc2 wc3 wc4 wc5
            have hs9k : (w9.setCell ⟨w8.heap.size, 1, none⟩ (.string sk)).heap.size = w9.heap.size := by simp
            rw [hs9k] at V10
            go_wp2_with fail
            go_roundw
            case rel => exact ⟨_, _, _, _, V10⟩
            case measure =>
              rw [V10.ps.pm, V.ps.pm]
              cases bd9
              · simp; omega
              · simp
        · have hj5 := (hb5' rfl).2
          have q1 := V5.ps.c1
          have qf1 := V5.ps.f 1
          have hj4 : j < 4000 := by have := V.ps.len; omega
          have V6 := V5.next hj5 hcw (by omega)
          obtain ⟨k9, t9, n9, m9, a9, ca9, y9, b9, cb9, kk9, rfl⟩ := np_cells V6.tree
          have c0 := V6.cells 0
          have c1 := V6.cells 1
          have c2 := V6.cells 2
          have c3 := V6.cells 3
          have c4 := V6.cells 4
          have c5 := V6.cells 5
          simp only [List.getElem?_cons_zero, List.getElem?_cons_succ] at c0 c1 c2 c3 c4 c5
          go_wp2_with fail
          have VD := V6.drew
          have EX := HE (by first | exact hbf_of VD.stay | trivial) (j + 1) false (Or.inr (by have := V.le; omega)) _ VD.ps
          have knb := (Array.getElem?_eq_some_iff.1 VD.var).1
          go_region_with (first | (go_at_call 65; refine EX.mono ?_; rintro e w7 ⟨x, u, j7, bd7, rfl, hL⟩; obtain ⟨k7, t7, n7, m7, a7, ca7, y7, b7, cb7, kk7, rfl⟩ := np_cells hL.tree; have V7 := VD.step hcw (by omega) hL.by' hL.ps hL.le hL.stay; have k7b := (Array.getElem?_eq_some_iff.1 V7.var).1; have q0 := V7.cells 0; have q1' := V7.cells 1; have q2 := V7.cells 2; have q3 := V7.cells 3; have q4 := V7.cells 4; have q5 := V7.cells 5; simp only [List.getElem?_cons_zero, List.getElem?_cons_succ] at q0 q1' q2 q3 q4 q5; have qr0 := frozen_of_row _ _ 0 _ _ V7.var; have qr1 := frozen_of_row _ _ 1 _ _ V7.var; have qr2 := frozen_of_row _ _ 2 _ _ V7.var; have qr3 := frozen_of_row _ _ 3 _ _ V7.var; have qr4 := frozen_of_row _ _ 4 _ _ V7.var; have qr5 := frozen_of_row _ _ 5 _ _ V7.var; have qa0 : ∀ O : Obj, (w7.alloc O).cell? ⟨w1.heap.size, 0, none⟩ = w7.cell? ⟨w1.heap.size, 0, none⟩ := (fun O => (bel_alloc w7 O).cell (p := ⟨w1.heap.size, 0, none⟩) k7b); have qf0 : ∀ O : Obj, (w7.alloc O).frozen? ⟨w1.heap.size, 0, none⟩ = false := (fun O => ((bel_alloc w7 O).frozen (p := ⟨w1.heap.size, 0, none⟩) k7b).trans (frozen_of_row _ _ 0 _ _ V7.var)); have qa1 : ∀ O : Obj, (w7.alloc O).cell? ⟨w1.heap.size, 1, none⟩ = w7.cell? ⟨w1.heap.size, 1, none⟩ := (fun O => (bel_alloc w7 O).cell (p := ⟨w1.heap.size, 1, none⟩) k7b); have qf1 : ∀ O : Obj, (w7.alloc O).frozen? ⟨w1.heap.size, 1, none⟩ = false := (fun O => ((bel_alloc w7 O).frozen (p := ⟨w1.heap.size, 1, none⟩) k7b).trans (frozen_of_row _ _ 1 _ _ V7.var)); have qa2 : ∀ O : Obj, (w7.alloc O).cell? ⟨w1.heap.size, 2, none⟩ = w7.cell? ⟨w1.heap.size, 2, none⟩ := (fun O => (bel_alloc w7 O).cell (p := ⟨w1.heap.size, 2, none⟩) k7b); have qf2 : ∀ O : Obj, (w7.alloc O).frozen? ⟨w1.heap.size, 2, none⟩ = false := (fun O => ((bel_alloc w7 O).frozen (p := ⟨w1.heap.size, 2, none⟩) k7b).trans (frozen_of_row _ _ 2 _ _ V7.var)); have qa3 : ∀ O : Obj, (w7.alloc O).cell? ⟨w1.heap.size, 3, none⟩ = w7.cell? ⟨w1.heap.size, 3, none⟩ := (fun O => (bel_alloc w7 O).cell (p := ⟨w1.heap.size, 3, none⟩) k7b); have qf3 : ∀ O : Obj, (w7.alloc O).frozen? ⟨w1.heap.size, 3, none⟩ = false := (fun O => ((bel_alloc w7 O).frozen (p := ⟨w1.heap.size, 3, none⟩) k7b).trans (frozen_of_row _ _ 3 _ _ V7.var)); have qa4 : ∀ O : Obj, (w7.alloc O).cell? ⟨w1.heap.size, 4, none⟩ = w7.cell? ⟨w1.heap.size, 4, none⟩ := (fun O => (bel_alloc w7 O).cell (p := ⟨w1.heap.size, 4, none⟩) k7b); have qf4 : ∀ O : Obj, (w7.alloc O).frozen? ⟨w1.heap.size, 4, none⟩ = false := (fun O => ((bel_alloc w7 O).frozen (p := ⟨w1.heap.size, 4, none⟩) k7b).trans (frozen_of_row _ _ 4 _ _ V7.var)); have qa5 : ∀ O : Obj, (w7.alloc O).cell? ⟨w1.heap.size, 5, none⟩ = w7.cell? ⟨w1.heap.size, 5, none⟩ := (fun O => (bel_alloc w7 O).cell (p := ⟨w1.heap.size, 5, none⟩) k7b); have qf5 : ∀ O : Obj, (w7.alloc O).frozen? ⟨w1.heap.size, 5, none⟩ = false := (fun O => ((bel_alloc w7 O).frozen (p := ⟨w1.heap.size, 5, none⟩) k7b).trans (frozen_of_row _ _ 5 _ _ V7.var))))
          all_goals
            have V8 := VarAt.two' y9 VD hcw (Nat.le_refl _) (by omega) knb hL.by' hL.tree hL.sm hL.ps hL.le hL.stay (fun hb => by have := hL.cnt hb; omega)
            have hle7 := hL.le
            clear q0 q1' q2 q3 q4 q5 qr0 qr1 qr2 qr3 qr4 qr5 qa0 qa1 qa2 qa3 qa4 qa5 qf0 qf1 qf2 qf3 qf4 qf5 V7 EX hL c0 c1 c2 c3 c4 c5
            go_wp2_with fail
            refine (take_any c la cap L j7 bd7 ⟨#[93]⟩ _ V8.ps).mono ?_
            rintro e w9 ⟨rfl, j9, bd9, h9, ht9, hg9⟩
            have V9 := V8.step hcw (by omega) hg9 h9 (took_le ht9).1 (took_le ht9).2
            have hle9 := (took_le ht9).1
            have hln9 := h9.le
            go_wp2_with fail
            go_roundw
            case rel => exact ⟨_, _, _, _, V9⟩
            case measure => rw [V9.ps.pm, V.ps.pm]; cases bd9 <;> simp <;> omega
      · obtain ⟨k9, t9, n9, m9, a9, ca9, y9, b9, cb9, kk9, rfl⟩ := np_cells V.tree
        have c0 := V.cells 0
        have c1 := V.cells 1
        have c2 := V.cells 2
        have c3 := V.cells 3
        have c4 := V.cells 4
        have c5 := V.cells 5
        have d0 := cell_of_row _ _ 0 _ _ _ V.res
        have d1 := cell_of_row _ _ 1 _ _ _ V.res
        have d2 := cell_of_row _ _ 2 _ _ _ V.res
        have d3 := cell_of_row _ _ 3 _ _ _ V.res
        have d4 := cell_of_row _ _ 4 _ _ _ V.res
        have d5 := cell_of_row _ _ 5 _ _ _ V.res
        have g0 := frozen_of_row _ _ 0 _ _ V.res
        have g1 := frozen_of_row _ _ 1 _ _ V.res
        have g2 := frozen_of_row _ _ 2 _ _ V.res
        have g3 := frozen_of_row _ _ 3 _ _ V.res
        have g4 := frozen_of_row _ _ 4 _ _ V.res
        have g5 := frozen_of_row _ _ 5 _ _ V.res
        simp only [List.getElem?_toArray, List.getElem?_cons_zero, List.getElem?_cons_succ] at c0 c1 c2 c3 c4 c5 d0 d1 d2 d3 d4 d5
        go_wp2_with fail
        refine bodyPost_ret (v := .agg #[.int .i64 k9, .string t9, .int .i64 n9, .slice a9 m9 ca9, .int .i64 y9, .slice b9 kk9 cb9]) (by simp [results, Try.results68, go_sem, *]) rfl ⟨_, [.int .i64 k9, .string t9, .int .i64 n9, .slice a9 m9 ca9, .int .i64 y9, .slice b9 kk9 cb9], _, _, rfl, V.left (Nat.le_refl _) hcw _ _ _ _ _ _⟩
  · obtain ⟨rfl, hi⟩ := hbb rfl
    have hi4 : i < 4000 := by have := h3.len; omega
    have p1 := h3.c1
    have pf1 := h3.f 1
    have hPn := h3.next ((i : Int) + 1) (i + 1) (by omega) (by omega)
    have EX := HE (by first | rfl | trivial) (i + 1) false (Or.inr (by omega)) _ hPn
    have hsg := pg_set w3 c 1 (.int .i64 ((i : Int) + 1))
    have hN4 := (hsg.block _ (Array.getElem?_eq_some_iff.1 hN3).1 (fun e => by have := Option.some.inj e; omega)).trans hN3
    have hR4 := (hsg.block _ (Array.getElem?_eq_some_iff.1 hR3).1 (fun e => by have := Option.some.inj e; omega)).trans hR3
    have hg4 := pg_trans hg3 hsg
    have hs4 : (w3.setCell ⟨c, 1, none⟩ (.int .i64 ((i : Int) + 1))).heap.size = w3.heap.size := by simp
    go_wp2_with fail
    refine EX.mono ?_
    rintro e w5 ⟨t, u, j5, bd5, rfl, hL⟩
    obtain ⟨k5, t5, n5, m5, a5, ca5, y5, b5, cb5, kk5, rfl⟩ := np_cells hL.tree
    have hN5 := (hL.by'.block w1.heap.size (by omega) (fun e => by have := Option.some.inj e; omega)).trans hN4
    have hR5 := (hL.by'.block w.heap.size (by omega) (fun e => by have := Option.some.inj e; omega)).trans hR4
    have hg5 := pg_trans hg4 hL.by'
    have hle5 := hL.le
    have V5 : VarAt w ((((((w5.setCell ⟨w1.heap.size, 0, none⟩ (.int .i64 k5)).setCell ⟨w1.heap.size, 1, none⟩ (.string t5)).setCell ⟨w1.heap.size, 2, none⟩ (.int .i64 n5)).setCell ⟨w1.heap.size, 3, none⟩ (.slice a5 m5 ca5)).setCell ⟨w1.heap.size, 4, none⟩ (.int .i64 y5)).setCell ⟨w1.heap.size, 5, none⟩ (.slice b5 kk5 cb5)) w.heap.size w1.heap.size c la cap L i false 2 t [.int .i64 k5, .string t5, .int .i64 n5, .slice a5 m5 ca5, .int .i64 y5, .slice b5 kk5 cb5] j5 bd5 :=
      { res := (six_heap w5 w1.heap.size _ _ _ _ _ _ w.heap.size (by omega)).trans hR5, var := six_var _ _ _ _ _ _ hN5, tree := hL.tree.later (fun g hg => ⟨⟨by have := hg.1; omega, by rw [six_size]; exact hg.2⟩, by have := hg.1; omega, by have := hg.1; omega⟩) (fun p hp => six_other w5 w1.heap.size _ _ _ _ _ _ p (by have := hp.1; omega)), sm := hL.sm, ps := six_ps hL.ps w1.heap.size (by omega) _ _ _ _ _ _, le := by omega, stay := (fun hb => by cases hb), cnt := (fun hb => by have := hL.cnt hb; omega), by' := six_grown hg5 w1.heap.size (by omega) _ _ _ _ _ _ }
    have e0 := cell_of_row _ _ 0 _ _ _ hN5
    have ef0 := frozen_of_row _ _ 0 _ _ hN5
    have e1 := cell_of_row _ _ 1 _ _ _ hN5
    have ef1 := frozen_of_row _ _ 1 _ _ hN5
    have e2 := cell_of_row _ _ 2 _ _ _ hN5
    have ef2 := frozen_of_row _ _ 2 _ _ hN5
    have e3 := cell_of_row _ _ 3 _ _ _ hN5
    have ef3 := frozen_of_row _ _ 3 _ _ hN5
    have e4 := cell_of_row _ _ 4 _ _ _ hN5
    have ef4 := frozen_of_row _ _ 4 _ _ hN5
    have e5 := cell_of_row _ _ 5 _ _ _ hN5
    have ef5 := frozen_of_row _ _ 5 _ _ hN5
    simp only [List.getElem?_cons_zero, List.getElem?_cons_succ, List.getElem?_toArray] at e0 e1 e2 e3 e4 e5
    clear hN3 hR3 hN4 hR4 hN5 hR5 h3 h1 hg3 hg4 hg5 EX hL
    go_wp2_with fail
    refine (take_any c la cap L j5 bd5 ⟨#[41]⟩ _ V5.ps).mono ?_
    rintro e w6 ⟨rfl, j6, bd6, h6, ht6, hg6⟩
    have V0 := V5.step hcw (by omega) hg6 h6 (took_le ht6).1 (took_le ht6).2
    clear V5 e0 e1 e2 e3 e4 e5 ef0 ef1 ef2 ef3 ef4 ef5
    go_wp2_with fail
    go_loopw [] (fun wr => ∃ (f : Nd) (vf : List Value) (j : Nat) (bd : Bool), VarAt w wr w.heap.size w1.heap.size c la cap L i false 2 f vf j bd) (fun wr => pm wr c L.length)
    case atStart => exact ⟨_, _, _, _, V0⟩
    case round =>
      obtain ⟨f, vf, j, bd, V⟩ := hrel
      have p2 := V.ps.c2
      cases bd
      · go_wp2_with fail
        refine (is_any c la cap L j false ⟨#[91]⟩ _ V.ps).mono ?_
        rintro e w5 ⟨⟨b5, rfl, hb5'⟩, hb5⟩
        have V5 := V.below hb5
        cases b5
        · go_wp2_with fail
          refine (is_any c la cap L j false ⟨#[46]⟩ _ V5.ps).mono ?_
          rintro e w6 ⟨⟨b6, rfl, hb6'⟩, hb6⟩
          have V6 := V5.below hb6
          cases b6
          · go_wp2_with fail
            refine (is_any c la cap L j false ⟨#[40]⟩ _ V6.ps).mono ?_
            rintro e w7 ⟨⟨b7, rfl, hb7'⟩, hb7⟩
            have V7 := V6.below hb7
            cases b7
            · obtain ⟨k9, t9, n9, m9, a9, ca9, y9, b9, cb9, kk9, rfl⟩ := np_cells V7.tree
              have c0 := V7.cells 0
              have c1 := V7.cells 1
              have c2 := V7.cells 2
              have c3 := V7.cells 3
              have c4 := V7.cells 4
              have c5 := V7.cells 5
              have d0 := cell_of_row _ _ 0 _ _ _ V7.res
              have d1 := cell_of_row _ _ 1 _ _ _ V7.res
              have d2 := cell_of_row _ _ 2 _ _ _ V7.res
              have d3 := cell_of_row _ _ 3 _ _ _ V7.res
              have d4 := cell_of_row _ _ 4 _ _ _ V7.res
              have d5 := cell_of_row _ _ 5 _ _ _ V7.res
              have g0 := frozen_of_row _ _ 0 _ _ V7.res
              have g1 := frozen_of_row _ _ 1 _ _ V7.res
              have g2 := frozen_of_row _ _ 2 _ _ V7.res
              have g3 := frozen_of_row _ _ 3 _ _ V7.res
              have g4 := frozen_of_row _ _ 4 _ _ V7.res
              have g5 := frozen_of_row _ _ 5 _ _ V7.res
              simp only [List.getElem?_toArray, List.getElem?_cons_zero, List.getElem?_cons_succ] at c0 c1 c2 c3 c4 c5 d0 d1 d2 d3 d4 d5
              go_wp2_with fail
              refine bodyPost_ret (v := .agg #[.int .i64 k9, .string t9, .int .i64 n9, .slice a9 m9 ca9, .int .i64 y9, .slice b9 kk9 cb9]) (by simp [results, Try.results68, go_sem, *]) rfl ⟨_, [.int .i64 k9, .string t9, .int .i64 n9, .slice a9 m9 ca9, .int .i64 y9, .slice b9 kk9 cb9], _, _, rfl, V7.left (Nat.le_refl _) hcw _ _ _ _ _ _⟩
            · have EA' := args_any c la cap L j false w.heap.size (fun g => Bt w.heap.size w7.heap.size g ∧ (g ≠ w.heap.size ∧ g ≠ w1.heap.size)) f vf w7 V7.ps hcw V7.by'.size (fun g hg => hg.1) V7.tree V7.sm (fun j' bd' hh => HE (by first | exact hbf_of V7.stay | trivial) j' bd' (hh.imp id (fun h9 => by have := V7.le; omega)))
              obtain ⟨k9, t9, n9, m9, a9, ca9, y9, b9, cb9, kk9, rfl⟩ := np_cells V7.tree
              have c0 := V7.cells 0
              have c1 := V7.cells 1
              have c2 := V7.cells 2
              have c3 := V7.cells 3
              have c4 := V7.cells 4
              have c5 := V7.cells 5
              simp only [List.getElem?_cons_zero, List.getElem?_cons_succ] at c0 c1 c2 c3 c4 c5
              go_wp2_with fail
              refine EA'.mono ?_
              rintro e w8 ⟨t, u, j8, bd8, rfl, hL, hN, hlt8⟩
              obtain ⟨k8, t8, n8, m8, a8, ca8, y8, b8, cb8, kk8, rfl⟩ := np_cells hN
              have hst8 := hL.stay
              have hct8 := hL.cnt
              have hcn7 := V7.cnt rfl
              have hle7 := V7.le
              have V8 := VarAt.put rfl V7 hcw (Nat.le_refl _) (by omega) hL.by' hN (fun g hg => hg.elim (fun h9 => ⟨⟨h9.1.1, Nat.lt_of_lt_of_le h9.1.2 hL.by'.size⟩, h9.2⟩) (fun h9 => by have q1 := (Array.getElem?_eq_some_iff.1 V7.var).1; have q2 := h9.1; exact ⟨⟨by omega, h9.2⟩, by omega, by omega⟩)) hL.sm hL.ps hL.le hst8 (fun hb => by have := hct8 hb; have := hL.le; omega)
              have V8c := VarAt.step V7 hcw (by omega) hL.by' hL.ps hL.le hL.stay
              have hln8 := hL.ps.le
              have e0 := V8c.cells 0
              have ef0 := frozen_of_row _ _ 0 _ _ V8c.var
              have e1 := V8c.cells 1
              have ef1 := frozen_of_row _ _ 1 _ _ V8c.var
              have e2 := V8c.cells 2
              have ef2 := frozen_of_row _ _ 2 _ _ V8c.var
              have e3 := V8c.cells 3
              have ef3 := frozen_of_row _ _ 3 _ _ V8c.var
              have e4 := V8c.cells 4
              have ef4 := frozen_of_row _ _ 4 _ _ V8c.var
              have e5 := V8c.cells 5
              have ef5 := frozen_of_row _ _ 5 _ _ V8c.var
              simp only [List.getElem?_cons_zero, List.getElem?_cons_succ] at e0 e1 e2 e3 e4 e5
              clear c0 c1 c2 c3 c4 c5 EA' hL hN
              go_wp2_with fail
              go_roundw
              case rel => exact ⟨_, _, _, _, V8⟩
              case measure =>
                rw [V8.ps.pm, V.ps.pm]
                cases bd8
                · have := hlt8 rfl; simp; omega
                · simp
          · obtain ⟨k9, t9, n9, m9, a9, ca9, y9, b9, cb9, kk9, rfl⟩ := np_cells V6.tree
            have hj5 := (hb6' rfl).2
            have q1 := V6.ps.c1
            have qf1 := V6.ps.f 1
            have hj4 : j < 4000 := by have := V.ps.len; omega
            have V7 := V6.next hj5 hcw (by omega)
            go_wp2_with fail
            refine (line_any c la cap L (j + 1) false _ V7.ps).mono ?_
            rintro e w8 ⟨⟨z8, rfl⟩, hb8⟩
            have hg68 : w6.grownBy w8 (some c) := pg_trans (pg_set w6 c 1 (.int .i64 ((j : Int) + 1))) (pg_below hb8)
            have V8 := V7.below hb8
            clear q1 qf1
            go_wp2_with fail
            refine (name_any c la cap L (j + 1) false _ (V8.ps.below (bel_alloc w8 _))).mono ?_
            rintro e w9 ⟨⟨sk, rfl, hsk⟩, j9, bd9, h9, ht9, hg9⟩
            have hK9 := (hg9.block w8.heap.size (by rw [size_alloc]; omega) (fun e => by have := Option.some.inj e; have := V8.ps.lt; omega)).trans (heap_alloc_new w8 _)
            have hcw8 : c < w8.heap.size := V8.ps.lt
            have hg89 := one_grown (pg_trans (pg_below (row := some c) (bel_alloc w8 _)) hg9) w8.heap.size 1 (Nat.le_refl _) (.string sk)
            have hg69 := pg_trans hg68 hg89
            have hK10 := heap_setCell_same _ _ 1 _ _ (.string sk) hK9
            have hP9 := one_ps h9 w8.heap.size 1 hcw8 (.string sk)
            have hj9 := took_le ht9
            have hs69 := hg69.size
            have hnb6 := (Array.getElem?_eq_some_iff.1 V6.var).1
            have V9 := V8.step hcw (by omega) hg89 hP9 hj9.1 hj9.2
            have V10 := VarAt.two' y9 V6 hcw (Nat.le_refl _) (by omega) (lo := w1.heap.size + 1) (by omega) hg69 (x := .mk 13 sk 0 [] z8 []) (u0 := .int .i64 13) (u1 := .string sk) (u2 := .int .i64 0) (u3 := .slice none 0 0) (u4 := .int .i64 z8) (u5 := .slice none 0 0) (by
              simp only [NP]
              exact ⟨by unfold maxLen; omega, none, 0, none, 0, rfl, Nat.zero_le _, Nat.zero_le _, fun k hk => absurd hk (Nat.not_lt_zero _), trivial⟩) (by simp only [Sm, SmL]; exact ⟨⟨hsk, by decide⟩, fun s hs => absurd hs (by simp), trivial⟩) hP9 (by omega) (fun h9 => by cases h9) (fun hb => by simp [wt, wtL]; omega)
            have hj9' := hj9.1
            have hln9 := h9.le
            have f1k := frozen_of_row _ _ 1 _ _ hK9
            have c1k := cell_of_row _ _ 1 _ _ _ hK9
            have e0 := V9.cells 0
            have ef0 := frozen_of_row _ _ 0 _ _ V9.var
            have kc0 := cell_of_row _ _ 0 _ _ _ hK10
            have e1 := V9.cells 1
            have ef1 := frozen_of_row _ _ 1 _ _ V9.var
            have kc1 := cell_of_row _ _ 1 _ _ _ hK10
            have e2 := V9.cells 2
            have ef2 := frozen_of_row _ _ 2 _ _ V9.var
            have kc2 := cell_of_row _ _ 2 _ _ _ hK10
            have e3 := V9.cells 3
            have ef3 := frozen_of_row _ _ 3 _ _ V9.var
            have kc3 := cell_of_row _ _ 3 _ _ _ hK10
            have e4 := V9.cells 4
            have ef4 := frozen_of_row _ _ 4 _ _ V9.var
            have kc4 := cell_of_row _ _ 4 _ _ _ hK10
            have e5 := V9.cells 5
            have ef5 := frozen_of_row _ _ 5 _ _ V9.var
            have kc5 := cell_of_row _ _ 5 _ _ _ hK10
            simp only [List.getElem?_cons_zero, List.getElem?_cons_succ, List.getElem?_toArray] at e0 e1 e2 e3 e4 e5 c1k
            simp at kc0 kc1 kc2 kc3 kc4 kc5
            have V9a := V8.step hcw (by omega) (pg_trans (pg_below (row := some c) (bel_alloc w8 _)) hg9) h9 hj9.1 hj9.2
            have knb9 := (Array.getElem?_eq_some_iff.1 V9a.var).1
            have wc0 := V9a.cells 0
            have wf0 := frozen_of_row _ _ 0 _ _ V9a.var
            have qa0 : ∀ O : Obj, ((w9.setCell ⟨w8.heap.size, 1, none⟩ (.string sk)).alloc O).cell? ⟨w1.heap.size, 0, none⟩ = (w9.setCell ⟨w8.heap.size, 1, none⟩ (.string sk)).cell? ⟨w1.heap.size, 0, none⟩ := fun O => (bel_alloc _ O).cell (p := ⟨w1.heap.size, 0, none⟩) (by simpa using knb9)
            have wc1 := V9a.cells 1
            have wf1 := frozen_of_row _ _ 1 _ _ V9a.var
            have qa1 : ∀ O : Obj, ((w9.setCell ⟨w8.heap.size, 1, none⟩ (.string sk)).alloc O).cell? ⟨w1.heap.size, 1, none⟩ = (w9.setCell ⟨w8.heap.size, 1, none⟩ (.string sk)).cell? ⟨w1.heap.size, 1, none⟩ := fun O => (bel_alloc _ O).cell (p := ⟨w1.heap.size, 1, none⟩) (by simpa using knb9)
            have wc2 := V9a.cells 2
            have wf2 := frozen_of_row _ _ 2 _ _ V9a.var
            have qa2 : ∀ O : Obj, ((w9.setCell ⟨w8.heap.size, 1, none⟩ (.string sk)).alloc O).cell? ⟨w1.heap.size, 2, none⟩ = (w9.setCell ⟨w8.heap.size, 1, none⟩ (.string sk)).cell? ⟨w1.heap.size, 2, none⟩ := fun O => (bel_alloc _ O).cell (p := ⟨w1.heap.size, 2, none⟩) (by simpa using knb9)
            have wc3 := V9a.cells 3
            have wf3 := frozen_of_row _ _ 3 _ _ V9a.var
            have qa3 : ∀ O : Obj, ((w9.setCell ⟨w8.heap.size, 1, none⟩ (.string sk)).alloc O).cell? ⟨w1.heap.size, 3, none⟩ = (w9.setCell ⟨w8.heap.size, 1, none⟩ (.string sk)).cell? ⟨w1.heap.size, 3, none⟩ := fun O => (bel_alloc _ O).cell (p := ⟨w1.heap.size, 3, none⟩) (by simpa using knb9)
            have wc4 := V9a.cells 4
            have wf4 := frozen_of_row _ _ 4 _ _ V9a.var
            have qa4 : ∀ O : Obj, ((w9.setCell ⟨w8.heap.size, 1, none⟩ (.string sk)).alloc O).cell? ⟨w1.heap.size, 4, none⟩ = (w9.setCell ⟨w8.heap.size, 1, none⟩ (.string sk)).cell? ⟨w1.heap.size, 4, none⟩ := fun O => (bel_alloc _ O).cell (p := ⟨w1.heap.size, 4, none⟩) (by simpa using knb9)
            have wc5 := V9a.cells 5
            have wf5 := frozen_of_row _ _ 5 _ _ V9a.var
            have qa5 : ∀ O : Obj, ((w9.setCell ⟨w8.heap.size, 1, none⟩ (.string sk)).alloc O).cell? ⟨w1.heap.size, 5, none⟩ = (w9.setCell ⟨w8.heap.size, 1, none⟩ (.string sk)).cell? ⟨w1.heap.size, 5, none⟩ := fun O => (bel_alloc _ O).cell (p := ⟨w1.heap.size, 5, none⟩) (by simpa using knb9)
            simp only [List.getElem?_cons_zero, List.getElem?_cons_succ] at wc0 wc1 wc2 wc3 wc4 wc5
            have hs9k : (w9.setCell ⟨w8.heap.size, 1, none⟩ (.string sk)).heap.size = w9.heap.size := by simp
            rw [hs9k] at V10
            go_wp2_with fail
            go_roundw
            case rel => exact ⟨_, _, _, _, V10⟩
            case measure =>
              rw [V10.ps.pm, V.ps.pm]
              cases bd9
              · simp; omega
              · simp
        · have hj5 := (hb5' rfl).2
          have q1 := V5.ps.c1
          have qf1 := V5.ps.f 1
          have hj4 : j < 4000 := by have := V.ps.len; omega
          have V6 := V5.next hj5 hcw (by omega)
          obtain ⟨k9, t9, n9, m9, a9, ca9, y9, b9, cb9, kk9, rfl⟩ := np_cells V6.tree
          have c0 := V6.cells 0
          have c1 := V6.cells 1
          have c2 := V6.cells 2
          have c3 := V6.cells 3
          have c4 := V6.cells 4
          have c5 := V6.cells 5
          simp only [List.getElem?_cons_zero, List.getElem?_cons_succ] at c0 c1 c2 c3 c4 c5
          go_wp2_with fail
          have VD := V6.drew
          have EX := HE (by first | exact hbf_of VD.stay | trivial) (j + 1) false (Or.inr (by have := V.le; omega)) _ VD.ps
          have knb := (Array.getElem?_eq_some_iff.1 VD.var).1
          go_region_with (first | (go_at_call 65; refine EX.mono ?_; rintro e w7 ⟨x, u, j7, bd7, rfl, hL⟩; obtain ⟨k7, t7, n7, m7, a7, ca7, y7, b7, cb7, kk7, rfl⟩ := np_cells hL.tree; have V7 := VD.step hcw (by omega) hL.by' hL.ps hL.le hL.stay; have k7b := (Array.getElem?_eq_some_iff.1 V7.var).1; have q0 := V7.cells 0; have q1' := V7.cells 1; have q2 := V7.cells 2; have q3 := V7.cells 3; have q4 := V7.cells 4; have q5 := V7.cells 5; simp only [List.getElem?_cons_zero, List.getElem?_cons_succ] at q0 q1' q2 q3 q4 q5; have qr0 := frozen_of_row _ _ 0 _ _ V7.var; have qr1 := frozen_of_row _ _ 1 _ _ V7.var; have qr2 := frozen_of_row _ _ 2 _ _ V7.var; have qr3 := frozen_of_row _ _ 3 _ _ V7.var; have qr4 := frozen_of_row _ _ 4 _ _ V7.var; have qr5 := frozen_of_row _ _ 5 _ _ V7.var; have qa0 : ∀ O : Obj, (w7.alloc O).cell? ⟨w1.heap.size, 0, none⟩ = w7.cell? ⟨w1.heap.size, 0, none⟩ := (fun O => (bel_alloc w7 O).cell (p := ⟨w1.heap.size, 0, none⟩) k7b); have qf0 : ∀ O : Obj, (w7.alloc O).frozen? ⟨w1.heap.size, 0, none⟩ = false := (fun O => ((bel_alloc w7 O).frozen (p := ⟨w1.heap.size, 0, none⟩) k7b).trans (frozen_of_row _ _ 0 _ _ V7.var)); have qa1 : ∀ O : Obj, (w7.alloc O).cell? ⟨w1.heap.size, 1, none⟩ = w7.cell? ⟨w1.heap.size, 1, none⟩ := (fun O => (bel_alloc w7 O).cell (p := ⟨w1.heap.size, 1, none⟩) k7b); have qf1 : ∀ O : Obj, (w7.alloc O).frozen? ⟨w1.heap.size, 1, none⟩ = false := (fun O => ((bel_alloc w7 O).frozen (p := ⟨w1.heap.size, 1, none⟩) k7b).trans (frozen_of_row _ _ 1 _ _ V7.var)); have qa2 : ∀ O : Obj, (w7.alloc O).cell? ⟨w1.heap.size, 2, none⟩ = w7.cell? ⟨w1.heap.size, 2, none⟩ := (fun O => (bel_alloc w7 O).cell (p := ⟨w1.heap.size, 2, none⟩) k7b); have qf2 : ∀ O : Obj, (w7.alloc O).frozen? ⟨w1.heap.size, 2, none⟩ = false := (fun O => ((bel_alloc w7 O).frozen (p := ⟨w1.heap.size, 2, none⟩) k7b).trans (frozen_of_row _ _ 2 _ _ V7.var)); have qa3 : ∀ O : Obj, (w7.alloc O).cell? ⟨w1.heap.size, 3, none⟩ = w7.cell? ⟨w1.heap.size, 3, none⟩ := (fun O => (bel_alloc w7 O).cell (p := ⟨w1.heap.size, 3, none⟩) k7b); have qf3 : ∀ O : Obj, (w7.alloc O).frozen? ⟨w1.heap.size, 3, none⟩ = false := (fun O => ((bel_alloc w7 O).frozen (p := ⟨w1.heap.size, 3, none⟩) k7b).trans (frozen_of_row _ _ 3 _ _ V7.var)); have qa4 : ∀ O : Obj, (w7.alloc O).cell? ⟨w1.heap.size, 4, none⟩ = w7.cell? ⟨w1.heap.size, 4, none⟩ := (fun O => (bel_alloc w7 O).cell (p := ⟨w1.heap.size, 4, none⟩) k7b); have qf4 : ∀ O : Obj, (w7.alloc O).frozen? ⟨w1.heap.size, 4, none⟩ = false := (fun O => ((bel_alloc w7 O).frozen (p := ⟨w1.heap.size, 4, none⟩) k7b).trans (frozen_of_row _ _ 4 _ _ V7.var)); have qa5 : ∀ O : Obj, (w7.alloc O).cell? ⟨w1.heap.size, 5, none⟩ = w7.cell? ⟨w1.heap.size, 5, none⟩ := (fun O => (bel_alloc w7 O).cell (p := ⟨w1.heap.size, 5, none⟩) k7b); have qf5 : ∀ O : Obj, (w7.alloc O).frozen? ⟨w1.heap.size, 5, none⟩ = false := (fun O => ((bel_alloc w7 O).frozen (p := ⟨w1.heap.size, 5, none⟩) k7b).trans (frozen_of_row _ _ 5 _ _ V7.var))))
          all_goals
            have V8 := VarAt.two' y9 VD hcw (Nat.le_refl _) (by omega) knb hL.by' hL.tree hL.sm hL.ps hL.le hL.stay (fun hb => by have := hL.cnt hb; omega)
            have hle7 := hL.le
            clear q0 q1' q2 q3 q4 q5 qr0 qr1 qr2 qr3 qr4 qr5 qa0 qa1 qa2 qa3 qa4 qa5 qf0 qf1 qf2 qf3 qf4 qf5 V7 EX hL c0 c1 c2 c3 c4 c5
            go_wp2_with fail
            refine (take_any c la cap L j7 bd7 ⟨#[93]⟩ _ V8.ps).mono ?_
            rintro e w9 ⟨rfl, j9, bd9, h9, ht9, hg9⟩
            have V9 := V8.step hcw (by omega) hg9 h9 (took_le ht9).1 (took_le ht9).2
            have hle9 := (took_le ht9).1
            have hln9 := h9.le
            go_wp2_with fail
            go_roundw
            case rel => exact ⟨_, _, _, _, V9⟩
            case measure => rw [V9.ps.pm, V.ps.pm]; cases bd9 <;> simp <;> omega
      · obtain ⟨k9, t9, n9, m9, a9, ca9, y9, b9, cb9, kk9, rfl⟩ := np_cells V.tree
        have c0 := V.cells 0
        have c1 := V.cells 1
        have c2 := V.cells 2
        have c3 := V.cells 3
        have c4 := V.cells 4
        have c5 := V.cells 5
        have d0 := cell_of_row _ _ 0 _ _ _ V.res
        have d1 := cell_of_row _ _ 1 _ _ _ V.res
        have d2 := cell_of_row _ _ 2 _ _ _ V.res
        have d3 := cell_of_row _ _ 3 _ _ _ V.res
        have d4 := cell_of_row _ _ 4 _ _ _ V.res
        have d5 := cell_of_row _ _ 5 _ _ _ V.res
        have g0 := frozen_of_row _ _ 0 _ _ V.res
        have g1 := frozen_of_row _ _ 1 _ _ V.res
        have g2 := frozen_of_row _ _ 2 _ _ V.res
        have g3 := frozen_of_row _ _ 3 _ _ V.res
        have g4 := frozen_of_row _ _ 4 _ _ V.res
        have g5 := frozen_of_row _ _ 5 _ _ V.res
        simp only [List.getElem?_toArray, List.getElem?_cons_zero, List.getElem?_cons_succ] at c0 c1 c2 c3 c4 c5 d0 d1 d2 d3 d4 d5
        go_wp2_with fail
        refine bodyPost_ret (v := .agg #[.int .i64 k9, .string t9, .int .i64 n9, .slice a9 m9 ca9, .int .i64 y9, .slice b9 kk9 cb9]) (by simp [results, Try.results68, go_sem, *]) rfl ⟨_, [.int .i64 k9, .string t9, .int .i64 n9, .slice a9 m9 ca9, .int .i64 y9, .slice b9 kk9 cb9], _, _, rfl, V.left (Nat.le_refl _) hcw _ _ _ _ _ _⟩
end Go.Proofs.Ytlmmomffanakiaa
