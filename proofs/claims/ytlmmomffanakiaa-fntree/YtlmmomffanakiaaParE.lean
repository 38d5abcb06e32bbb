/- The arguments of a call, as the reader takes them. -/
import Derived.Test.YtlmmomffanakiaaJmE
import Derived.Deep.AppendLies
import Derived.Deep.RegionHeldLaw
import Derived.Deep.RegionLaw
namespace Go.Proofs.Ytlmmomffanakiaa
open Go.RowKit

theorem four_alloc {w : World} (A B C D : Obj) :
    ((((w.alloc A).alloc B).alloc C).alloc D).heap[w.heap.size]? = some A ∧ ((((w.alloc A).alloc B).alloc C).alloc D).heap[w.heap.size + 1]? = some B ∧ ((((w.alloc A).alloc B).alloc C).alloc D).heap[w.heap.size + 1 + 1]? = some C ∧ ((((w.alloc A).alloc B).alloc C).alloc D).heap[w.heap.size + 1 + 1 + 1]? = some D ∧ Below w.heap.size w ((((w.alloc A).alloc B).alloc C).alloc D) ∧ ((((w.alloc A).alloc B).alloc C).alloc D).heap.size = w.heap.size + 4 := by
  have s1 := size_alloc w A
  have s2 := size_alloc (w.alloc A) B
  have s3 := size_alloc ((w.alloc A).alloc B) C
  have s4 := size_alloc (((w.alloc A).alloc B).alloc C) D
  refine ⟨?_, ?_, ?_, ?_, ?_, by omega⟩
  · rw [Below.heap_alloc _ _ _ (by omega), Below.heap_alloc _ _ _ (by omega), Below.heap_alloc _ _ _ (by omega)]; exact heap_alloc_new w A
  · rw [Below.heap_alloc _ _ _ (by omega), Below.heap_alloc _ _ _ (by omega)]
    have := heap_alloc_new (w.alloc A) B
    rwa [s1] at this
  · rw [Below.heap_alloc _ _ _ (by omega)]
    have := heap_alloc_new ((w.alloc A).alloc B) C
    rwa [s2, s1] at this
  · have := heap_alloc_new (((w.alloc A).alloc B).alloc C) D
    rwa [s3, s2, s1] at this
  · exact ((bel_alloc w A).trans ((bel_alloc _ B).mono (by omega))).trans (((bel_alloc _ C).mono (by omega)).trans ((bel_alloc _ D).mono (by omega)))

theorem node_cells (wx : World) (e : TypeId) (u : List Value) (nb : Nat) (hn : nb = wx.heap.size) : ∀ j x, u[j]? = some x → (wx.alloc (.cells u.toArray e)).cell? ((⟨nb, 0, none⟩ : Addr).add j) = some x := by
  intro j x hx
  subst hn
  have hadd : (⟨wx.heap.size, 0, none⟩ : Addr).add j = ⟨wx.heap.size, j, none⟩ := by unfold Addr.add; split <;> simp_all
  rw [hadd, cell_of_row _ wx.heap.size j _ e (0, 0) (heap_alloc_new wx _)]
  simpa using hx
theorem node_one (a0 : Int) (a1 : ByteArray) (a2 : Int) (a3 : Option Addr) (b3 c3 : Nat) (a4 : Int) (a5 : Option Addr) (b5 c5 : Nat) : ∀ x ∈ [Value.int .i64 a0, .string a1, .int .i64 a2, .slice a3 b3 c3, .int .i64 a4, .slice a5 b5 c5], x.oneCell' = true := by
  intro x hx; simp at hx; rcases hx with rfl | rfl | rfl | rfl | rfl | rfl <;> rfl

def ExpOk (r : Int) (c : Nat) (la : Option Addr) (cap : Nat) (L : List Tk) (i : Nat) (bad : Bool) : Prop :=
  ∀ w : World, PS w c la cap L i bad → Reads 65 #[.pointer (some ⟨c, 0, none⟩), .int .i64 r] w w.heap.size c la cap L i bad 2 0

/-- A node's row of one kid, as a literal lays it. -/
theorem krow_one {w : World} {Q : Nat → Prop} {g lo B : Nat} {f : Nd} {vf : List Value} (hg : w.heap[g]? = some (.cells vf.toArray 27 (0, 0))) (hB : B ≤ g) (hf : NP w (fun b => (Bt lo w.heap.size b ∧ Q b) ∧ b ≠ g) f vf) : KRow w Q B lo (.slice (some ⟨g, 0, none⟩) 1 1) [f] [vf] := by
  have h6 := np_len hf
  refine ⟨rfl, fun i hi hi' => ?_, ⟨by simp [h6], .inr ⟨g, 1, _, rfl, hB, hg, Nat.le_refl _, by unfold maxLen; omega, by simp [h6], by simp; exact List.take_of_length_le (by omega)⟩⟩⟩
  have : i = 0 := by simp at hi; omega
  subst this
  exact ⟨h6, hf.later (fun b hb => ⟨hb.1, fun e => hb.2 (by simpa [Value.ownBlock] using e.symm)⟩) (fun _ _ => rfl)⟩

set_option maxRecDepth 100000 in
set_option maxHeartbeats 3200000 in
theorem args_any (c : Nat) (la : Option Addr) (cap : Nat) (L : List Tk) (i : Nat) (bad : Bool) (lo : Nat) (P0 : Nat → Prop) (f : Nd) (vf : List Value) (w : World) (h : PS w c la cap L i bad) (hlo : c < lo) (hlo2 : lo ≤ w.heap.size) (hP0 : ∀ g, P0 g → Bt lo w.heap.size g) (hf : NP w P0 f vf) (hsm : Sm f)
    (HE : ∀ j bd, (bd = true ∨ i < j) → ExpOk 0 c la cap L j bd) :
    Calls Try.prog 77 #[.pointer (some ⟨c, 0, none⟩), .agg vf.toArray] w fun e w' => ∃ t v i' bad', e = .returned (.agg v.toArray) ∧ Left w w' lo c la cap L i bad 3 (wt f) t v i' bad' ∧ NP w' (fun g => P0 g ∨ Bt w.heap.size w'.heap.size g) t v ∧ (bad' = false → i < i') := by
  obtain ⟨i0, hi0, hz0, hz1, hz2⟩ := info_parts info_nd
  have hcw := h.lt
  have hf0 := hf
  obtain ⟨k, tx, n, ms, a', ca', y, b', cb', kk, rfl⟩ := np_cells hf
  go_enter Try.func77, Try.ntmps77
  go_wp2_with fail
  obtain ⟨hA, hB, hC, hD, hal, hsz⟩ := four_alloc (w := w) (.cells #[Value.int IntKind.i64 k, Value.string tx, Value.int IntKind.i64 n, Value.slice a' ms ca', Value.int IntKind.i64 y, Value.slice b' kk cb'] 27) (.cells #[Value.int IntKind.i64 0, Value.string ⟨#[]⟩, Value.int IntKind.i64 0, Value.slice none 0 0, Value.int IntKind.i64 0, Value.slice none 0 0] 27) (.cells #[Value.int IntKind.i64 k, Value.string tx, Value.int IntKind.i64 n, Value.slice a' ms ca', Value.int IntKind.i64 y, Value.slice b' kk cb'] 27) (.cells #[Value.int IntKind.i64 18, Value.string ⟨#[]⟩, Value.int IntKind.i64 0, Value.slice none 0 0, Value.int IntKind.i64 y, Value.slice (some ⟨w.heap.size + 1 + 1, 0, none⟩) 1 1] 27)
  refine (take_any c la cap L i bad ⟨#[40]⟩ _ (h.below hal)).mono ?_
  rintro e w1 ⟨rfl, j1, bd1, h1, ht1, hg1⟩
  have hK0 := krow_one (lo := lo) (Q := fun b => (P0 b ∨ w.heap.size ≤ b) ∧ b ≠ w.heap.size + 1 ∧ b ≠ w.heap.size + 1 + 1 + 1) (B := w.heap.size) hC (by omega) ((hf0.later (w' := _) (P' := fun b => (Bt lo _ b ∧ ((P0 b ∨ w.heap.size ≤ b) ∧ b ≠ w.heap.size + 1 ∧ b ≠ w.heap.size + 1 + 1 + 1)) ∧ b ≠ w.heap.size + 1 + 1) (fun g hg => ⟨⟨⟨(hP0 g hg).1, by rw [hsz]; have := (hP0 g hg).2; omega⟩, Or.inl hg, by have := (hP0 g hg).2; omega, by have := (hP0 g hg).2; omega⟩, by have := (hP0 g hg).2; omega⟩) (fun p hp => hal.cell (hP0 _ hp).2)))
  have hK1 := hK0.grown hg1 (by omega) hlo
  have hD1 := (hg1.block (w.heap.size + 1 + 1 + 1) (by omega) (fun e => by have := Option.some.inj e; omega)).trans hD
  have hB1 := (hg1.block (w.heap.size + 1) (by omega) (fun e => by have := Option.some.inj e; omega)).trans hB
  have hgr1 := pg_trans (pg_below (row := some c) hal) hg1
  clear hA hB hC hD hK0 hf hf0
  go_wp2_with fail
  go_loopw [] (fun wr => ∃ (ks : List Nd) (vs : List (List Value)) (v : Value) (j : Nat) (bd : Bool), wr.heap[w.heap.size + 1 + 1 + 1]? = some (.cells #[.int .i64 18, .string ⟨#[]⟩, .int .i64 0, .slice none 0 0, .int .i64 y, v] 27 (0, 0)) ∧ wr.heap[w.heap.size + 1]? = some (.cells #[Value.int IntKind.i64 0, Value.string ⟨#[]⟩, Value.int IntKind.i64 0, Value.slice none 0 0, Value.int IntKind.i64 0, Value.slice none 0 0] 27 (0, 0)) ∧ KRow wr (fun b => (P0 b ∨ w.heap.size ≤ b) ∧ b ≠ w.heap.size + 1 ∧ b ≠ w.heap.size + 1 + 1 + 1) w.heap.size lo v ks vs ∧ (∀ b, v.ownBlock = some b → b = w.heap.size + 1 + 1 ∨ w.heap.size + 4 ≤ b) ∧ PS wr c la cap L j bd ∧ i ≤ j ∧ (bad = true → bd = true ∧ j = i) ∧ (bd = false → i < j) ∧ (∀ x ∈ ks, Sm x) ∧ 1 ≤ ks.length ∧ ks.length ≤ 10 ∧ (bd = false → ks.length ≤ 9) ∧ (bd = false → wtL ks + 1 ≤ 2 * (j - i) + wt f) ∧ w.grownBy wr (some c)) (fun wr => pm wr c L.length)
  case atStart =>
    refine ⟨[f], _, _, j1, bd1, hD1, hB1, hK1, fun b hb => Or.inl (by simpa [Value.ownBlock] using hb.symm), h1, by rcases ht1 with ⟨_, _, _, rfl⟩ | ⟨_, rfl⟩ <;> omega, fun hb => by rcases ht1 with ⟨h, _⟩ | ⟨h, h'⟩ <;> simp_all, fun hb => by rcases ht1 with ⟨_, _, _, rfl⟩ | ⟨h, _⟩ <;> simp_all, fun x hx => by rw [List.mem_singleton] at hx; subst hx; exact hsm, by simp, by simp, fun _ => by simp, fun hb => ?_, hgr1⟩
    rcases ht1 with ⟨_, _, _, rfl⟩ | ⟨h, _⟩
    · simp [wtL]; omega
    · simp_all
  case round =>
    obtain ⟨ks, vs, v, j, bd, hN, hR, hK, hv, hP, hij, hbad, hlt, hS, hk1, hk10, hk9, hcnt, hgr⟩ := hrel
    have hvQ : ∀ b, v.ownBlock = some b → (P0 b ∨ w.heap.size ≤ b) ∧ b ≠ w.heap.size + 1 ∧ b ≠ w.heap.size + 1 + 1 + 1 := fun b hb => by rcases hv b hb with h | h <;> exact ⟨Or.inr (by omega), by omega, by omega⟩
    obtain ⟨av, cv, rfl, _, _⟩ := hK.kp (by omega) hvQ
    have p2 := hP.c2
    cases bd
    · go_wp2_with fail
      refine (is_any c la cap L j false ⟨#[41]⟩ _ hP).mono ?_
      rintro e w2 ⟨⟨b2, rfl, _⟩, hb2⟩
      have hP2 := hP.below hb2
      have hK2 := hK.grown (pg_below (row := some c) hb2) (by omega) hlo
      have hN2 := (hb2.block _ (Array.getElem?_eq_some_iff.1 hN).1).trans hN
      have hR2 := (hb2.block _ (Array.getElem?_eq_some_iff.1 hR).1).trans hR
      have hgr2 := pg_trans hgr (pg_below (row := some c) hb2)
      clear hK hN hR hgr p2
      cases b2
      · have n5 := cell_of_row _ _ 5 _ _ _ hN2
        simp only [List.getElem?_toArray, List.getElem?_cons_zero, List.getElem?_cons_succ] at n5
        have f5 := frozen_of_row _ _ 5 _ _ hN2
        by_cases hk2 : ks.length < 2
        · have kn : w.heap.size + 1 + 1 + 1 < w2.heap.size := (Array.getElem?_eq_some_iff.1 hN2).1
          have EX := HE j false (Or.inr (hlt (by simp))) w2.drew hP2.drew
          have KD : KRow w2.drew (fun b => (P0 b ∨ w.heap.size ≤ b) ∧ b ≠ w.heap.size + 1 ∧ b ≠ w.heap.size + 1 + 1 + 1) w.heap.size lo (.slice av ks.length cv) ks vs := hK2.grown (pg_drew (pg_refl _ (some c))) (by omega) hlo
          have ND : w2.drew.heap[w.heap.size + 1 + 1 + 1]? = some (.cells #[.int .i64 18, .string ⟨#[]⟩, .int .i64 0, .slice none 0 0, .int .i64 y, .slice av ks.length cv] 27 (0, 0)) := hN2
          have RD : w2.drew.heap[w.heap.size + 1]? = some (.cells #[Value.int IntKind.i64 0, Value.string ⟨#[]⟩, Value.int IntKind.i64 0, Value.slice none 0 0, Value.int IntKind.i64 0, Value.slice none 0 0] 27 (0, 0)) := hR2
          have GD : w.grownBy w2.drew (some c) := pg_drew hgr2
          go_wp2_with fail
          go_region_law
            (first
              | (refine step_append_lies _ rfl _ _ _ rfl w.heap.size 27 i0 _ 6 88 Try.underlying25 hi0 hz0 hz1 hz2 rfl (by decide) _ _ _ rfl (hK3.own.alloc _) ⟨w3.heap.size, 0, none⟩ 1 1 [.int .i64 k3, .string t3, .int .i64 n3, .slice a3 m3 ca3, .int .i64 y3, .slice b3 kk3 cb3] rfl rfl (node_cells _ _ _ _ rfl) (node_one _ _ _ _ _ _ _ _ _ _) (by decide) (by unfold maxLen; omega) (by omega) (by simp; omega) _ rfl ?_; intro g6 cp6 w6 hown6 hgrow6 hat6 hlt6; have kn6 : (⟨w.heap.size + 1 + 1 + 1, 5, none⟩ : Addr).block < (w3.alloc (.cells #[.int .i64 k3, .string t3, .int .i64 n3, .slice a3 m3 ca3, .int .i64 y3, .slice b3 kk3 cb3] 27)).heap.size := (by rw [size_alloc]; show w.heap.size + 1 + 1 + 1 < _; omega); have ne6 : some (⟨w.heap.size + 1 + 1 + 1, 5, none⟩ : Addr).block ≠ (Value.slice av ks.length cv).ownBlock := (fun e => by rcases hv _ e.symm with h | h <;> simp at h <;> omega); have qn6 := (hgrow6.cell_far _ kn6 ne6).trans (((bel_alloc w3 _).cell (p := ⟨w.heap.size + 1 + 1 + 1, 5, none⟩) kn3).trans qn5); have qf6 := (hgrow6.frozen_far _ kn6 ne6).trans (((bel_alloc w3 _).frozen (p := ⟨w.heap.size + 1 + 1 + 1, 5, none⟩) kn3).trans qf5))
              | (go_simp; go_at_call 65; refine EX.mono ?_; rintro e w3 ⟨x, u, j3, bd3, rfl, hL⟩; obtain ⟨k3, t3, n3, m3, a3, ca3, y3, b3, cb3, kk3, rfl⟩ := np_cells hL.tree; have hK3 := KD.grown hL.by' (by omega) hlo; have hN3 := (hL.by'.block _ kn (fun e => by have := Option.some.inj e; omega)).trans ND; have qn5 := cell_of_row _ _ 5 _ _ _ hN3; have qf5 := frozen_of_row _ _ 5 _ _ hN3; simp only [List.getElem?_toArray, List.getElem?_cons_zero, List.getElem?_cons_succ] at qn5; have kn3 := (Array.getElem?_eq_some_iff.1 hN3).1; have qa5 : ∀ O : Obj, (w3.alloc O).cell? ⟨w.heap.size + 1 + 1 + 1, 5, none⟩ = some (.slice av ks.length cv) := (fun O => ((bel_alloc w3 O).cell (p := ⟨w.heap.size + 1 + 1 + 1, 5, none⟩) kn3).trans qn5)))
          all_goals
            have hP6 := PS.grown hL.ps hgrow6 (fun b hb => by rcases hv b hb with h | h <;> omega)
            have hsz3 := size_alloc w3 (.cells #[.int .i64 k3, .string t3, .int .i64 n3, .slice a3 m3 ca3, .int .i64 y3, .slice b3 kk3 cb3] 27)
            have hlow3 : w.heap.size + 4 ≤ w3.heap.size := by
              have q1 := GD.size
              have q2 := hL.by'.size
              have q3 := hg1.size
              omega
            have hN6 := (hgrow6.block (w.heap.size + 1 + 1 + 1) (by omega) ne6).trans ((Below.heap_alloc w3 _ _ (by omega)).trans hN3)
            have hR3 := (hL.by'.block (w.heap.size + 1) (Array.getElem?_eq_some_iff.1 RD).1 (fun e => by have := Option.some.inj e; omega)).trans RD
            have ne1 : some (w.heap.size + 1) ≠ (Value.slice av ks.length cv).ownBlock := fun e => by rcases hv _ e.symm with h | h <;> omega
            have hR6 := (hgrow6.block (w.heap.size + 1) (by omega) ne1).trans ((Below.heap_alloc w3 _ _ (by omega)).trans hR3)
            have hnew6 : ∀ b, (Value.slice (some ⟨g6, 0, none⟩) (ks.length + 1) cp6).ownBlock = some b → b = w.heap.size + 1 + 1 ∨ w.heap.size + 4 ≤ b := fun b hb => by
              obtain rfl : g6 = b := by simpa [Value.ownBlock] using hb
              rcases hat6 with h | h
              · exact hv _ h
              · rw [hsz3] at h; omega
            have hK6 := hK3.snoc (lo' := w2.drew.heap.size) hL.tree (by have := GD.size; omega) (fun g hg => by have h9 : w2.drew.heap.size = w2.heap.size := rfl; exact ⟨Or.inr (by omega), by omega, by omega⟩) (fun b hb => by have := KD.own.lt b hb; omega) hown6 hgrow6 (fun b hb => by
              obtain rfl : g6 = b := by simpa [Value.ownBlock] using hb
              rcases hat6 with h | h
              · exact Or.inl h
              · exact Or.inr (by rw [h, hsz3]; omega))
            have hK7 := krow_set hK6 (w.heap.size + 1 + 1 + 1) 5 (.slice (some ⟨g6, 0, none⟩) (ks.length + 1) cp6) (fun e => by rcases hnew6 _ e with h | h <;> omega) (fun g hg => hg.2.2)
            have hP7 := one_ps hP6 (w.heap.size + 1 + 1 + 1) 5 (by omega) (.slice (some ⟨g6, 0, none⟩) (ks.length + 1) cp6)
            have hG6 := pg_own (pg_trans GD hL.by') hgrow6 (fun b hb => by rcases hv b hb with h | h <;> omega)
            have hG7 := one_grown hG6 (w.heap.size + 1 + 1 + 1) 5 (by omega) (.slice (some ⟨g6, 0, none⟩) (ks.length + 1) cp6)
            have hN7 := (heap_setCell_same _ _ 5 _ _ (.slice (some ⟨g6, 0, none⟩) (ks.length + 1) cp6) hN6)
            have hR7 := (heap_setCell_other w6 ⟨w.heap.size + 1 + 1 + 1, 5, none⟩ (w.heap.size + 1) (.slice (some ⟨g6, 0, none⟩) (ks.length + 1) cp6) (by show w.heap.size + 1 ≠ w.heap.size + 1 + 1 + 1; omega)).trans hR6
            have hpm7 := hP7.pm
            have hpm0 := hP.pm
            have hle3 := hL.le
            have hst3 := hL.stay
            have hct3 := hL.cnt
            have hpl := hP7.le
            go_wp2_with fail
            go_roundw
            case rel => exact ⟨ks ++ [x], vs ++ [_], _, j3, bd3, hN7, hR7, hK7, hnew6, hP7, by omega, (fun hb => by have h9 := (hbad hb).1; cases h9), (fun _ => by have := hlt (by simp); omega), fun z hz => (List.mem_append.1 hz).elim (hS z) (fun h => by rw [List.mem_singleton] at h; subst h; exact hL.sm), by simp, by simp; omega, (fun _ => by simp; omega), (fun hb => by have := hct3 hb; have := hcnt (by simp); rw [wtL_snoc]; omega), hG7⟩
            case measure =>
              rw [hpm7, hpm0]
              cases bd3
              · have := hct3 rfl; simp; omega
              · simp
        · go_wp2_with fail
          refine (take_any c la cap L j false ⟨#[44]⟩ _ hP2).mono ?_
          rintro e w2b ⟨rfl, jb, bdb, hPb, htb, hgb⟩
          have hKb := hK2.grown hgb (by omega) hlo
          have hNb := (hgb.block _ (Array.getElem?_eq_some_iff.1 hN2).1 (fun e => by have := Option.some.inj e; omega)).trans hN2
          have hRb := (hgb.block _ (Array.getElem?_eq_some_iff.1 hR2).1 (fun e => by have := Option.some.inj e; omega)).trans hR2
          have hGb := pg_trans hgr2 hgb
          have hjb : j ≤ jb := by rcases htb with ⟨_, _, _, rfl⟩ | ⟨_, rfl⟩ <;> omega
          have hlt0 := hlt (by simp)
          have hk9x : ks.length ≤ 9 := hk9 (by simp)
          have hib : i < jb := by omega
          clear n5 f5
          have n5 := cell_of_row _ _ 5 _ _ _ hNb
          simp only [List.getElem?_toArray, List.getElem?_cons_zero, List.getElem?_cons_succ] at n5
          have f5 := frozen_of_row _ _ 5 _ _ hNb
          by_cases hk9' : 8 < ks.length
          · have pb2 := hPb.c2
            have fb2 := hPb.f 2
            have hsg := pg_set w2b c 2 (.bool true)
            have hPs := hPb.bad!
            have hKs := hKb.grown hsg (by omega) hlo
            have hNs := (hsg.block _ (Array.getElem?_eq_some_iff.1 hNb).1 (fun e => by have := Option.some.inj e; omega)).trans hNb
            have hRs := (hsg.block _ (Array.getElem?_eq_some_iff.1 hRb).1 (fun e => by have := Option.some.inj e; omega)).trans hRb
            have hGs := pg_trans hGb hsg
            have n5s := cell_of_row _ _ 5 _ _ _ hNs
            simp only [List.getElem?_toArray, List.getElem?_cons_zero, List.getElem?_cons_succ] at n5s
            have f5s := frozen_of_row _ _ 5 _ _ hNs
            have kn : w.heap.size + 1 + 1 + 1 < (w2b.setCell ⟨c, 2, none⟩ (.bool true)).heap.size := (Array.getElem?_eq_some_iff.1 hNs).1
            have EX := HE jb true (Or.inl rfl) (w2b.setCell ⟨c, 2, none⟩ (.bool true)).drew hPs.drew
            have KD : KRow (w2b.setCell ⟨c, 2, none⟩ (.bool true)).drew (fun b => (P0 b ∨ w.heap.size ≤ b) ∧ b ≠ w.heap.size + 1 ∧ b ≠ w.heap.size + 1 + 1 + 1) w.heap.size lo (.slice av ks.length cv) ks vs := hKs.grown (pg_drew (pg_refl _ (some c))) (by omega) hlo
            have ND : (w2b.setCell ⟨c, 2, none⟩ (.bool true)).drew.heap[w.heap.size + 1 + 1 + 1]? = some (.cells #[.int .i64 18, .string ⟨#[]⟩, .int .i64 0, .slice none 0 0, .int .i64 y, .slice av ks.length cv] 27 (0, 0)) := hNs
            have RD : (w2b.setCell ⟨c, 2, none⟩ (.bool true)).drew.heap[w.heap.size + 1]? = some (.cells #[Value.int IntKind.i64 0, Value.string ⟨#[]⟩, Value.int IntKind.i64 0, Value.slice none 0 0, Value.int IntKind.i64 0, Value.slice none 0 0] 27 (0, 0)) := hRs
            have GD : w.grownBy (w2b.setCell ⟨c, 2, none⟩ (.bool true)).drew (some c) := pg_drew hGs
            go_wp2_with fail
            go_region_law
              (first
                | (refine step_append_lies _ rfl _ _ _ rfl w.heap.size 27 i0 _ 6 88 Try.underlying25 hi0 hz0 hz1 hz2 rfl (by decide) _ _ _ rfl (hK3.own.alloc _) ⟨w3.heap.size, 0, none⟩ 1 1 [.int .i64 k3, .string t3, .int .i64 n3, .slice a3 m3 ca3, .int .i64 y3, .slice b3 kk3 cb3] rfl rfl (node_cells _ _ _ _ rfl) (node_one _ _ _ _ _ _ _ _ _ _) (by decide) (by unfold maxLen; omega) (by omega) (by simp; omega) _ rfl ?_; intro g6 cp6 w6 hown6 hgrow6 hat6 hlt6; have kn6 : (⟨w.heap.size + 1 + 1 + 1, 5, none⟩ : Addr).block < (w3.alloc (.cells #[.int .i64 k3, .string t3, .int .i64 n3, .slice a3 m3 ca3, .int .i64 y3, .slice b3 kk3 cb3] 27)).heap.size := (by rw [size_alloc]; show w.heap.size + 1 + 1 + 1 < _; omega); have ne6 : some (⟨w.heap.size + 1 + 1 + 1, 5, none⟩ : Addr).block ≠ (Value.slice av ks.length cv).ownBlock := (fun e => by rcases hv _ e.symm with h | h <;> simp at h <;> omega); have qn6 := (hgrow6.cell_far _ kn6 ne6).trans (((bel_alloc w3 _).cell (p := ⟨w.heap.size + 1 + 1 + 1, 5, none⟩) kn3).trans qn5); have qf6 := (hgrow6.frozen_far _ kn6 ne6).trans (((bel_alloc w3 _).frozen (p := ⟨w.heap.size + 1 + 1 + 1, 5, none⟩) kn3).trans qf5))
                | (go_simp; go_at_call 65; refine EX.mono ?_; rintro e w3 ⟨x, u, j3, bd3, rfl, hL⟩; obtain ⟨k3, t3, n3, m3, a3, ca3, y3, b3, cb3, kk3, rfl⟩ := np_cells hL.tree; have hK3 := KD.grown hL.by' (by omega) hlo; have hN3 := (hL.by'.block _ kn (fun e => by have := Option.some.inj e; omega)).trans ND; have qn5 := cell_of_row _ _ 5 _ _ _ hN3; have qf5 := frozen_of_row _ _ 5 _ _ hN3; simp only [List.getElem?_toArray, List.getElem?_cons_zero, List.getElem?_cons_succ] at qn5; have kn3 := (Array.getElem?_eq_some_iff.1 hN3).1; have qa5 : ∀ O : Obj, (w3.alloc O).cell? ⟨w.heap.size + 1 + 1 + 1, 5, none⟩ = some (.slice av ks.length cv) := (fun O => ((bel_alloc w3 O).cell (p := ⟨w.heap.size + 1 + 1 + 1, 5, none⟩) kn3).trans qn5)))
            all_goals
              have hP6 := PS.grown hL.ps hgrow6 (fun b hb => by rcases hv b hb with h | h <;> omega)
              have hsz3 := size_alloc w3 (.cells #[.int .i64 k3, .string t3, .int .i64 n3, .slice a3 m3 ca3, .int .i64 y3, .slice b3 kk3 cb3] 27)
              have hlow3 : w.heap.size + 4 ≤ w3.heap.size := by
                have q1 := GD.size
                have q2 := hL.by'.size
                have q3 := hg1.size
                omega
              have hN6 := (hgrow6.block (w.heap.size + 1 + 1 + 1) (by omega) ne6).trans ((Below.heap_alloc w3 _ _ (by omega)).trans hN3)
              have hR3 := (hL.by'.block (w.heap.size + 1) (Array.getElem?_eq_some_iff.1 RD).1 (fun e => by have := Option.some.inj e; omega)).trans RD
              have ne1 : some (w.heap.size + 1) ≠ (Value.slice av ks.length cv).ownBlock := fun e => by rcases hv _ e.symm with h | h <;> omega
              have hR6 := (hgrow6.block (w.heap.size + 1) (by omega) ne1).trans ((Below.heap_alloc w3 _ _ (by omega)).trans hR3)
              have hnew6 : ∀ b, (Value.slice (some ⟨g6, 0, none⟩) (ks.length + 1) cp6).ownBlock = some b → b = w.heap.size + 1 + 1 ∨ w.heap.size + 4 ≤ b := fun b hb => by
                obtain rfl : g6 = b := by simpa [Value.ownBlock] using hb
                rcases hat6 with h | h
                · exact hv _ h
                · rw [hsz3] at h; omega
              have hK6 := hK3.snoc (lo' := ((w2b.setCell ⟨c, 2, none⟩ (.bool true))).drew.heap.size) hL.tree (by have := GD.size; omega) (fun g hg => by have h9 : ((w2b.setCell ⟨c, 2, none⟩ (.bool true))).drew.heap.size = ((w2b.setCell ⟨c, 2, none⟩ (.bool true))).heap.size := rfl; exact ⟨Or.inr (by omega), by omega, by omega⟩) (fun b hb => by have := KD.own.lt b hb; omega) hown6 hgrow6 (fun b hb => by
                obtain rfl : g6 = b := by simpa [Value.ownBlock] using hb
                rcases hat6 with h | h
                · exact Or.inl h
                · exact Or.inr (by rw [h, hsz3]; omega))
              have hK7 := krow_set hK6 (w.heap.size + 1 + 1 + 1) 5 (.slice (some ⟨g6, 0, none⟩) (ks.length + 1) cp6) (fun e => by rcases hnew6 _ e with h | h <;> omega) (fun g hg => hg.2.2)
              have hP7 := one_ps hP6 (w.heap.size + 1 + 1 + 1) 5 (by omega) (.slice (some ⟨g6, 0, none⟩) (ks.length + 1) cp6)
              have hG6 := pg_own (pg_trans GD hL.by') hgrow6 (fun b hb => by rcases hv b hb with h | h <;> omega)
              have hG7 := one_grown hG6 (w.heap.size + 1 + 1 + 1) 5 (by omega) (.slice (some ⟨g6, 0, none⟩) (ks.length + 1) cp6)
              have hN7 := (heap_setCell_same _ _ 5 _ _ (.slice (some ⟨g6, 0, none⟩) (ks.length + 1) cp6) hN6)
              have hR7 := (heap_setCell_other w6 ⟨w.heap.size + 1 + 1 + 1, 5, none⟩ (w.heap.size + 1) (.slice (some ⟨g6, 0, none⟩) (ks.length + 1) cp6) (by show w.heap.size + 1 ≠ w.heap.size + 1 + 1 + 1; omega)).trans hR6
              have hpm7 := hP7.pm
              have hpm0 := hP.pm
              have hle3 := hL.le
              have hst3 := hL.stay
              have hct3 := hL.cnt
              have hpl := hP7.le
              go_wp2_with fail
              go_roundw
              case rel => exact ⟨ks ++ [x], vs ++ [_], _, j3, bd3, hN7, hR7, hK7, hnew6, hP7, by omega, (fun hb => by have h9 := (hbad hb).1; cases h9), (fun _ => by omega), fun z hz => (List.mem_append.1 hz).elim (hS z) (fun h => by rw [List.mem_singleton] at h; subst h; exact hL.sm), by simp, by simp; omega, (fun hb => by have h9 := (hst3 rfl).1; rw [h9] at hb; cases hb), (fun hb => by have h9 := (hst3 rfl).1; rw [h9] at hb; cases hb), hG7⟩
              case measure =>
                rw [hpm7, hpm0]
                cases bd3
                · have h9 := (hst3 rfl).1; cases h9
                · simp
          · have kn : w.heap.size + 1 + 1 + 1 < w2b.heap.size := (Array.getElem?_eq_some_iff.1 hNb).1
            have EX := HE jb bdb (Or.inr hib) w2b.drew hPb.drew
            have KD : KRow w2b.drew (fun b => (P0 b ∨ w.heap.size ≤ b) ∧ b ≠ w.heap.size + 1 ∧ b ≠ w.heap.size + 1 + 1 + 1) w.heap.size lo (.slice av ks.length cv) ks vs := hKb.grown (pg_drew (pg_refl _ (some c))) (by omega) hlo
            have ND : w2b.drew.heap[w.heap.size + 1 + 1 + 1]? = some (.cells #[.int .i64 18, .string ⟨#[]⟩, .int .i64 0, .slice none 0 0, .int .i64 y, .slice av ks.length cv] 27 (0, 0)) := hNb
            have RD : w2b.drew.heap[w.heap.size + 1]? = some (.cells #[Value.int IntKind.i64 0, Value.string ⟨#[]⟩, Value.int IntKind.i64 0, Value.slice none 0 0, Value.int IntKind.i64 0, Value.slice none 0 0] 27 (0, 0)) := hRb
            have GD : w.grownBy w2b.drew (some c) := pg_drew hGb
            go_wp2_with fail
            go_region_law
              (first
                | (refine step_append_lies _ rfl _ _ _ rfl w.heap.size 27 i0 _ 6 88 Try.underlying25 hi0 hz0 hz1 hz2 rfl (by decide) _ _ _ rfl (hK3.own.alloc _) ⟨w3.heap.size, 0, none⟩ 1 1 [.int .i64 k3, .string t3, .int .i64 n3, .slice a3 m3 ca3, .int .i64 y3, .slice b3 kk3 cb3] rfl rfl (node_cells _ _ _ _ rfl) (node_one _ _ _ _ _ _ _ _ _ _) (by decide) (by unfold maxLen; omega) (by omega) (by simp; omega) _ rfl ?_; intro g6 cp6 w6 hown6 hgrow6 hat6 hlt6; have kn6 : (⟨w.heap.size + 1 + 1 + 1, 5, none⟩ : Addr).block < (w3.alloc (.cells #[.int .i64 k3, .string t3, .int .i64 n3, .slice a3 m3 ca3, .int .i64 y3, .slice b3 kk3 cb3] 27)).heap.size := (by rw [size_alloc]; show w.heap.size + 1 + 1 + 1 < _; omega); have ne6 : some (⟨w.heap.size + 1 + 1 + 1, 5, none⟩ : Addr).block ≠ (Value.slice av ks.length cv).ownBlock := (fun e => by rcases hv _ e.symm with h | h <;> simp at h <;> omega); have qn6 := (hgrow6.cell_far _ kn6 ne6).trans (((bel_alloc w3 _).cell (p := ⟨w.heap.size + 1 + 1 + 1, 5, none⟩) kn3).trans qn5); have qf6 := (hgrow6.frozen_far _ kn6 ne6).trans (((bel_alloc w3 _).frozen (p := ⟨w.heap.size + 1 + 1 + 1, 5, none⟩) kn3).trans qf5))
                | (go_simp; go_at_call 65; refine EX.mono ?_; rintro e w3 ⟨x, u, j3, bd3, rfl, hL⟩; obtain ⟨k3, t3, n3, m3, a3, ca3, y3, b3, cb3, kk3, rfl⟩ := np_cells hL.tree; have hK3 := KD.grown hL.by' (by omega) hlo; have hN3 := (hL.by'.block _ kn (fun e => by have := Option.some.inj e; omega)).trans ND; have qn5 := cell_of_row _ _ 5 _ _ _ hN3; have qf5 := frozen_of_row _ _ 5 _ _ hN3; simp only [List.getElem?_toArray, List.getElem?_cons_zero, List.getElem?_cons_succ] at qn5; have kn3 := (Array.getElem?_eq_some_iff.1 hN3).1; have qa5 : ∀ O : Obj, (w3.alloc O).cell? ⟨w.heap.size + 1 + 1 + 1, 5, none⟩ = some (.slice av ks.length cv) := (fun O => ((bel_alloc w3 O).cell (p := ⟨w.heap.size + 1 + 1 + 1, 5, none⟩) kn3).trans qn5)))
            all_goals
              have hP6 := PS.grown hL.ps hgrow6 (fun b hb => by rcases hv b hb with h | h <;> omega)
              have hsz3 := size_alloc w3 (.cells #[.int .i64 k3, .string t3, .int .i64 n3, .slice a3 m3 ca3, .int .i64 y3, .slice b3 kk3 cb3] 27)
              have hlow3 : w.heap.size + 4 ≤ w3.heap.size := by
                have q1 := GD.size
                have q2 := hL.by'.size
                have q3 := hg1.size
                omega
              have hN6 := (hgrow6.block (w.heap.size + 1 + 1 + 1) (by omega) ne6).trans ((Below.heap_alloc w3 _ _ (by omega)).trans hN3)
              have hR3 := (hL.by'.block (w.heap.size + 1) (Array.getElem?_eq_some_iff.1 RD).1 (fun e => by have := Option.some.inj e; omega)).trans RD
              have ne1 : some (w.heap.size + 1) ≠ (Value.slice av ks.length cv).ownBlock := fun e => by rcases hv _ e.symm with h | h <;> omega
              have hR6 := (hgrow6.block (w.heap.size + 1) (by omega) ne1).trans ((Below.heap_alloc w3 _ _ (by omega)).trans hR3)
              have hnew6 : ∀ b, (Value.slice (some ⟨g6, 0, none⟩) (ks.length + 1) cp6).ownBlock = some b → b = w.heap.size + 1 + 1 ∨ w.heap.size + 4 ≤ b := fun b hb => by
                obtain rfl : g6 = b := by simpa [Value.ownBlock] using hb
                rcases hat6 with h | h
                · exact hv _ h
                · rw [hsz3] at h; omega
              have hK6 := hK3.snoc (lo' := (w2b).drew.heap.size) hL.tree (by have := GD.size; omega) (fun g hg => by have h9 : (w2b).drew.heap.size = (w2b).heap.size := rfl; exact ⟨Or.inr (by omega), by omega, by omega⟩) (fun b hb => by have := KD.own.lt b hb; omega) hown6 hgrow6 (fun b hb => by
                obtain rfl : g6 = b := by simpa [Value.ownBlock] using hb
                rcases hat6 with h | h
                · exact Or.inl h
                · exact Or.inr (by rw [h, hsz3]; omega))
              have hK7 := krow_set hK6 (w.heap.size + 1 + 1 + 1) 5 (.slice (some ⟨g6, 0, none⟩) (ks.length + 1) cp6) (fun e => by rcases hnew6 _ e with h | h <;> omega) (fun g hg => hg.2.2)
              have hP7 := one_ps hP6 (w.heap.size + 1 + 1 + 1) 5 (by omega) (.slice (some ⟨g6, 0, none⟩) (ks.length + 1) cp6)
              have hG6 := pg_own (pg_trans GD hL.by') hgrow6 (fun b hb => by rcases hv b hb with h | h <;> omega)
              have hG7 := one_grown hG6 (w.heap.size + 1 + 1 + 1) 5 (by omega) (.slice (some ⟨g6, 0, none⟩) (ks.length + 1) cp6)
              have hN7 := (heap_setCell_same _ _ 5 _ _ (.slice (some ⟨g6, 0, none⟩) (ks.length + 1) cp6) hN6)
              have hR7 := (heap_setCell_other w6 ⟨w.heap.size + 1 + 1 + 1, 5, none⟩ (w.heap.size + 1) (.slice (some ⟨g6, 0, none⟩) (ks.length + 1) cp6) (by show w.heap.size + 1 ≠ w.heap.size + 1 + 1 + 1; omega)).trans hR6
              have hpm7 := hP7.pm
              have hpm0 := hP.pm
              have hle3 := hL.le
              have hst3 := hL.stay
              have hct3 := hL.cnt
              have hpl := hP7.le
              go_wp2_with fail
              go_roundw
              case rel => exact ⟨ks ++ [x], vs ++ [_], _, j3, bd3, hN7, hR7, hK7, hnew6, hP7, by omega, (fun hb => by have h9 := (hbad hb).1; cases h9), (fun _ => by omega), fun z hz => (List.mem_append.1 hz).elim (hS z) (fun h => by rw [List.mem_singleton] at h; subst h; exact hL.sm), by simp, by simp; omega, (fun _ => by simp; omega), (fun hb => by have := hct3 hb; have := hcnt (by simp); rw [wtL_snoc]; omega), hG7⟩
              case measure =>
                rw [hpm7, hpm0]
                cases bd3
                · have := hct3 rfl; simp; omega
                · simp
      · go_wp2_with fail
        refine (take_any c la cap L j false ⟨#[41]⟩ _ hP2).mono ?_
        rintro e w8 ⟨rfl, j8, bd8, h8, ht8, hg8⟩
        have hK8 := (hK2).grown hg8 (by omega) hlo
        have hN8 := (hg8.block (w.heap.size + 1 + 1 + 1) (Array.getElem?_eq_some_iff.1 hN2).1 (fun e => by have := Option.some.inj e; omega)).trans hN2
        have hR8 := (hg8.block (w.heap.size + 1) (Array.getElem?_eq_some_iff.1 hR2).1 (fun e => by have := Option.some.inj e; omega)).trans hR2
        have hgr8 := pg_trans hgr2 hg8
        obtain ⟨ax, cx, hxv, hxl, hxk⟩ := hK8.kp (by omega) hvQ
        obtain ⟨rfl, _, rfl⟩ : av = ax ∧ True ∧ cv = cx := by simpa using hxv
        have c0 := cell_of_row w8 _ 0 _ _ _ hN8
        have c1 := cell_of_row w8 _ 1 _ _ _ hN8
        have c2 := cell_of_row w8 _ 2 _ _ _ hN8
        have c3 := cell_of_row w8 _ 3 _ _ _ hN8
        have c4 := cell_of_row w8 _ 4 _ _ _ hN8
        have c5 := cell_of_row w8 _ 5 _ _ _ hN8
        have d0 := cell_of_row w8 _ 0 _ _ _ hR8
        have d1 := cell_of_row w8 _ 1 _ _ _ hR8
        have d2 := cell_of_row w8 _ 2 _ _ _ hR8
        have d3 := cell_of_row w8 _ 3 _ _ _ hR8
        have d4 := cell_of_row w8 _ 4 _ _ _ hR8
        have d5 := cell_of_row w8 _ 5 _ _ _ hR8
        have g0 := frozen_of_row w8 _ 0 _ _ hR8
        have g1 := frozen_of_row w8 _ 1 _ _ hR8
        have g2 := frozen_of_row w8 _ 2 _ _ hR8
        have g3 := frozen_of_row w8 _ 3 _ _ hR8
        have g4 := frozen_of_row w8 _ 4 _ _ hR8
        have g5 := frozen_of_row w8 _ 5 _ _ hR8
        simp only [List.getElem?_toArray, List.getElem?_cons_zero, List.getElem?_cons_succ] at c0 c1 c2 c3 c4 c5 d0 d1 d2 d3 d4 d5
        have H8 : Hid (w8.heap[w.heap.size + 1]? = some (.cells #[Value.int IntKind.i64 0, Value.string ⟨#[]⟩, Value.int IntKind.i64 0, Value.slice none 0 0, Value.int IntKind.i64 0, Value.slice none 0 0] 27 (0, 0))) := hR8
        clear hR8 hN8
        go_wp2_with fail
        refine bodyPost_ret (v := .agg #[.int .i64 18, .string ⟨#[]⟩, .int .i64 0, .slice none 0 0, .int .i64 y, .slice av ks.length cv]) (by simp [results, Try.results77, go_sem, *]) rfl ⟨.mk 18 ⟨#[]⟩ 0 [] y ks, [.int .i64 18, .string ⟨#[]⟩, .int .i64 0, .slice none 0 0, .int .i64 y, .slice av ks.length cv], j8, bd8, rfl, ?_⟩
        have hT : NP w8 (fun g => Bt lo w8.heap.size g ∧ ((P0 g ∨ w.heap.size ≤ g) ∧ g ≠ w.heap.size + 1 ∧ g ≠ w.heap.size + 1 + 1 + 1)) (.mk 18 ⟨#[]⟩ 0 [] y ks) [.int .i64 18, .string ⟨#[]⟩, .int .i64 0, .slice none 0 0, .int .i64 y, .slice av ks.length cv] := by
          simp only [NP]
          exact ⟨by decide, none, 0, av, cv, rfl, Nat.zero_le _, hxl, fun i hi => absurd hi (Nat.not_lt_zero _), hxk⟩
        have hcw8 : c < w.heap.size + 1 := by omega
        refine ⟨?_, hT.later (fun g hg => hg.2.1.imp id fun h9 => ⟨h9, by rw [six_size]; exact hg.1.2⟩) (fun p hp => six_other w8 (w.heap.size + 1) _ _ _ _ _ _ p hp.2.2.1), fun hb => by
            rcases ht8 with ⟨q0, _, _, rfl⟩ | ⟨h9, _⟩
            · have := hlt (by simp); omega
            · rw [h9] at hb; cases hb⟩
        exact { tree := hT.later (fun g hg => ⟨hg.1.1, by rw [six_size]; exact hg.1.2⟩) (fun p hp => six_other w8 (w.heap.size + 1) _ _ _ _ _ _ p hp.2.2.1), sm := by simp only [Sm]; exact ⟨by decide, fun s hs => absurd hs (by simp), (SmL_iff ks).2 hS⟩, ps := six_ps h8 (w.heap.size + 1) hcw8 _ _ _ _ _ _, le := by rcases ht8 with ⟨_, _, _, rfl⟩ | ⟨_, rfl⟩ <;> omega, stay := fun hb => by
                  obtain ⟨q1, q2⟩ := hbad hb
                  rcases ht8 with ⟨h, _⟩ | ⟨h, h'⟩ <;> simp_all, cnt := fun hb => by
                  rcases ht8 with ⟨q0, _, _, rfl⟩ | ⟨h, _⟩
                  · have := hcnt (by simp); simp [wt]; omega
                  · simp_all, by' := six_grown hgr8 (w.heap.size + 1) (by omega) _ _ _ _ _ _ }
    · go_wp2_with fail
      refine (take_any c la cap L j true ⟨#[41]⟩ _ hP).mono ?_
      rintro e w8 ⟨rfl, j8, bd8, h8, ht8, hg8⟩
      have hK8 := (hK).grown hg8 (by omega) hlo
      have hN8 := (hg8.block (w.heap.size + 1 + 1 + 1) (Array.getElem?_eq_some_iff.1 hN).1 (fun e => by have := Option.some.inj e; omega)).trans hN
      have hR8 := (hg8.block (w.heap.size + 1) (Array.getElem?_eq_some_iff.1 hR).1 (fun e => by have := Option.some.inj e; omega)).trans hR
      have hgr8 := pg_trans hgr hg8
      obtain ⟨ax, cx, hxv, hxl, hxk⟩ := hK8.kp (by omega) hvQ
      obtain ⟨rfl, _, rfl⟩ : av = ax ∧ True ∧ cv = cx := by simpa using hxv
      have c0 := cell_of_row w8 _ 0 _ _ _ hN8
      have c1 := cell_of_row w8 _ 1 _ _ _ hN8
      have c2 := cell_of_row w8 _ 2 _ _ _ hN8
      have c3 := cell_of_row w8 _ 3 _ _ _ hN8
      have c4 := cell_of_row w8 _ 4 _ _ _ hN8
      have c5 := cell_of_row w8 _ 5 _ _ _ hN8
      have d0 := cell_of_row w8 _ 0 _ _ _ hR8
      have d1 := cell_of_row w8 _ 1 _ _ _ hR8
      have d2 := cell_of_row w8 _ 2 _ _ _ hR8
      have d3 := cell_of_row w8 _ 3 _ _ _ hR8
      have d4 := cell_of_row w8 _ 4 _ _ _ hR8
      have d5 := cell_of_row w8 _ 5 _ _ _ hR8
      have g0 := frozen_of_row w8 _ 0 _ _ hR8
      have g1 := frozen_of_row w8 _ 1 _ _ hR8
      have g2 := frozen_of_row w8 _ 2 _ _ hR8
      have g3 := frozen_of_row w8 _ 3 _ _ hR8
      have g4 := frozen_of_row w8 _ 4 _ _ hR8
      have g5 := frozen_of_row w8 _ 5 _ _ hR8
      simp only [List.getElem?_toArray, List.getElem?_cons_zero, List.getElem?_cons_succ] at c0 c1 c2 c3 c4 c5 d0 d1 d2 d3 d4 d5
      have H8 : Hid (w8.heap[w.heap.size + 1]? = some (.cells #[Value.int IntKind.i64 0, Value.string ⟨#[]⟩, Value.int IntKind.i64 0, Value.slice none 0 0, Value.int IntKind.i64 0, Value.slice none 0 0] 27 (0, 0))) := hR8
      clear hR8 hN8
      go_wp2_with fail
      refine bodyPost_ret (v := .agg #[.int .i64 18, .string ⟨#[]⟩, .int .i64 0, .slice none 0 0, .int .i64 y, .slice av ks.length cv]) (by simp [results, Try.results77, go_sem, *]) rfl ⟨.mk 18 ⟨#[]⟩ 0 [] y ks, [.int .i64 18, .string ⟨#[]⟩, .int .i64 0, .slice none 0 0, .int .i64 y, .slice av ks.length cv], j8, bd8, rfl, ?_⟩
      have hT : NP w8 (fun g => Bt lo w8.heap.size g ∧ ((P0 g ∨ w.heap.size ≤ g) ∧ g ≠ w.heap.size + 1 ∧ g ≠ w.heap.size + 1 + 1 + 1)) (.mk 18 ⟨#[]⟩ 0 [] y ks) [.int .i64 18, .string ⟨#[]⟩, .int .i64 0, .slice none 0 0, .int .i64 y, .slice av ks.length cv] := by
        simp only [NP]
        exact ⟨by decide, none, 0, av, cv, rfl, Nat.zero_le _, hxl, fun i hi => absurd hi (Nat.not_lt_zero _), hxk⟩
      have hcw8 : c < w.heap.size + 1 := by omega
      refine ⟨?_, hT.later (fun g hg => hg.2.1.imp id fun h9 => ⟨h9, by rw [six_size]; exact hg.1.2⟩) (fun p hp => six_other w8 (w.heap.size + 1) _ _ _ _ _ _ p hp.2.2.1), fun hb => by
          rcases ht8 with ⟨q0, _, _, rfl⟩ | ⟨h9, _⟩
          · cases q0
          · rw [h9] at hb; cases hb⟩
      exact { tree := hT.later (fun g hg => ⟨hg.1.1, by rw [six_size]; exact hg.1.2⟩) (fun p hp => six_other w8 (w.heap.size + 1) _ _ _ _ _ _ p hp.2.2.1), sm := by simp only [Sm]; exact ⟨by decide, fun s hs => absurd hs (by simp), (SmL_iff ks).2 hS⟩, ps := six_ps h8 (w.heap.size + 1) hcw8 _ _ _ _ _ _, le := by rcases ht8 with ⟨_, _, _, rfl⟩ | ⟨_, rfl⟩ <;> omega, stay := fun hb => by
                obtain ⟨q1, q2⟩ := hbad hb
                rcases ht8 with ⟨h, _⟩ | ⟨h, h'⟩ <;> simp_all, cnt := fun hb => by
                rcases ht8 with ⟨q0, _, _, rfl⟩ | ⟨h, _⟩
                · cases q0
                · simp_all, by' := six_grown hgr8 (w.heap.size + 1) (by omega) _ _ _ _ _ _ }
end Go.Proofs.Ytlmmomffanakiaa
