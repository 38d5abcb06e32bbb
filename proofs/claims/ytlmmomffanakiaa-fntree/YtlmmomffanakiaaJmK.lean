/- A name or brackets, and what stands behind them, as the reader takes them. -/
import Derived.Test.YtlmmomffanakiaaParE
namespace Go.Proofs.Ytlmmomffanakiaa
open Go.RowKit

structure VarAt (w wr : World) (h nb c : Nat) (la : Option Addr) (cap : Nat) (L : List Tk) (i : Nat) (bad : Bool) (d : Nat) (f : Nd) (vf : List Value) (j : Nat) (bd : Bool) : Prop where
  res : wr.heap[h]? = some (.cells #[Value.int IntKind.i64 0, Value.string ⟨#[]⟩, Value.int IntKind.i64 0, Value.slice none 0 0, Value.int IntKind.i64 0, Value.slice none 0 0] 27 (0, 0))
  var : wr.heap[nb]? = some (.cells vf.toArray 27 (0, 0))
  tree : NP wr (fun g => Bt h wr.heap.size g ∧ (g ≠ h ∧ g ≠ nb)) f vf
  sm : Sm f
  ps : PS wr c la cap L j bd
  le : i ≤ j
  stay : bad = true → bd = true ∧ j = i
  cnt : bd = false → wt f + d ≤ 2 * (j - i)
  by' : w.grownBy wr (some c)
theorem VarAt.cells {w wr : World} {h nb c : Nat} {la : Option Addr} {cap : Nat} {L : List Tk} {i : Nat} {bad : Bool} {d : Nat} {f : Nd} {vf : List Value} {j : Nat} {bd : Bool} (v : VarAt w wr h nb c la cap L i bad d f vf j bd) (m : Nat) : wr.cell? ⟨nb, m, none⟩ = vf[m]? := by
  rw [cell_of_row _ _ _ _ _ _ v.var]; simp
theorem VarAt.below {w wr w' : World} {h nb c : Nat} {la : Option Addr} {cap : Nat} {L : List Tk} {i : Nat} {bad : Bool} {d : Nat} {f : Nd} {vf : List Value} {j : Nat} {bd : Bool} (v : VarAt w wr h nb c la cap L i bad d f vf j bd) (hb : Below wr.heap.size wr w') : VarAt w w' h nb c la cap L i bad d f vf j bd :=
  { res := (hb.block _ (Array.getElem?_eq_some_iff.1 v.res).1).trans v.res, var := (hb.block _ (Array.getElem?_eq_some_iff.1 v.var).1).trans v.var, tree := v.tree.later (fun _ hg => ⟨⟨hg.1.1, Nat.lt_of_lt_of_le hg.1.2 hb.size⟩, hg.2⟩) (fun _ hp => hb.cell hp.1.2), sm := v.sm, ps := v.ps.below hb, le := v.le, stay := v.stay, cnt := v.cnt, by' := pg_trans v.by' (pg_below hb) }
/-- A word more is read. -/
theorem VarAt.next {w wr : World} {h nb c : Nat} {la : Option Addr} {cap : Nat} {L : List Tk} {i : Nat} {bad : Bool} {d : Nat} {f : Nd} {vf : List Value} {j : Nat} (v : VarAt w wr h nb c la cap L i bad d f vf j false) (hj : j < L.length) (hc : c < h) (hcn : c ≠ nb) : VarAt w (wr.setCell ⟨c, 1, none⟩ (.int .i64 ((j : Int) + 1))) h nb c la cap L i bad d f vf (j + 1) false :=
  { res := (heap_setCell_other wr _ _ _ (by show h ≠ c; omega)).trans v.res, var := (heap_setCell_other wr _ _ _ (by show nb ≠ c; omega)).trans v.var, tree := v.tree.later (fun _ hg => ⟨⟨hg.1.1, by simpa using hg.1.2⟩, hg.2⟩) (fun _ hp => World.cell?_of_block (heap_setCell_other wr _ _ _ (by have := hp.1.1; simp only; omega))), sm := v.sm, ps := v.ps.next _ (j + 1) (by omega) (by omega), le := by have := v.le; omega, stay := (fun hb => by have h9 := (v.stay hb).1; cases h9), cnt := fun hb => by have := v.cnt rfl; omega, by' := pg_trans v.by' (pg_set _ _ _ _) }
theorem VarAt.step {w wr w' : World} {h nb c : Nat} {la : Option Addr} {cap : Nat} {L : List Tk} {i : Nat} {bad : Bool} {d : Nat} {f : Nd} {vf : List Value} {j j' : Nat} {bd bd' : Bool} (v : VarAt w wr h nb c la cap L i bad d f vf j bd) (hc : c < h) (hcn : c ≠ nb) (hg : wr.grownBy w' (some c)) (hp : PS w' c la cap L j' bd') (hle : j ≤ j') (hst : bd = true → bd' = true ∧ j' = j) : VarAt w w' h nb c la cap L i bad d f vf j' bd' :=
  { res := (hg.block _ (Array.getElem?_eq_some_iff.1 v.res).1 (fun e => by have := Option.some.inj e; omega)).trans v.res, var := (hg.block _ (Array.getElem?_eq_some_iff.1 v.var).1 (fun e => by have := Option.some.inj e; omega)).trans v.var, tree := v.tree.later (fun _ hg' => ⟨⟨hg'.1.1, Nat.lt_of_lt_of_le hg'.1.2 hg.size⟩, hg'.2⟩) (fun p hp' => World.cell?_of_block (hg.block p.block hp'.1.2 (fun e => by have := Option.some.inj e; have := hp'.1.1; omega))), sm := v.sm, ps := hp, le := by have := v.le; omega, stay := fun hb => by
      obtain ⟨q1, q2⟩ := v.stay hb
      obtain ⟨q3, q4⟩ := hst q1
      exact ⟨q3, by omega⟩, cnt := fun hb => by
      have hbd : bd = false := by
        cases bd
        · rfl
        · rw [(hst rfl).1] at hb; cases hb
      have := v.cnt hbd
      omega, by' := pg_trans v.by' hg }
theorem took_le {L : List Tk} {j j' : Nat} {bd bd' : Bool} (h : Took L j bd j' bd') : j ≤ j' ∧ (bd = true → bd' = true ∧ j' = j) := by
  rcases h with ⟨q1, q2, q3, q4⟩ | ⟨q1, q2⟩
  · exact ⟨by omega, fun h => by rw [q1] at h; cases h⟩
  · exact ⟨by omega, fun _ => ⟨q1, q2⟩⟩
theorem six_heap (w : World) (b : Nat) (a0 a1 a2 a3 a4 a5 : Value) (k : Nat) (h : k ≠ b) :
    ((((((w.setCell ⟨b, 0, none⟩ a0).setCell ⟨b, 1, none⟩ a1).setCell ⟨b, 2, none⟩ a2).setCell ⟨b, 3, none⟩ a3).setCell ⟨b, 4, none⟩ a4).setCell ⟨b, 5, none⟩ a5).heap[k]? = w.heap[k]? := by
  repeat rw [heap_setCell_other _ _ _ _ (by exact h)]
theorem six_var {w : World} {b : Nat} {T : TypeId} (a0 a1 a2 a3 a4 a5 : Value) {x0 x1 x2 x3 x4 x5 : Value} (h : w.heap[b]? = some (.cells #[x0, x1, x2, x3, x4, x5] T (0, 0))) :
    ((((((w.setCell ⟨b, 0, none⟩ a0).setCell ⟨b, 1, none⟩ a1).setCell ⟨b, 2, none⟩ a2).setCell ⟨b, 3, none⟩ a3).setCell ⟨b, 4, none⟩ a4).setCell ⟨b, 5, none⟩ a5).heap[b]? = some (.cells #[a0, a1, a2, a3, a4, a5] T (0, 0)) := by
  have h0 := heap_setCell_same _ _ 0 _ _ a0 h
  have h1 := heap_setCell_same _ _ 1 _ _ a1 h0
  have h2 := heap_setCell_same _ _ 2 _ _ a2 h1
  have h3 := heap_setCell_same _ _ 3 _ _ a3 h2
  have h4 := heap_setCell_same _ _ 4 _ _ a4 h3
  have h5 := heap_setCell_same _ _ 5 _ _ a5 h4
  exact h5
/-- The variable takes a node over two: what it held, and one more. -/
theorem VarAt.two {w wr w' : World} {h nb c : Nat} {la : Option Addr} {cap : Nat} {L : List Tk} {i : Nat} {bad : Bool} {f x : Nd} {x0 x1 x2 x3 x4 x5 u0 u1 u2 u3 u4 u5 : Value} {j j' : Nat} {bd bd' : Bool} {lo : Nat} (y : Int)
    (v : VarAt w wr h nb c la cap L i bad 2 f [x0, x1, x2, x3, x4, x5] j bd) (hc : c < h) (hwh : w.heap.size ≤ h) (hn : h < nb) (hnl : nb < lo) (hg : wr.grownBy w' (some c)) (hT : NP w' (Bt lo w'.heap.size) x [u0, u1, u2, u3, u4, u5]) (hs : Sm x) (hp : PS w' c la cap L j' bd') (hle : j ≤ j') (hst : bd = true → bd' = true ∧ j' = j) (hct : bd' = false → wt x + 2 ≤ 2 * (j' - j)) :
    VarAt w (((((((w'.alloc (.cells #[x0, x1, x2, x3, x4, x5, u0, u1, u2, u3, u4, u5] 27)).setCell ⟨nb, 0, none⟩ (.int .i64 17)).setCell ⟨nb, 1, none⟩ (.string ⟨#[]⟩)).setCell ⟨nb, 2, none⟩ (.int .i64 0)).setCell ⟨nb, 3, none⟩ (.slice none 0 0)).setCell ⟨nb, 4, none⟩ (.int .i64 y)).setCell ⟨nb, 5, none⟩ (.slice (some ⟨w'.heap.size, 0, none⟩) 2 2)) h nb c la cap L i bad 2 (.mk 17 ⟨#[]⟩ 0 [] y [f, x])
      [.int .i64 17, .string ⟨#[]⟩, .int .i64 0, .slice none 0 0, .int .i64 y, .slice (some ⟨w'.heap.size, 0, none⟩) 2 2] j' bd' := by
  have vs := v.step hc (by omega) hg hp hle hst
  have hb := bel_alloc w' (.cells #[x0, x1, x2, x3, x4, x5, u0, u1, u2, u3, u4, u5] 27)
  have vb := vs.below hb
  have hnb := (Array.getElem?_eq_some_iff.1 vs.var).1
  have hrow := heap_alloc_new w' (.cells #[x0, x1, x2, x3, x4, x5, u0, u1, u2, u3, u4, u5] 27)
  have hsz := size_alloc w' (.cells #[x0, x1, x2, x3, x4, x5, u0, u1, u2, u3, u4, u5] 27)
  generalize hW : w'.alloc (.cells #[x0, x1, x2, x3, x4, x5, u0, u1, u2, u3, u4, u5] 27) = W at *
  have hxT : NP W (fun g => Bt h W.heap.size g ∧ (g ≠ h ∧ g ≠ nb)) x [u0, u1, u2, u3, u4, u5] := hT.later (fun g hg => ⟨⟨by have := hg.1; omega, by have := hg.2; omega⟩, by have := hg.1; omega, by have := hg.1; omega⟩) (fun p hp => hb.cell hp.2)
  have hO : ∀ p : Addr, p.block ≠ nb → ((((((W.setCell ⟨nb, 0, none⟩ (.int .i64 17)).setCell ⟨nb, 1, none⟩ (.string ⟨#[]⟩)).setCell ⟨nb, 2, none⟩ (.int .i64 0)).setCell ⟨nb, 3, none⟩ (.slice none 0 0)).setCell ⟨nb, 4, none⟩ (.int .i64 y)).setCell ⟨nb, 5, none⟩ (.slice (some ⟨w'.heap.size, 0, none⟩) 2 2)).cell? p = W.cell? p := fun p hp => six_other W nb _ _ _ _ _ _ p hp
  have hcell : ∀ m, W.cell? ⟨w'.heap.size, m, none⟩ = [x0, x1, x2, x3, x4, x5, u0, u1, u2, u3, u4, u5][m]? := fun m => by rw [cell_of_row _ _ _ _ _ _ hrow]; simp
  refine { res := (six_heap W nb _ _ _ _ _ _ h (by omega)).trans vb.res, var := six_var _ _ _ _ _ _ vb.var, tree := ?_, sm := ?_, ps := six_ps vb.ps nb (by omega) _ _ _ _ _ _, le := vb.le, stay := vb.stay, cnt := fun hb' => ?_, by' := six_grown vb.by' nb (by omega) _ _ _ _ _ _ }
  · simp only [NP]
    refine ⟨by unfold maxLen; decide, none, 0, _, 2, rfl, Nat.zero_le _, by unfold maxLen; simp, fun k hk => absurd hk (Nat.not_lt_zero _), ?_⟩
    simp only [KP]
    have hfin : ∀ (t : Nd) (z : List Value), NP W (fun g => Bt h W.heap.size g ∧ (g ≠ h ∧ g ≠ nb)) t z → NP ((((((W.setCell ⟨nb, 0, none⟩ (.int .i64 17)).setCell ⟨nb, 1, none⟩ (.string ⟨#[]⟩)).setCell ⟨nb, 2, none⟩ (.int .i64 0)).setCell ⟨nb, 3, none⟩ (.slice none 0 0)).setCell ⟨nb, 4, none⟩ (.int .i64 y)).setCell ⟨nb, 5, none⟩ (.slice (some ⟨w'.heap.size, 0, none⟩) 2 2)) (fun g => Bt h ((((((W.setCell ⟨nb, 0, none⟩ (.int .i64 17)).setCell ⟨nb, 1, none⟩ (.string ⟨#[]⟩)).setCell ⟨nb, 2, none⟩ (.int .i64 0)).setCell ⟨nb, 3, none⟩ (.slice none 0 0)).setCell ⟨nb, 4, none⟩ (.int .i64 y)).setCell ⟨nb, 5, none⟩ (.slice (some ⟨w'.heap.size, 0, none⟩) 2 2)).heap.size g ∧ (g ≠ h ∧ g ≠ nb)) t z := fun t z ht =>
      ht.later (fun g hg => ⟨⟨hg.1.1, by rw [six_size]; exact hg.1.2⟩, hg.2⟩) (fun p hp => hO p hp.2.2)
    have hPg : Bt h ((((((W.setCell ⟨nb, 0, none⟩ (.int .i64 17)).setCell ⟨nb, 1, none⟩ (.string ⟨#[]⟩)).setCell ⟨nb, 2, none⟩ (.int .i64 0)).setCell ⟨nb, 3, none⟩ (.slice none 0 0)).setCell ⟨nb, 4, none⟩ (.int .i64 y)).setCell ⟨nb, 5, none⟩ (.slice (some ⟨w'.heap.size, 0, none⟩) 2 2)).heap.size w'.heap.size ∧ (w'.heap.size ≠ h ∧ w'.heap.size ≠ nb) := ⟨⟨by omega, by rw [six_size]; omega⟩, by omega, by omega⟩
    refine ⟨⟨w'.heap.size, 0, [x0, x1, x2, x3, x4, x5], rfl, hPg, fun m hm => ?_, hfin _ _ vb.tree⟩, ⟨w'.heap.size, 0, [u0, u1, u2, u3, u4, u5], rfl, hPg, fun m hm => ?_, hfin _ _ hxT⟩, trivial⟩
    · rw [hO _ (by show w'.heap.size ≠ nb; omega), show 0 + 6 * 0 + m = m by omega, hcell]
      match m, hm with
      | 0, _ | 1, _ | 2, _ | 3, _ | 4, _ | 5, _ => rfl
    · rw [hO _ (by show w'.heap.size ≠ nb; omega), show 0 + 6 * (0 + 1) + m = 6 + m by omega, hcell]
      match m, hm with
      | 0, _ | 1, _ | 2, _ | 3, _ | 4, _ | 5, _ => rfl
  · simp only [Sm, SmL]
    exact ⟨by decide, fun s hs => absurd hs (by simp), v.sm, hs, trivial⟩
  · have hbd : bd = false := by
      cases bd
      · rfl
      · rw [(hst rfl).1] at hb'; cases hb'
    have q1 := v.cnt hbd
    have q2 := hct hb'
    have q3 := v.le
    simp [wt, wtL]
    omega
/-- The same, the row laid last, as the walk writes it. -/
theorem VarAt.two' {w wr w' : World} {h nb c : Nat} {la : Option Addr} {cap : Nat} {L : List Tk} {i : Nat} {bad : Bool} {f x : Nd} {x0 x1 x2 x3 x4 x5 u0 u1 u2 u3 u4 u5 : Value} {j j' : Nat} {bd bd' : Bool} {lo : Nat} (y : Int)
    (v : VarAt w wr h nb c la cap L i bad 2 f [x0, x1, x2, x3, x4, x5] j bd) (hc : c < h) (hwh : w.heap.size ≤ h) (hn : h < nb) (hnl : nb < lo) (hg : wr.grownBy w' (some c)) (hT : NP w' (Bt lo w'.heap.size) x [u0, u1, u2, u3, u4, u5]) (hs : Sm x) (hp : PS w' c la cap L j' bd') (hle : j ≤ j') (hst : bd = true → bd' = true ∧ j' = j) (hct : bd' = false → wt x + 2 ≤ 2 * (j' - j)) :
    VarAt w (((((((w'.setCell ⟨nb, 0, none⟩ (.int .i64 17)).setCell ⟨nb, 1, none⟩ (.string ⟨#[]⟩)).setCell ⟨nb, 2, none⟩ (.int .i64 0)).setCell ⟨nb, 3, none⟩ (.slice none 0 0)).setCell ⟨nb, 4, none⟩ (.int .i64 y)).setCell ⟨nb, 5, none⟩ (.slice (some ⟨w'.heap.size, 0, none⟩) 2 2)).alloc (.cells #[x0, x1, x2, x3, x4, x5, u0, u1, u2, u3, u4, u5] 27)) h nb c la cap L i bad 2 (.mk 17 ⟨#[]⟩ 0 [] y [f, x])
      [.int .i64 17, .string ⟨#[]⟩, .int .i64 0, .slice none 0 0, .int .i64 y, .slice (some ⟨w'.heap.size, 0, none⟩) 2 2] j' bd' := by
  have q := VarAt.two y v hc hwh hn hnl hg hT hs hp hle hst hct
  have hnb : nb < w'.heap.size := Nat.lt_of_lt_of_le (Array.getElem?_eq_some_iff.1 v.var).1 hg.size
  rw [World.setCell_alloc_past _ _ _ _ hnb, World.setCell_alloc_past _ _ _ _ (by simpa using hnb), World.setCell_alloc_past _ _ _ _ (by simpa using hnb), World.setCell_alloc_past _ _ _ _ (by simpa using hnb), World.setCell_alloc_past _ _ _ _ (by simpa using hnb), World.setCell_alloc_past _ _ _ _ (by simpa using hnb)] at q
  exact q
/-- The variable takes what a call answers, that lies in its own blocks or in new ones. -/
theorem VarAt.put {w wr w' : World} {h nb c : Nat} {la : Option Addr} {cap : Nat} {L : List Tk} {i : Nat} {bad : Bool} {f t : Nd} {vf : List Value} {u0 u1 u2 u3 u4 u5 : Value} {x0 x1 x2 x3 x4 x5 : Value} {j j' : Nat} {bd bd' : Bool} {P : Nat → Prop}
    (hvf : vf = [x0, x1, x2, x3, x4, x5]) (v : VarAt w wr h nb c la cap L i bad 2 f vf j bd) (hc : c < h) (hwh : w.heap.size ≤ h) (hn : h < nb) (hg : wr.grownBy w' (some c)) (hT : NP w' P t [u0, u1, u2, u3, u4, u5]) (hP : ∀ g, P g → Bt h w'.heap.size g ∧ (g ≠ h ∧ g ≠ nb)) (hs : Sm t) (hp : PS w' c la cap L j' bd') (hle : j ≤ j') (hst : bd = true → bd' = true ∧ j' = j) (hct : bd' = false → wt t + 2 ≤ 2 * (j' - i)) :
    VarAt w ((((((w'.setCell ⟨nb, 0, none⟩ u0).setCell ⟨nb, 1, none⟩ u1).setCell ⟨nb, 2, none⟩ u2).setCell ⟨nb, 3, none⟩ u3).setCell ⟨nb, 4, none⟩ u4).setCell ⟨nb, 5, none⟩ u5) h nb c la cap L i bad 2 t [u0, u1, u2, u3, u4, u5] j' bd' := by
  subst hvf
  have vs := v.step hc (by omega) hg hp hle hst
  exact { res := (six_heap w' nb _ _ _ _ _ _ h (by omega)).trans vs.res, var := six_var _ _ _ _ _ _ vs.var, tree := hT.later (fun g hg => ⟨⟨(hP g hg).1.1, by rw [six_size]; exact (hP g hg).1.2⟩, (hP g hg).2⟩) (fun p hp => six_other w' nb _ _ _ _ _ _ p (hP _ hp).2.2), sm := hs, ps := six_ps vs.ps nb (by omega) _ _ _ _ _ _, le := vs.le, stay := vs.stay, cnt := hct, by' := six_grown vs.by' nb (by omega) _ _ _ _ _ _ }
theorem VarAt.left {w wr : World} {h nb c : Nat} {la : Option Addr} {cap : Nat} {L : List Tk} {i : Nat} {bad : Bool} {d : Nat} {f : Nd} {vf : List Value} {j : Nat} {bd : Bool} (v : VarAt w wr h nb c la cap L i bad d f vf j bd) (hh : w.heap.size ≤ h) (hc : c < h) (a0 a1 a2 a3 a4 a5 : Value) :
    Left w ((((((wr.setCell ⟨h, 0, none⟩ a0).setCell ⟨h, 1, none⟩ a1).setCell ⟨h, 2, none⟩ a2).setCell ⟨h, 3, none⟩ a3).setCell ⟨h, 4, none⟩ a4).setCell ⟨h, 5, none⟩ a5) w.heap.size c la cap L i bad d 0 f vf j bd :=
  { tree := v.tree.later (fun g hg => ⟨Nat.le_trans hh hg.1.1, by rw [six_size]; exact hg.1.2⟩) (fun p hp => six_other wr h _ _ _ _ _ _ p hp.2.1), sm := v.sm, ps := six_ps v.ps h hc _ _ _ _ _ _, le := v.le, stay := v.stay, cnt := fun hb => by have := v.cnt hb; omega, by' := six_grown v.by' h hh _ _ _ _ _ _ }

theorem hbf_of {bad : Bool} {P : Prop} (h : bad = true → false = true ∧ P) : bad = false := by
  cases bad
  · rfl
  · exact absurd (h rfl).1 (by decide)
end Go.Proofs.Ytlmmomffanakiaa
namespace Go.Proofs.Ytlmmomffanakiaa
open Go.RowKit

structure VK (w wr : World) (h nb K c : Nat) (la : Option Addr) (cap : Nat) (L : List Tk) (i : Nat) (bad : Bool) (x0 x1 x2 x4 : Value) (ns : List ByteArray) (an : Option Addr) (cn : Nat) (ks : List Nd) (vs : List (List Value)) (v : Value) (j : Nat) (bd : Bool) : Prop where
  hn : h < nb
  hnb : nb < wr.heap.size
  hKs : K ≤ wr.heap.size
  res : wr.heap[h]? = some (.cells #[Value.int IntKind.i64 0, Value.string ⟨#[]⟩, Value.int IntKind.i64 0, Value.slice none 0 0, Value.int IntKind.i64 0, Value.slice none 0 0] 27 (0, 0))
  var : wr.heap[nb]? = some (.cells #[x0, x1, x2, .slice an ns.length cn, x4, v] 27 (0, 0))
  kids : KRow wr (fun b => b ≠ h ∧ b ≠ nb) h h v ks vs
  row : ∀ b, v.ownBlock = some b → h < b ∧ b ≠ nb ∧ K ≤ b
  names : SP wr (fun g => Bt h K g ∧ (g ≠ h ∧ g ≠ nb)) ns an
  ps : PS wr c la cap L j bd
  le : i ≤ j
  stay : bad = true → bd = true ∧ j = i
  by' : w.grownBy wr (some c)
theorem VK.grown {w wr w' : World} {h nb K c : Nat} {la : Option Addr} {cap : Nat} {L : List Tk} {i : Nat} {bad : Bool} {x0 x1 x2 x4 : Value} {ns : List ByteArray} {an : Option Addr} {cn : Nat} {ks : List Nd} {vs : List (List Value)} {v : Value} {j j' : Nat} {bd bd' : Bool} (V : VK w wr h nb K c la cap L i bad x0 x1 x2 x4 ns an cn ks vs v j bd) (hc : c < h) (hg : wr.grownBy w' (some c)) (hp : PS w' c la cap L j' bd') (hle : j ≤ j') (hst : bd = true → bd' = true ∧ j' = j) : VK w w' h nb K c la cap L i bad x0 x1 x2 x4 ns an cn ks vs v j' bd' :=
  have hn := V.hn
  have hK := V.hnb
  have hKs := V.hKs
  { hn := hn, hnb := Nat.lt_of_lt_of_le hK hg.size, hKs := Nat.le_trans hKs hg.size, row := V.row, res := (hg.block _ (Array.getElem?_eq_some_iff.1 V.res).1 (fun e => by have := Option.some.inj e; omega)).trans V.res, var := (hg.block _ (Array.getElem?_eq_some_iff.1 V.var).1 (fun e => by have := Option.some.inj e; omega)).trans V.var, kids := V.kids.grown hg (by omega) hc, names := V.names.later (fun _ h => h) (fun p hp => World.cell?_of_block (hg.block p.block (by have := hp.1.2; omega) (fun e => by have := Option.some.inj e; have := hp.1.1; omega))), ps := hp, le := by have := V.le; omega, stay := fun hb => by
      obtain ⟨q1, q2⟩ := V.stay hb
      obtain ⟨q3, q4⟩ := hst q1
      exact ⟨q3, by omega⟩, by' := pg_trans V.by' hg }
theorem VK.drew {w wr : World} {h nb K c : Nat} {la : Option Addr} {cap : Nat} {L : List Tk} {i : Nat} {bad : Bool} {x0 x1 x2 x4 : Value} {ns : List ByteArray} {an : Option Addr} {cn : Nat} {ks : List Nd} {vs : List (List Value)} {v : Value} {j : Nat} {bd : Bool} (V : VK w wr h nb K c la cap L i bad x0 x1 x2 x4 ns an cn ks vs v j bd) (hc : c < h) : VK w wr.drew h nb K c la cap L i bad x0 x1 x2 x4 ns an cn ks vs v j bd :=
  V.grown hc (pg_drew (pg_refl _ _)) V.ps.drew (Nat.le_refl _) (fun h => ⟨h, rfl⟩)
/-- The kids take what a call answers. -/
theorem VK.app {w wr w3 w6 : World} {h nb K c : Nat} {la : Option Addr} {cap : Nat} {L : List Tk} {i : Nat} {bad : Bool} {x0 x1 x2 x4 : Value} {ns : List ByteArray} {an : Option Addr} {cn : Nat} {ks : List Nd} {vs : List (List Value)} {v : Value} {j j3 : Nat} {bd bd3 : Bool} {k : Nat} {x : Nd} {u : List Value} {g6 cp6 : Nat}
    (V : VK w wr h nb K c la cap L i bad x0 x1 x2 x4 ns an cn ks vs v j bd) (hc : c < h) (hwh : w.heap.size ≤ h) (hL : Left wr w3 wr.heap.size c la cap L j bd k 0 x u j3 bd3)
    (hown6 : w6.ownsRow h 27 6 (.slice (some ⟨g6, 0, none⟩) (ks.length + 1) cp6) (ks.length + 1) (vs.flatten ++ u)) (hgrow6 : (w3.alloc (.cells u.toArray 27)).grownBy w6 v.ownBlock) (hat6 : v.ownBlock = some g6 ∨ g6 = (w3.alloc (.cells u.toArray 27)).heap.size) :
    VK w (w6.setCell ⟨nb, 5, none⟩ (.slice (some ⟨g6, 0, none⟩) (ks.length + 1) cp6)) h nb K c la cap L i bad x0 x1 x2 x4 ns an cn (ks ++ [x]) (vs ++ [u]) (.slice (some ⟨g6, 0, none⟩) (ks.length + 1) cp6) j3 bd3 := by
  have hn := V.hn
  have hK := V.hnb
  have hKs := V.hKs
  have V3 := V.grown hc hL.by' hL.ps hL.le hL.stay
  have hsz3 := size_alloc w3 (.cells u.toArray 27)
  have hs13 := hL.by'.size
  have hs36 := hgrow6.size
  have hrow := V.row
  have hrs : ∀ b, v.ownBlock = some b → b < wr.heap.size := fun b hb => (V.kids.own.lt b hb).2
  have hP6 := PS.grown hL.ps hgrow6 (fun b hb => by have := (hrow b hb).1; omega)
  have key : ∀ b, b < wr.heap.size → some b ≠ v.ownBlock → w6.heap[b]? = w3.heap[b]? := fun b hb hne => (hgrow6.block b (by omega) hne).trans (Below.heap_alloc w3 _ _ (by omega))
  have hvar6 := (key nb hK (fun e => (hrow nb e.symm).2.1 rfl)).trans V3.var
  have hres6 := (key h (by omega) (fun e => by have := (hrow h e.symm).1; omega)).trans V3.res
  have hnew6 : ∀ b, (Value.slice (some ⟨g6, 0, none⟩) (ks.length + 1) cp6).ownBlock = some b → h < b ∧ b ≠ nb ∧ K ≤ b := fun b hb => by
    obtain rfl : g6 = b := by simpa [Value.ownBlock] using hb
    rcases hat6 with h9 | h9
    · exact hrow _ h9
    · exact ⟨by omega, by omega, by omega⟩
  have hK6 := V3.kids.snoc (lo' := wr.heap.size) hL.tree (by omega) (fun g hg => ⟨by omega, by omega⟩) hrs hown6 hgrow6 (fun b hb => by
    obtain rfl : g6 = b := by simpa [Value.ownBlock] using hb
    rcases hat6 with h9 | h9
    · exact Or.inl h9
    · exact Or.inr (by omega))
  have hK7 := krow_set hK6 nb 5 (.slice (some ⟨g6, 0, none⟩) (ks.length + 1) cp6) (fun e => (hnew6 _ e).2.1 rfl) (fun g hg => hg.2)
  have hP7 := one_ps hP6 nb 5 (by omega) (.slice (some ⟨g6, 0, none⟩) (ks.length + 1) cp6)
  have hG6 := pg_own (pg_trans V.by' hL.by') hgrow6 (fun b hb => by have := (hrow b hb).1; omega)
  have hG7 := one_grown hG6 nb 5 (by omega) (.slice (some ⟨g6, 0, none⟩) (ks.length + 1) cp6)
  have hstay : bad = true → bd3 = true ∧ j3 = i := fun hb => by
    obtain ⟨q1, q2⟩ := V.stay hb
    obtain ⟨q3, q4⟩ := hL.stay q1
    exact ⟨q3, by omega⟩
  exact { hn := hn, hnb := (by simp only [World.size_setCell]; omega), hKs := (by simp only [World.size_setCell]; omega), res := (heap_setCell_other w6 ⟨nb, 5, none⟩ h _ (by show h ≠ nb; omega)).trans hres6, var := heap_setCell_same _ _ 5 _ _ _ hvar6, kids := hK7, row := hnew6, names := V3.names.later (fun _ h => h) (fun p hp => (World.cell?_of_block (heap_setCell_other w6 ⟨nb, 5, none⟩ p.block _ (by exact hp.2.2))).trans (World.cell?_of_block (key p.block (by have := hp.1.2; omega) (fun e => by have := (hrow _ e.symm).2.2; have := hp.1.2; omega)))), ps := hP7, le := Nat.le_trans V.le hL.le, stay := hstay, by' := hG7 }
/-- What the function answers out of its variable. -/
theorem VK.left {w wr : World} {h nb K c : Nat} {la : Option Addr} {cap : Nat} {L : List Tk} {i : Nat} {bad : Bool} {k0 n0 z0 : Int} {t0 : ByteArray} {ns : List ByteArray} {an : Option Addr} {cn : Nat} {ks : List Nd} {vs : List (List Value)} {av : Option Addr} {cv : Nat} {j : Nat} {bd : Bool} {k : Nat} (V : VK w wr h nb K c la cap L i bad (.int .i64 k0) (.string t0) (.int .i64 n0) (.int .i64 z0) ns an cn ks vs (.slice av ks.length cv) j bd) (hc : c < h) (hwh : w.heap.size ≤ h) (ht : t0.size ≤ 4000 ∧ -9223372036854775808 ≤ n0 ∧ n0 ≤ 9223372036854775807) (hns : ∀ s ∈ ns, s.size ≤ 4000) (hnl : ns.length ≤ 1000) (hS : ∀ x ∈ ks, Sm x) (hcnt : bd = false → ns.length + wtL ks + k ≤ 2 * (j - i)) (a0 a1 a2 a3 a4 a5 : Value) :
    Left w ((((((wr.setCell ⟨h, 0, none⟩ a0).setCell ⟨h, 1, none⟩ a1).setCell ⟨h, 2, none⟩ a2).setCell ⟨h, 3, none⟩ a3).setCell ⟨h, 4, none⟩ a4).setCell ⟨h, 5, none⟩ a5) w.heap.size c la cap L i bad k 0 (.mk k0 t0 n0 ns z0 ks) [.int .i64 k0, .string t0, .int .i64 n0, .slice an ns.length cn, .int .i64 z0, .slice av ks.length cv] j bd := by
  have hn := V.hn
  have hKs := V.hKs
  obtain ⟨ax, cx, hxv, hxl, hxk⟩ := V.kids.kp (Nat.le_refl _) (fun b hb => by have := V.row b hb; exact ⟨by omega, this.2.1⟩)
  obtain ⟨rfl, _, rfl⟩ : av = ax ∧ True ∧ cv = cx := by simpa using hxv
  have hT : NP wr (fun g => Bt h wr.heap.size g ∧ (g ≠ h ∧ g ≠ nb)) (.mk k0 t0 n0 ns z0 ks) [.int .i64 k0, .string t0, .int .i64 n0, .slice an ns.length cn, .int .i64 z0, .slice av ks.length cv] := by
    simp only [NP]
    exact ⟨by unfold maxLen; omega, an, cn, av, cv, rfl, by unfold maxLen; omega, hxl, V.names.later (fun g hg => ⟨⟨hg.1.1, by have := hg.1.2; omega⟩, hg.2⟩) (fun _ _ => rfl), hxk⟩
  exact { tree := hT.later (fun g hg => ⟨Nat.le_trans hwh hg.1.1, by rw [six_size]; exact hg.1.2⟩) (fun p hp => six_other wr h _ _ _ _ _ _ p hp.2.1), sm := by simp only [Sm]; exact ⟨ht, hns, (SmL_iff ks).2 hS⟩, ps := six_ps V.ps h hc _ _ _ _ _ _, le := V.le, stay := V.stay, cnt := fun hb => by have := hcnt hb; simp only [wt]; omega, by' := six_grown V.by' h hwh _ _ _ _ _ _ }
end Go.Proofs.Ytlmmomffanakiaa
namespace Go.Proofs.Ytlmmomffanakiaa
open Go.RowKit

def BlockOk (c : Nat) (la : Option Addr) (cap : Nat) (L : List Tk) (i : Nat) (bad : Bool) : Prop :=
  ∀ w : World, PS w c la cap L i bad → Reads 44 #[.pointer (some ⟨c, 0, none⟩)] w w.heap.size c la cap L i bad 0 0

set_option maxRecDepth 100000 in
set_option maxHeartbeats 3200000 in
theorem func_any (c : Nat) (la : Option Addr) (cap : Nat) (L : List Tk) (i : Nat) (bad : Bool) (z : Int) (w : World) (h : PS w c la cap L i bad)
    (HB : ∀ j bd, (bd = true ∨ (bad = false ∧ i < j)) → BlockOk c la cap L j bd) :
    Reads 74 #[.pointer (some ⟨c, 0, none⟩), .int .i64 z] w w.heap.size c la cap L i bad 4 0 := by
  obtain ⟨i0, hi0, hz0, hz1, hz2⟩ := info_parts info_nd
  have hch := h.lt
  unfold Reads
  go_enter Try.func74, Try.ntmps74
  go_wp2_with fail
  have hz := bel_alloc w (.cells #[Value.int IntKind.i64 0, Value.string ⟨#[]⟩, Value.int IntKind.i64 0, Value.slice none 0 0, Value.int IntKind.i64 0, Value.slice none 0 0] 27)
  have hsz0 := size_alloc w (.cells #[Value.int IntKind.i64 0, Value.string ⟨#[]⟩, Value.int IntKind.i64 0, Value.slice none 0 0, Value.int IntKind.i64 0, Value.slice none 0 0] 27)
  refine (names_any c la cap L i bad _ (h.below hz)).mono ?_
  rintro e w1 ⟨⟨ns, v, j1, bd1, rfl, hown1, hns, hn9, h1, hle1, hst1, hct1⟩, hg1⟩
  have hR1 := (hg1.block w.heap.size (by rw [size_alloc]; omega) (fun e => by have := Option.some.inj e; omega)).trans (heap_alloc_new w _)
  have hg1' := pg_trans (pg_below (row := some c) hz) hg1
  have hs1 := hg1.size
  obtain ⟨an, cn, rfl, hsat⟩ := own_sat hown1 hns
  go_wp2_with fail
  have hb2 := bel_alloc w1 (.cells #[Value.int IntKind.i64 16, Value.string ⟨#[]⟩, Value.int IntKind.i64 0, Value.slice an ns.length cn, Value.int IntKind.i64 z, Value.slice none 0 0] 27)
  have V0 : VK w (w1.alloc (.cells #[Value.int IntKind.i64 16, Value.string ⟨#[]⟩, Value.int IntKind.i64 0, Value.slice an ns.length cn, Value.int IntKind.i64 z, Value.slice none 0 0] 27)) w.heap.size w1.heap.size w1.heap.size c la cap L i bad (.int .i64 16) (.string ⟨#[]⟩) (.int .i64 0) (.int .i64 z) ns an cn [] [] (.slice none 0 0) j1 bd1 :=
    { hn := by omega, hnb := by rw [size_alloc]; omega, hKs := by rw [size_alloc]; omega, row := fun b hb => by simp [Value.ownBlock] at hb, res := (hb2.block _ (by omega)).trans hR1, var := heap_alloc_new w1 _, kids := KRow.none _ _ _ _, names := fun k hk => by
        obtain ⟨q0, g, o, q1, q2, q3, q4⟩ := hsat k hk
        exact ⟨q0, g, o, q1, ⟨⟨by omega, by omega⟩, by omega, by omega⟩, (hb2.cell (p := ⟨g, o + k, none⟩) q3).trans q4⟩, ps := h1.below hb2, le := hle1, stay := hst1, by' := pg_trans hg1' (pg_below hb2) }
  clear hown1 hsat hR1 hg1 hg1' hz hb2
  have VD := V0.drew hch
  have EX := HB j1 bd1 (by
      cases bd1
      · have := hct1 rfl; exact Or.inr ⟨hbf_of hst1, by omega⟩
      · exact Or.inl rfl) _ VD.ps
  have n5 := cell_of_row _ _ 5 _ _ _ VD.var
  have nf5 := frozen_of_row _ _ 5 _ _ VD.var
  simp only [List.getElem?_toArray, List.getElem?_cons_zero, List.getElem?_cons_succ] at n5
  go_region_law
    (first
      | (refine step_append_lies _ rfl _ _ _ rfl _ 27 i0 _ 6 88 Try.underlying25 hi0 hz0 hz1 hz2 rfl (by decide) _ _ _ rfl (V3.kids.own.alloc _) ⟨w3.heap.size, 0, none⟩ 1 1 [.int .i64 k3, .string t3, .int .i64 n3, .slice a3 m3 ca3, .int .i64 y3, .slice b3 kk3 cb3] rfl rfl (node_cells _ _ _ _ rfl) (node_one _ _ _ _ _ _ _ _ _ _) (by decide) (by first | (unfold maxLen; omega) | (simp [maxLen]; done)) (by first | omega | (simp; done)) (by have := V3.hnb; have := V3.hn; simp; omega) _ rfl ?_; intro g6 cp6 w6 hown6 hgrow6 hat6 hlt6; have qn6 := (hgrow6.cell_far ⟨w1.heap.size, 5, none⟩ (by rw [size_alloc]; exact Nat.lt_succ_of_lt kn3) (fun e => (V3.row _ e.symm).2.1 rfl)).trans (((bel_alloc w3 _).cell (p := ⟨w1.heap.size, 5, none⟩) kn3).trans q5); have qf6 := (hgrow6.frozen_far ⟨w1.heap.size, 5, none⟩ (by rw [size_alloc]; exact Nat.lt_succ_of_lt kn3) (fun e => (V3.row _ e.symm).2.1 rfl)).trans (((bel_alloc w3 _).frozen (p := ⟨w1.heap.size, 5, none⟩) kn3).trans qf5))
      | (go_simp; go_at_call 44; refine EX.mono ?_; rintro e w3 ⟨x, u, j3, bd3, rfl, hL⟩; obtain ⟨k3, t3, n3, m3, a3, ca3, y3, b3, cb3, kk3, rfl⟩ := np_cells hL.tree; have V3 := VD.grown hch hL.by' hL.ps hL.le hL.stay; have q5 := cell_of_row _ _ 5 _ _ _ V3.var; have qf5 := frozen_of_row _ _ 5 _ _ V3.var; simp only [List.getElem?_toArray, List.getElem?_cons_zero, List.getElem?_cons_succ] at q5; have kn3 := (Array.getElem?_eq_some_iff.1 V3.var).1; have qa5 : ∀ O : Obj, (w3.alloc O).cell? ⟨w1.heap.size, 5, none⟩ = w3.cell? ⟨w1.heap.size, 5, none⟩ := (fun O => (bel_alloc w3 O).cell (p := ⟨w1.heap.size, 5, none⟩) kn3)))
  all_goals
    have V4 := VK.app VD hch (Nat.le_refl _) hL hown6 hgrow6 hat6
    have hle3 := hL.le
    have hct3 := hL.cnt
    have hst3 := hL.stay
    have hsx := hL.sm
    clear EX hL q5 qf5 qa5
    go_wp2_with fail
    refine (take_any c la cap L j3 bd3 ⟨#[101, 110, 100]⟩ _ V4.ps).mono ?_
    rintro e w8 ⟨rfl, j8, bd8, h8, ht8, hg8⟩
    have V8 := V4.grown hch hg8 h8 (took_le ht8).1 (took_le ht8).2
    have c0 := cell_of_row _ _ 0 _ _ _ V8.var
    have d0 := cell_of_row _ _ 0 _ _ _ V8.res
    have g0 := frozen_of_row _ _ 0 _ _ V8.res
    have c1 := cell_of_row _ _ 1 _ _ _ V8.var
    have d1 := cell_of_row _ _ 1 _ _ _ V8.res
    have g1 := frozen_of_row _ _ 1 _ _ V8.res
    have c2 := cell_of_row _ _ 2 _ _ _ V8.var
    have d2 := cell_of_row _ _ 2 _ _ _ V8.res
    have g2 := frozen_of_row _ _ 2 _ _ V8.res
    have c3 := cell_of_row _ _ 3 _ _ _ V8.var
    have d3 := cell_of_row _ _ 3 _ _ _ V8.res
    have g3 := frozen_of_row _ _ 3 _ _ V8.res
    have c4 := cell_of_row _ _ 4 _ _ _ V8.var
    have d4 := cell_of_row _ _ 4 _ _ _ V8.res
    have g4 := frozen_of_row _ _ 4 _ _ V8.res
    have c5 := cell_of_row _ _ 5 _ _ _ V8.var
    have d5 := cell_of_row _ _ 5 _ _ _ V8.res
    have g5 := frozen_of_row _ _ 5 _ _ V8.res
    simp only [List.getElem?_toArray, List.getElem?_cons_zero, List.getElem?_cons_succ] at c0 c1 c2 c3 c4 c5 d0 d1 d2 d3 d4 d5
    go_wp2_with fail
    refine bodyPost_ret (v := .agg #[.int .i64 16, .string ⟨#[]⟩, .int .i64 0, .slice an ns.length cn, .int .i64 z, .slice (some ⟨g6, 0, none⟩) 1 cp6]) (by simp [results, Try.results74, go_sem, *]) rfl ⟨_, _, _, _, rfl, VK.left V8 hch (Nat.le_refl _) (by decide) hns (by omega) (fun y hy => by rw [List.nil_append, List.mem_singleton] at hy; subst hy; exact hsx) (fun hb => ?_) _ _ _ _ _ _⟩
    rcases ht8 with ⟨q1, q2, q3, q4⟩ | ⟨q1, q2⟩
    · have e1 := hct3 q1
      have e2 : bd1 = false := by
        cases bd1
        · rfl
        · rw [(hst3 rfl).1] at q1; cases q1
      have e3 := hct1 e2
      simp [wtL]
      omega
    · rw [q1] at hb; cases hb
end Go.Proofs.Ytlmmomffanakiaa
