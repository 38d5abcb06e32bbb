/- A region whose N-th operation waits for all others: what the loads read need hold only till then. -/
import Derived.Test.YtbdpfmkpjeleaaaProg
import Derived.Deep.RegionHeldLaw
namespace Go.Proofs.Ytbdpfmkpjeleaaa

section
variable {P : Program} {ops : Array Oper} {Q : Exit → Act → World → Prop} {S : World → Prop} {N : Nat}
/-- Whatever comes up next may: S holds behind each operation but the N-th. -/
def AnyN (P : Program) (ops : Array Oper) (Q : Exit → Act → World → Prop) (S : World → Prop) (N : Nat) : Nat → Array Bool → Act → World → Prop
  | 0, L, a, w => Region.ready .any ops L = [] ∧ Q .normal a w
  | n + 1, L, a, w => (Region.ready .any ops L = [] → Q .normal a w) ∧
      ∀ i ∈ Region.ready .any ops L, wpOp P ops Q i (fun a' w' => (i ≠ N → S w') ∧ AnyN P ops Q S N n (L.setIfInBounds i true) a' w') a w
theorem AnyN.any : ∀ (n : Nat) (L : Array Bool) (a : Act) (w : World), AnyN P ops Q S N n L a w → wpAny P .any ops Q n L a w
  | 0, _, _, _, h => h
  | n + 1, _, _, _, h => ⟨h.1, fun i hi => wpOp_mono (fun a' w' q => AnyN.any n _ a' w' q.2) (h.2 i hi)⟩
/-- The N-th waits for the i-th. -/
def waitsN (ops : Array Oper) (N i : Nat) : Bool := match ops[N]? with
  | some o => o.after.any fun e => Region.binds .any e && e.on == i
  | none => false
theorem waits_not {i : Nat} {L : Array Bool} (hw : waitsN ops N i = true) (hi : i ∈ Region.ready .any ops L) : N ∉ Region.ready .any ops L := fun hN => by
  obtain ⟨_, o, ho, hall⟩ := mem_ready.1 hN
  have h0 := (mem_ready.1 hi).1
  unfold waitsN at hw
  rw [ho] at hw
  obtain ⟨e, he, hb⟩ := Array.any_eq_true'.1 hw
  simp only [Bool.and_eq_true, beq_iff_eq] at hb
  have h1 := hall e he hb.1
  rw [hb.2] at h1
  rcases Nat.lt_or_ge i L.size with h' | h'
  · simp [h'] at h0 h1; rw [h0] at h1; cases h1
  · simp [Array.getElem?_eq_none h'] at h1
theorem AnyN.first {i : Nat} {oi : Oper} {v : Value} (hi : ops[i]? = some oi) (hs : Region.noSelect ops = true) (hw : waitsN ops N i = true) (hiN : i ≠ N)
    (hQ : ∀ c a w, Q (.panic c) (a.put oi.dst v) w → Q (.panic c) a w) :
    ∀ (n : Nat) (L : Array Bool) (a : Act) (w : World),
      (∀ j oj, ops[j]? = some oj → j ≠ i → L.getD j true = false → (∀ e ∈ oj.after, Region.binds .any e = true → e.on ≠ i) → oi.apart ops oj = true) →
      i ∈ Region.ready .any ops L → YieldsIf P ops S oi v a → S w →
      AnyN P ops Q S N n (L.setIfInBounds i true) (a.put oi.dst v) w → AnyN P ops Q S N (n + 1) L a w
  | 0, L, a, w, _, hr, hy, hS, H => by
    refine ⟨fun h => (by rw [h] at hr; cases hr), fun j hj => ?_⟩
    rcases Nat.decEq j i with hne | rfl
    · have q := ready_mono hj hne
      rw [H.1] at q
      cases q
    · exact hy.wpOp hi hS ⟨fun _ => hS, H⟩
  | n + 1, L, a, w, hf, hr, hy, hS, H => by
    refine ⟨fun h => (by rw [h] at hr; cases hr), fun j hj => ?_⟩
    rcases Nat.decEq j i with hne | rfl
    · have hjN : j ≠ N := fun e => waits_not hw hr (e ▸ hj)
      have hx := H.2 j (ready_mono hj hne)
      obtain ⟨hun, oj, hoj, hall⟩ := mem_ready.1 hj
      have hno : ∀ e ∈ oj.after, Region.binds .any e = true → e.on ≠ i := fun e he hb q => by
        have h1 := hall e he hb
        have h0 := (mem_ready.1 hr).1
        rw [q] at h1
        rcases Nat.lt_or_ge i L.size with h' | h'
        · simp [h'] at h0 h1; rw [h0] at h1; cases h1
        · simp [Array.getElem?_eq_none h'] at h1
      have hz := wpOp_putIf hoj (hf j oj hoj hne hun hno) (fun cs b => Region.noSelect_spec hs i oi cs b hi) (fun cs b => Region.noSelect_spec hs j oj cs b hoj) hQ hy hx
      refine wpOp_mono (fun a' w' q => ⟨q.2.1, ?_⟩) hz
      have hSw := q.2.1 hjN
      refine AnyN.first hi hs hw hiN hQ n (L.setIfInBounds j true) a' w' (fun k ok hk hki hu hn => ?_) (ready_mono hr (Ne.symm hne)) q.1 hSw ?_
      · refine hf k ok hk hki ?_ hn
        rcases Nat.decEq j k with hjk | rfl
        · rwa [getD_set_ne true hjk] at hu
        · exact hun
      · have q2 := q.2.2
        rwa [Array.setIfInBounds_comm _ _ (Ne.symm hne)] at q2
    · exact hy.wpOp hi hS ⟨fun _ => hS, H⟩
/-- Take number i first. -/
theorem AnyN.take {i : Nat} {oi : Oper} {v : Value} {n : Nat} {L : Array Bool} {a : Act} {w : World} (hi : ops[i]? = some oi) (hs : Region.noSelect ops = true)
    (hw : waitsN ops N i = true) (hiN : Nat.beq i N = false) (hf : Region.free .any ops L i = true) (hr : (Region.ready .any ops L).contains i = true)
    (hQ : ∀ c a w, Q (.panic c) (a.put oi.dst v) w → Q (.panic c) a w) (hwant : Region.wanted oi (yielded ops a.tmps) = true) (hy : ∀ w, S w → (execOp a.eval oi).run P w = .ok (.value v) w) (hS : S w)
    (h : AnyN P ops Q S N n (L.setIfInBounds i true) (a.put oi.dst v) w) : AnyN P ops Q S N (n + 1) L a w :=
  AnyN.first hi hs hw (Nat.ne_of_beq_eq_false hiN) hQ n L a w (Region.free_spec hi hf) (by simpa using hr) (.inl ⟨hwant, hy⟩) hS h
/-- One alone may come up. -/
theorem AnyN.one {i : Nat} {o : Oper} {n : Nat} {L : Array Bool} {a : Act} {w : World} (hr : Region.ready .any ops L = [i]) (ho : ops[i]? = some o)
    (hwant : Region.wanted o (yielded ops a.tmps) = true)
    (h : ∀ K : Act → World → Prop, Shut (∀ a w, (i ≠ N → S w) → AnyN P ops Q S N n (L.setIfInBounds i true) a w → K a w) → Oper.wp P o a w K Q) : AnyN P ops Q S N (n + 1) L a w := by
  refine ⟨fun q => (by rw [hr] at q; cases q), fun j hj => ?_⟩
  rw [hr] at hj
  obtain rfl := List.mem_singleton.1 hj
  refine wpOp_step ho (fun K hK => ?_)
  rw [if_pos hwant]
  exact h K (fun a w h1 h2 => hK a w ⟨h1, h2⟩)
theorem AnyN.done {L : Array Bool} {a : Act} {w : World} (hr : Region.ready .any ops L = []) (h : Q .normal a w) : ∀ n, AnyN P ops Q S N n L a w
  | 0 => ⟨hr, h⟩
  | _ + 1 => ⟨fun _ => h, by rw [hr]; simp⟩
theorem wp_region_N {id : Nat} {a : Act} {w : World} (S : World → Prop) (N : Nat) (hm : P.follows .mixedOrders = true) (hS : S w.drew)
    (h : S w.drew → AnyN P ops Q S N ops.size (Array.replicate ops.size false) a w.drew) : (Code.region id ops true).wp P Q a w :=
  wp_region_any hm (AnyN.any _ _ _ _ (h hS))
end
end Go.Proofs.Ytbdpfmkpjeleaaa
