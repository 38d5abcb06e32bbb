/- A row that grows by things that hold rows of their own; whole rows of flat things appended. -/
import Derived.Test.YtgibejgemokljaaAppA
import Derived.Test.YtgibejgemokljaaOwC
namespace Go.Proofs.Ytgibejgemokljaa
open Go.RowKit

theorem flatten_len {k : Nat} : ∀ (ls : List (List Value)), (∀ l ∈ ls, l.length = k) → ls.flatten.length = k * ls.length
  | [], _ => by simp
  | l :: ls, h => by
    rw [List.flatten_cons, List.length_append, flatten_len ls (fun l hl => h l (List.mem_cons_of_mem _ hl)), h l (List.mem_cons_self ..), List.length_cons, Nat.mul_succ]; omega
theorem flatten_get {k : Nat} : ∀ (ls : List (List Value)), (∀ l ∈ ls, l.length = k) → ∀ (i : Nat) (l : List Value), ls[i]? = some l → ∀ j, j < k → ls.flatten[k * i + j]? = l[j]?
  | [], _, i, l, h, _, _ => by simp at h
  | x :: ls, hk, 0, l, h, j, hj => by
    rw [List.getElem?_cons_zero] at h
    cases h
    rw [List.flatten_cons, List.getElem?_append_left (by rw [hk x (List.mem_cons_self ..)]; omega)]; simp
  | x :: ls, hk, i + 1, l, h, j, hj => by
    rw [List.getElem?_cons_succ] at h
    have e : k * (i + 1) + j = k + (k * i + j) := by rw [Nat.mul_succ]; omega
    rw [List.flatten_cons, List.getElem?_append_right (by rw [hk x (List.mem_cons_self ..), e]; omega), hk x (List.mem_cons_self ..), e, Nat.add_sub_cancel_left]
    exact flatten_get ls (fun l hl => hk l (List.mem_cons_of_mem _ hl)) i l h j hj
/-- A row of one's own that grows; its things hold other blocks. -/
def GrowD {α : Type} (k : Nat) (D : World → (Nat → Prop) → α → List Value → Prop) (w : World) (B : Nat) (T : TypeId) (xs : List α) (n : Nat) (a : Option Addr) (c : Nat) : Prop :=
  xs.length = n ∧ ∃ ls : List (List Value), ls.length = n ∧ (∀ l ∈ ls, l.length = k) ∧ w.ownsRow B T k (.slice a n c) n ls.flatten ∧ ∃ U : Nat → Nat → Prop, Parts U (fun b => In B w.heap.size b ∧ (Value.slice a n c).ownBlock ≠ some b) ∧ ∀ i (h : i < xs.length), ∃ l, ls[i]? = some l ∧ D w (U i) xs[i] l
theorem GrowD.own {α : Type} {k : Nat} {D : World → (Nat → Prop) → α → List Value → Prop} {w : World} {B : Nat} {T : TypeId} {xs : List α} {n : Nat} {a : Option Addr} {c : Nat} (h : GrowD k D w B T xs n a c) : ∃ l, w.ownsRow B T k (.slice a n c) n l := by
  obtain ⟨_, ls, _, _, h, _⟩ := h; exact ⟨_, h⟩
theorem GrowD.nil {α : Type} {k : Nat} {D : World → (Nat → Prop) → α → List Value → Prop} {w : World} {B : Nat} {T : TypeId} {a : Option Addr} {c : Nat} (h : w.ownsRow B T k (.slice a 0 c) 0 []) : GrowD (α := α) k D w B T [] 0 a c :=
  ⟨rfl, [], rfl, (fun _ hl => absurd hl List.not_mem_nil), h, fun _ _ => False, Parts.none _, fun _ hi => absurd hi (Nat.not_lt_zero _)⟩
theorem GrowD.below {α : Type} {k : Nat} {D : World → (Nat → Prop) → α → List Value → Prop} (hK : KeepsD D) {w w' : World} {B : Nat} {T : TypeId} {xs : List α} {n : Nat} {a : Option Addr} {c : Nat} (hb : Below w.heap.size w w') (h : GrowD k D w B T xs n a c) : GrowD k D w' B T xs n a c := by
  obtain ⟨h1, ls, h2, h3, h4, U, h5, h6⟩ := h
  refine ⟨h1, ls, h2, h3, own_below h4 hb, U, h5.wide (fun b hb' => ⟨⟨hb'.1.1, Nat.lt_of_lt_of_le hb'.1.2 hb.size⟩, hb'.2⟩), fun i hi => ?_⟩
  obtain ⟨l, h7, h8⟩ := h6 i hi
  exact ⟨l, h7, hK.below (fun b hb' => (h5.within i b hb').1.2) hb h8⟩
theorem own_lt {w : World} {B : Nat} {T : TypeId} {k : Nat} {v : Value} {n : Nat} {xs : List Value} (h : w.ownsRow B T k v n xs) {g : Nat} (hg : v.ownBlock = some g) : B ≤ g ∧ g < w.heap.size := by
  rcases h.2 with ⟨rfl, h0⟩ | ⟨g', cap, cur, rfl, hB, hr, _⟩
  · cases hg
  · cases hg; exact ⟨hB, (Array.getElem?_eq_some_iff.1 hr).1⟩
/-- What it is made of, and what it is with one thing more. -/
theorem GrowD.split {α : Type} {k : Nat} {D : World → (Nat → Prop) → α → List Value → Prop} (hK : KeepsD D) {w0 : World} {B : Nat} {T : TypeId} {xs : List α} {n : Nat} {a : Option Addr} {c : Nat} (h : GrowD k D w0 B T xs n a c) (hB : B ≤ w0.heap.size) :
    ∃ L, w0.ownsRow B T k (.slice a n c) n L ∧ ∀ (w w' : World) (a' : Option Addr) (c' : Nat) (x : α) (l : List Value), Below w0.heap.size w0 w → D w (In w0.heap.size w.heap.size) x l → l.length = k → w'.ownsRow B T k (.slice a' (n + 1) c') (n + 1) (L ++ l) → w.grownBy w' (Value.slice a n c).ownBlock → ((Value.slice a' (n + 1) c').ownBlock = (Value.slice a n c).ownBlock ∨ (Value.slice a' (n + 1) c').ownBlock = some w.heap.size) → GrowD k D w' B T (xs ++ [x]) (n + 1) a' c' := by
  obtain ⟨h1, ls, h2, h3, h4, U, h5, h6⟩ := h
  refine ⟨ls.flatten, h4, fun w w' a' c' x l hb hx hl own hg hat => ?_⟩
  have hz := hg.size
  have hbs := hb.size
  have hob : ∀ g, (Value.slice a n c).ownBlock = some g → B ≤ g ∧ g < w0.heap.size := fun g hg => own_lt h4 hg
  have old : ∀ i b, U i b → w'.heap[b]? = w0.heap[b]? := fun i b hb' => (hg.block b (by have := (h5.within i b hb').1.2; omega) (fun e => (h5.within i b hb').2 e.symm)).trans (hb.block b (h5.within i b hb').1.2)
  refine ⟨by simp [h1], ls ++ [l], by simp [h2], ?_, by rw [List.flatten_append]; simpa using own, fun m b => (m < n ∧ U m b) ∨ (m = n ∧ In w0.heap.size w.heap.size b), ⟨?_, ?_⟩, ?_⟩
  · intro l' hl'
    rcases List.mem_append.1 hl' with hl' | hl'
    · exact h3 l' hl'
    · rw [List.mem_singleton.1 hl']; exact hl
  · intro m b hb'
    rcases hb' with ⟨_, hb'⟩ | ⟨_, hb'⟩
    · have h7 := h5.within m b hb'
      refine ⟨⟨h7.1.1, by have := h7.1.2; omega⟩, fun e => ?_⟩
      rcases hat with hat | hat
      · exact h7.2 (hat ▸ e)
      · rw [hat] at e; have := Option.some.inj e; have := h7.1.2; omega
    · refine ⟨⟨by have := hb'.1; omega, by have := hb'.2; omega⟩, fun e => ?_⟩
      rcases hat with hat | hat
      · have := (hob b (hat ▸ e)).2; have := hb'.1; omega
      · rw [hat] at e; have := Option.some.inj e; have := hb'.2; omega
  · intro m m' b h7 h8
    rcases h7 with ⟨a1, b1⟩ | ⟨a1, b1⟩ <;> rcases h8 with ⟨a2, b2⟩ | ⟨a2, b2⟩
    · exact h5.apart m m' b b1 b2
    · have := (h5.within m b b1).1.2; have := b2.1; omega
    · have := (h5.within m' b b2).1.2; have := b1.1; omega
    · omega
  · intro i hi
    by_cases hin : i < n
    · obtain ⟨l', h7, h8⟩ := h6 i (by omega)
      refine ⟨l', by rw [List.getElem?_append_left (by omega)]; exact h7, ?_⟩
      rw [List.getElem_append_left (by omega)]
      exact hK _ _ _ _ _ _ (fun b hb' => .inl ⟨hin, hb'⟩) (fun b hb' => old i b hb') h8
    · have : i = n := by simp at hi; omega
      subst this
      refine ⟨l, by rw [List.getElem?_append_right (by omega)]; simp [h2], ?_⟩
      rw [List.getElem_append_right (by omega)]
      simp only [h1, Nat.sub_self, List.getElem_cons_zero]
      exact hK _ _ _ _ _ _ (fun b hb' => by first | exact .inr ⟨rfl, hb'⟩ | (right; exact hb') | exact .inr ⟨trivial, hb'⟩) (fun b hb' => hg.block b hb'.2 (fun e => by have := (hob b e.symm).2; have := hb'.1; omega)) hx
theorem GrowD.row {α : Type} {k : Nat} {D : World → (Nat → Prop) → α → List Value → Prop} {w : World} {B : Nat} {T : TypeId} {xs : List α} {n : Nat} {a : Option Addr} {c : Nat} (h : GrowD k D w B T xs n a c) : RowD k D w (In B w.heap.size) xs a := by
  obtain ⟨h1, ls, h2, h3, h4, U, h5, h6⟩ := h
  obtain ⟨_, h4⟩ := h4
  rcases h4 with ⟨_, h0⟩ | ⟨g, cap, cur, e, hB, hg, hc, hm, hs, ht⟩
  · exact .inl (List.eq_nil_of_length_eq_zero (by omega))
  · simp only [Value.slice.injEq] at e
    obtain ⟨rfl, _, rfl⟩ := e
    have hg' := (Array.getElem?_eq_some_iff.1 hg).1
    have hle : n * k ≤ c * k := Nat.mul_le_mul_right k hc
    refine .inr ⟨g, cur, T, rfl, ⟨hB, hg'⟩, hg, by rw [h1, hs, Nat.mul_comm]; exact hle, U, h5.wide (fun b hb => ⟨hb.1, fun e => hb.2 (by rw [e]; rfl)⟩), fun i hi => ?_⟩
    obtain ⟨l, h7, h8⟩ := h6 i hi
    refine ⟨l, h8, h3 l (List.mem_of_getElem? h7), fun j hj => ?_⟩
    have hlt : k * i + j < n * k := by
      have : k * (i + 1) ≤ k * n := Nat.mul_le_mul_left k (by omega)
      rw [Nat.mul_succ] at this; rw [Nat.mul_comm n k]; omega
    rw [← flatten_get ls h3 i l h7 j hj, ← ht, List.getElem?_take, if_pos hlt, Array.getElem?_toList]
theorem own_set {w : World} {B : Nat} {T : TypeId} {k : Nat} {v : Value} {n : Nat} {xs : List Value} (h : w.ownsRow B T k v n xs) (p : Addr) (u : Value) (hp : v.ownBlock ≠ some p.block) : (w.setCell p u).ownsRow B T k v n xs :=
  own_keep h fun g _ hg _ => heap_setCell_other _ _ _ _ (fun e => hp (by rw [hg, e]))
theorem own_ne {w : World} {B : Nat} {T : TypeId} {k : Nat} {v : Value} {n : Nat} {xs : List Value} (h : w.ownsRow B T k v n xs) {g : Nat} (hg : g < B) : v.ownBlock ≠ some g := fun e => by have := (own_lt h e).1; omega
/- Whole rows of flat things, appended. -/
theorem news_flat {α : Type} {k : Nat} (hk : 0 < k) (f : α → List Value) (hf : ∀ x, (f x).length = k) {C : World → Nat → Nat → α → List Value → Prop} (hC : ∀ w lo hi x cs, C w lo hi x cs → cs = f x) {w : World} {lo hi : Nat} {xs : List α} {a : Option Addr} (h : RowAt k C w lo hi xs a) : ∀ (j : Nat) (u : Value), (xs.flatMap f)[j]? = some u → ∃ ad, a = some ad ∧ w.cell? (ad.add j) = some u := by
  intro j u hu
  obtain ⟨hj, _⟩ := List.getElem?_eq_some_iff.1 hu
  rw [flat_len f k hf] at hj
  have hi : j / k < xs.length := Nat.div_lt_of_lt_mul hj
  have hr : j % k < k := Nat.mod_lt _ hk
  obtain ⟨g, o, cs, e, _, _, hcs, _, hc⟩ := h (j / k) hi
  obtain rfl := hC _ _ _ _ _ hcs
  refine ⟨_, e, ?_⟩
  have hdm : k * (j / k) + j % k = j := Nat.div_add_mod j k
  have hadd : (⟨g, o, none⟩ : Addr).add j = ⟨g, o + k * (j / k) + j % k, none⟩ := by rw [Nat.add_assoc, hdm]; unfold Addr.add; split <;> simp_all
  rw [hadd, hc (j % k) hr, ← hu, ← flat_get f k hf xs (j / k) hi (j % k) hr, hdm]
theorem one_flat {α : Type} (f : α → List Value) (hf : ∀ x, ∀ u ∈ f x, u.oneCell' = true) (xs : List α) : ∀ u ∈ xs.flatMap f, u.oneCell' = true := by
  intro u hu
  obtain ⟨v, _, hv⟩ := List.mem_flatMap.1 hu
  exact hf v u hv
def UpL (x : UpD) : List Value := [.bool x.isLocal, .int .i64 x.at_]
def InstrL (x : InstrD) : List Value := [.int .i64 x.op, .int .i64 x.a, .int .i64 x.v.k, .int .i64 x.v.n, .string x.v.s, .string x.s, .int .i64 x.line]
def NameL (x : NameD) : List Value := [.string x.text, .int .i64 x.slot, .int .i64 x.frm, .int .i64 x.upto]
theorem row_ok {α : Type} {k : Nat} {C : World → Nat → Nat → α → List Value → Prop} {w : World} {lo hi : Nat} {xs : List α} {a : Option Addr} {P : α → Prop} (hC : ∀ w lo hi x cs, C w lo hi x cs → P x) (h : RowAt k C w lo hi xs a) : ∀ i (hi : i < xs.length), P xs[i] := fun i hi => by
  obtain ⟨_, _, _, _, _, _, hc, _⟩ := h i hi
  exact hC _ _ _ _ _ hc
end Go.Proofs.Ytgibejgemokljaa
