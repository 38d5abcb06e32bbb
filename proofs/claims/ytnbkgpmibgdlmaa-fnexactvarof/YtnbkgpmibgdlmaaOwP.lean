/- Data of one's own: each row in a block of its own. -/
import Derived.Test.YtnbkgpmibgdlmaaVmP
namespace Go.Proofs.Ytnbkgpmibgdlmaa
open Go.RowKit

/-- Blocks parted: each part lies within, no two share one. -/
structure Parts (V : Nat → Nat → Prop) (S : Nat → Prop) : Prop where
  within : ∀ i b, V i b → S b
  apart : ∀ i j b, V i b → V j b → i = j
def In (lo hi : Nat) (b : Nat) : Prop := lo ≤ b ∧ b < hi
theorem In.ne {lo hi b c : Nat} (h : In lo hi b) (hc : c < lo) : b ≠ c := by have := h.1; omega
theorem Parts.wide {V : Nat → Nat → Prop} {S S' : Nat → Prop} (h : Parts V S) (hs : ∀ b, S b → S' b) : Parts V S' := ⟨fun i b hb => hs b (h.within i b hb), h.apart⟩
theorem Parts.add {U : Nat → Nat → Prop} {lo mid hi i : Nat} (h : Parts U (In lo mid)) (hl : lo ≤ mid) (hm : mid ≤ hi) : Parts (fun m b => (m < i ∧ U m b) ∨ (m = i ∧ In mid hi b)) (In lo hi) :=
  ⟨fun m b hb => by
    rcases hb with ⟨_, hb⟩ | ⟨_, hb⟩
    · have := h.within m b hb; exact ⟨this.1, by have := this.2; omega⟩
    · exact ⟨by have := hb.1; omega, hb.2⟩,
   fun m n b h1 h2 => by
    rcases h1 with ⟨a1, b1⟩ | ⟨a1, b1⟩ <;> rcases h2 with ⟨a2, b2⟩ | ⟨a2, b2⟩
    · exact h.apart m n b b1 b2
    · have := (h.within m b b1).2; have := b2.1; omega
    · have := (h.within n b b2).2; have := b1.1; omega
    · omega⟩
theorem Parts.none (S : Nat → Prop) : Parts (fun _ _ => False) S := ⟨fun _ _ h => h.elim, fun _ _ _ h => h.elim⟩
def V5 (p0 p1 p2 p3 p4 : Nat → Prop) (i : Nat) : Nat → Prop := match i with | 0 => p0 | 1 => p1 | 2 => p2 | 3 => p3 | 4 => p4 | _ => fun _ => False
theorem parts5 {lo hi c0 d0 c1 d1 c2 d2 c3 d3 c4 d4 : Nat} (h0 : lo ≤ c0) (e0 : c0 ≤ d0) (h1 : d0 ≤ c1) (e1 : c1 ≤ d1) (h2 : d1 ≤ c2) (e2 : c2 ≤ d2) (h3 : d2 ≤ c3) (e3 : c3 ≤ d3) (h4 : d3 ≤ c4) (e4 : c4 ≤ d4) (h5 : d4 ≤ hi) :
    Parts (V5 (In c0 d0) (In c1 d1) (In c2 d2) (In c3 d3) (In c4 d4)) (In lo hi) :=
  ⟨fun i b hb => by
    match i, hb with
    | 0, ⟨x, y⟩ => exact ⟨by omega, by omega⟩
    | 1, ⟨x, y⟩ => exact ⟨by omega, by omega⟩
    | 2, ⟨x, y⟩ => exact ⟨by omega, by omega⟩
    | 3, ⟨x, y⟩ => exact ⟨by omega, by omega⟩
    | 4, ⟨x, y⟩ => exact ⟨by omega, by omega⟩
    | n + 5, hb => exact hb.elim,
   fun i j b hb hc => by
    match i, hb, j, hc with
    | 0, ⟨x, y⟩, 0, ⟨z, u⟩ => rfl
    | 0, ⟨x, y⟩, 1, ⟨z, u⟩ => omega
    | 0, ⟨x, y⟩, 2, ⟨z, u⟩ => omega
    | 0, ⟨x, y⟩, 3, ⟨z, u⟩ => omega
    | 0, ⟨x, y⟩, 4, ⟨z, u⟩ => omega
    | 1, ⟨x, y⟩, 0, ⟨z, u⟩ => omega
    | 1, ⟨x, y⟩, 1, ⟨z, u⟩ => rfl
    | 1, ⟨x, y⟩, 2, ⟨z, u⟩ => omega
    | 1, ⟨x, y⟩, 3, ⟨z, u⟩ => omega
    | 1, ⟨x, y⟩, 4, ⟨z, u⟩ => omega
    | 2, ⟨x, y⟩, 0, ⟨z, u⟩ => omega
    | 2, ⟨x, y⟩, 1, ⟨z, u⟩ => omega
    | 2, ⟨x, y⟩, 2, ⟨z, u⟩ => rfl
    | 2, ⟨x, y⟩, 3, ⟨z, u⟩ => omega
    | 2, ⟨x, y⟩, 4, ⟨z, u⟩ => omega
    | 3, ⟨x, y⟩, 0, ⟨z, u⟩ => omega
    | 3, ⟨x, y⟩, 1, ⟨z, u⟩ => omega
    | 3, ⟨x, y⟩, 2, ⟨z, u⟩ => omega
    | 3, ⟨x, y⟩, 3, ⟨z, u⟩ => rfl
    | 3, ⟨x, y⟩, 4, ⟨z, u⟩ => omega
    | 4, ⟨x, y⟩, 0, ⟨z, u⟩ => omega
    | 4, ⟨x, y⟩, 1, ⟨z, u⟩ => omega
    | 4, ⟨x, y⟩, 2, ⟨z, u⟩ => omega
    | 4, ⟨x, y⟩, 3, ⟨z, u⟩ => omega
    | 4, ⟨x, y⟩, 4, ⟨z, u⟩ => rfl
    | n + 5, hb, _, _ => exact hb.elim
    | 0, _, n + 5, hc => exact hc.elim
    | 1, _, n + 5, hc => exact hc.elim
    | 2, _, n + 5, hc => exact hc.elim
    | 3, _, n + 5, hc => exact hc.elim
    | 4, _, n + 5, hc => exact hc.elim⟩
/-- A list in a row of one's own: the row lies in a block of S, what its things hold in other ones, each in its own. -/
def RowD {α : Type} (k : Nat) (D : World → (Nat → Prop) → α → List Value → Prop) (w : World) (S : Nat → Prop) (xs : List α) (a : Option Addr) : Prop :=
  xs = [] ∨ ∃ g cs T, a = some ⟨g, 0, none⟩ ∧ S g ∧ w.heap[g]? = some (.cells cs T (0, 0)) ∧ k * xs.length ≤ cs.size ∧ ∃ U : Nat → Nat → Prop, Parts U (fun b => S b ∧ b ≠ g) ∧ ∀ i (h : i < xs.length), ∃ l, D w (U i) xs[i] l ∧ l.length = k ∧ ∀ j, j < k → cs[k * i + j]? = l[j]?
def KeepsD {α : Type} (D : World → (Nat → Prop) → α → List Value → Prop) : Prop :=
  ∀ (w w' : World) (S S' : Nat → Prop) (x : α) (l : List Value), (∀ b, S b → S' b) → (∀ b, S b → w'.heap[b]? = w.heap[b]?) → D w S x l → D w' S' x l
theorem RowD.later {α : Type} {k : Nat} {D : World → (Nat → Prop) → α → List Value → Prop} (hK : KeepsD D) {w w' : World} {S S' : Nat → Prop} {xs : List α} {a : Option Addr} (hs : ∀ b, S b → S' b) (hc : ∀ b, S b → w'.heap[b]? = w.heap[b]?) (h : RowD k D w S xs a) : RowD k D w' S' xs a := by
  rcases h with h | ⟨g, cs, T, h1, h2, h3, h4, U, h5, h6⟩
  · exact .inl h
  · refine .inr ⟨g, cs, T, h1, hs g h2, (hc g h2).trans h3, h4, U, h5.wide (fun b hb => ⟨hs b hb.1, hb.2⟩), fun i hi => ?_⟩
    obtain ⟨l, h7, h8, h9⟩ := h6 i hi
    exact ⟨l, hK _ _ _ _ _ _ (fun _ h => h) (fun b hb => hc b (h5.within i b hb).1) h7, h8, h9⟩
theorem RowD.set {α : Type} {k : Nat} {D : World → (Nat → Prop) → α → List Value → Prop} (hK : KeepsD D) {w : World} {S : Nat → Prop} {xs : List α} {a : Option Addr} (p : Addr) (v : Value) (hb : ∀ b, S b → b ≠ p.block) (h : RowD k D w S xs a) : RowD k D (w.setCell p v) S xs a :=
  h.later hK (fun _ h => h) fun b hs => heap_setCell_other _ _ _ _ (hb b hs)
theorem RowD.below {α : Type} {k : Nat} {D : World → (Nat → Prop) → α → List Value → Prop} (hK : KeepsD D) {w w' : World} {S : Nat → Prop} {xs : List α} {a : Option Addr} (hS : ∀ b, S b → b < w.heap.size) (hb : Below w.heap.size w w') (h : RowD k D w S xs a) : RowD k D w' S xs a :=
  h.later hK (fun _ h => h) fun b hs => hb.block b (hS b hs)
theorem KeepsD.set {α : Type} {D : World → (Nat → Prop) → α → List Value → Prop} (hK : KeepsD D) {w : World} {S : Nat → Prop} {x : α} {l : List Value} (p : Addr) (v : Value) (hb : ∀ b, S b → b ≠ p.block) (h : D w S x l) : D (w.setCell p v) S x l :=
  hK _ _ _ _ _ _ (fun _ h => h) (fun b hs => heap_setCell_other _ _ _ _ (hb b hs)) h
theorem KeepsD.below {α : Type} {D : World → (Nat → Prop) → α → List Value → Prop} (hK : KeepsD D) {w w' : World} {S : Nat → Prop} {x : α} {l : List Value} (hS : ∀ b, S b → b < w.heap.size) (hb : Below w.heap.size w w') (h : D w S x l) : D w' S x l :=
  hK _ _ _ _ _ _ (fun _ h => h) (fun b hs => hb.block b (hS b hs)) h
def Lies {α : Type} (D : World → (Nat → Prop) → α → List Value → Prop) (C : World → Nat → Nat → α → List Value → Prop) : Prop :=
  ∀ (w : World) (S : Nat → Prop) (lo hi : Nat) (x : α) (l : List Value), (∀ b, S b → lo ≤ b ∧ b < hi) → D w S x l → C w lo hi x l
theorem RowD.lies {α : Type} {k : Nat} {D : World → (Nat → Prop) → α → List Value → Prop} {C : World → Nat → Nat → α → List Value → Prop} (hL : Lies D C) {w : World} {S : Nat → Prop} {lo hi : Nat} {xs : List α} {a : Option Addr} (hS : ∀ b, S b → lo ≤ b ∧ b < hi) (h : RowD k D w S xs a) : RowAt k C w lo hi xs a := by
  intro i hi
  rcases h with h | ⟨g, cs, T, h1, h2, h3, h4, U, h5, h6⟩
  · subst h; exact absurd hi (Nat.not_lt_zero _)
  · obtain ⟨l, h7, h8, h9⟩ := h6 i hi
    exact ⟨g, 0, l, h1, (hS g h2).1, (hS g h2).2, hL _ _ _ _ _ _ (fun b hb => hS b (h5.within i b hb).1) h7, h8, fun j hj => by rw [cell_of_row _ _ _ _ _ _ h3, ← h9 j hj]; congr 1; omega⟩
def IntOwn (_ : World) (_ : Nat → Prop) (n : Int) (cs : List Value) : Prop := IntOk n ∧ cs = [.int .i64 n]
def StrOwn (_ : World) (_ : Nat → Prop) (s : ByteArray) (cs : List Value) : Prop := s.size ≤ maxLen ∧ cs = [.string s]
def ValOwn (_ : World) (_ : Nat → Prop) (v : Vl) (cs : List Value) : Prop := v.Ok ∧ cs = [.int .i64 v.k, .int .i64 v.n, .string v.s]
theorem IntOwn_keeps : KeepsD IntOwn := fun _ _ _ _ _ _ _ _ h => h
theorem StrOwn_keeps : KeepsD StrOwn := fun _ _ _ _ _ _ _ _ h => h
theorem ValOwn_keeps : KeepsD ValOwn := fun _ _ _ _ _ _ _ _ h => h
theorem IntOwn_lies : Lies IntOwn IntC := fun _ _ _ _ _ _ _ h => h
theorem StrOwn_lies : Lies StrOwn StrC := fun _ _ _ _ _ _ _ h => h
theorem ValOwn_lies : Lies ValOwn ValC := fun _ _ _ _ _ _ _ h => h
theorem IntOwn_flat {w w' : World} {S S' : Nat → Prop} {x : Int} {l : List Value} (h : IntOwn w S x l) : IntOwn w' S' x l := h
theorem StrOwn_flat {w w' : World} {S S' : Nat → Prop} {x : ByteArray} {l : List Value} (h : StrOwn w S x l) : StrOwn w' S' x l := h
theorem ValOwn_flat {w w' : World} {S S' : Nat → Prop} {x : Vl} {l : List Value} (h : ValOwn w S x l) : ValOwn w' S' x l := h
def UpOwn (_ : World) (_ : Nat → Prop) (x : UpD) (cs : List Value) : Prop := x.Ok ∧ cs = [.bool x.isLocal, .int .i64 x.at_]
theorem UpOwn_keeps : KeepsD UpOwn := fun _ _ _ _ _ _ _ _ h => h
theorem UpOwn_lies : Lies UpOwn UpC := fun _ _ _ _ _ _ _ h => h
theorem UpOwn_flat {w w' : World} {S S' : Nat → Prop} {x : UpD} {l : List Value} (h : UpOwn w S x l) : UpOwn w' S' x l := h
def InstrOwn (_ : World) (_ : Nat → Prop) (x : InstrD) (cs : List Value) : Prop := x.Ok ∧ cs = [.int .i64 x.op, .int .i64 x.a, .int .i64 x.v.k, .int .i64 x.v.n, .string x.v.s, .string x.s, .int .i64 x.line]
theorem InstrOwn_keeps : KeepsD InstrOwn := fun _ _ _ _ _ _ _ _ h => h
theorem InstrOwn_lies : Lies InstrOwn InstrC := fun _ _ _ _ _ _ _ h => h
theorem InstrOwn_flat {w w' : World} {S S' : Nat → Prop} {x : InstrD} {l : List Value} (h : InstrOwn w S x l) : InstrOwn w' S' x l := h
def NameOwn (_ : World) (_ : Nat → Prop) (x : NameD) (cs : List Value) : Prop := x.Ok ∧ cs = [.string x.text, .int .i64 x.slot, .int .i64 x.frm, .int .i64 x.upto]
theorem NameOwn_keeps : KeepsD NameOwn := fun _ _ _ _ _ _ _ _ h => h
theorem NameOwn_lies : Lies NameOwn NameC := fun _ _ _ _ _ _ _ h => h
theorem NameOwn_flat {w w' : World} {S S' : Nat → Prop} {x : NameD} {l : List Value} (h : NameOwn w S x l) : NameOwn w' S' x l := h
def ProtoOwn (w : World) (S : Nat → Prop) (x : ProtoD) (cs : List Value) : Prop :=
  x.Ok ∧ ∃ V, Parts V S ∧ ∃ a_ups c_ups a_code c_code a_names c_names, cs = [.int .i64 x.params, .int .i64 x.slots, .slice a_ups x.ups.length c_ups, .slice a_code x.code.length c_code, .slice a_names x.names.length c_names] ∧ x.ups.length ≤ maxLen ∧ RowD 2 UpOwn w (V 0) x.ups a_ups ∧ x.code.length ≤ maxLen ∧ RowD 7 InstrOwn w (V 1) x.code a_code ∧ x.names.length ≤ maxLen ∧ RowD 4 NameOwn w (V 2) x.names a_names
theorem ProtoOwn_keeps : KeepsD ProtoOwn := by
  intro w w' S S' x l hs hc h
  obtain ⟨ok, V, pv, a_ups, c_ups, a_code, c_code, a_names, c_names, rfl, l_ups, r_ups, l_code, r_code, l_names, r_names⟩ := h
  exact ⟨ok, V, pv.wide hs, a_ups, c_ups, a_code, c_code, a_names, c_names, rfl, l_ups, r_ups.later UpOwn_keeps (fun _ h => h) (fun b hb => hc b (pv.within 0 b hb)), l_code, r_code.later InstrOwn_keeps (fun _ h => h) (fun b hb => hc b (pv.within 1 b hb)), l_names, r_names.later NameOwn_keeps (fun _ h => h) (fun b hb => hc b (pv.within 2 b hb))⟩
theorem ProtoOwn_lies : Lies ProtoOwn ProtoC := by
  intro w S lo hi x l hS h
  obtain ⟨ok, V, pv, a_ups, c_ups, a_code, c_code, a_names, c_names, rfl, l_ups, r_ups, l_code, r_code, l_names, r_names⟩ := h
  exact ⟨ok, a_ups, c_ups, a_code, c_code, a_names, c_names, rfl, l_ups, r_ups.lies UpOwn_lies (fun b hb => hS b (pv.within 0 b hb)), l_code, r_code.lies InstrOwn_lies (fun b hb => hS b (pv.within 1 b hb)), l_names, r_names.lies NameOwn_lies (fun b hb => hS b (pv.within 2 b hb))⟩
def ClosureOwn (w : World) (S : Nat → Prop) (x : ClosureD) (cs : List Value) : Prop :=
  x.Ok ∧ ∃ V, Parts V S ∧ ∃ a_ups c_ups, cs = [.int .i64 x.proto, .slice a_ups x.ups.length c_ups] ∧ x.ups.length ≤ maxLen ∧ RowD 1 IntOwn w (V 0) x.ups a_ups
theorem ClosureOwn_keeps : KeepsD ClosureOwn := by
  intro w w' S S' x l hs hc h
  obtain ⟨ok, V, pv, a_ups, c_ups, rfl, l_ups, r_ups⟩ := h
  exact ⟨ok, V, pv.wide hs, a_ups, c_ups, rfl, l_ups, r_ups.later IntOwn_keeps (fun _ h => h) (fun b hb => hc b (pv.within 0 b hb))⟩
theorem ClosureOwn_lies : Lies ClosureOwn ClosureC := by
  intro w S lo hi x l hS h
  obtain ⟨ok, V, pv, a_ups, c_ups, rfl, l_ups, r_ups⟩ := h
  exact ⟨ok, a_ups, c_ups, rfl, l_ups, r_ups.lies IntOwn_lies (fun b hb => hS b (pv.within 0 b hb))⟩
def FrameOwn (w : World) (S : Nat → Prop) (x : FrameD) (cs : List Value) : Prop :=
  x.Ok ∧ ∃ V, Parts V S ∧ ∃ a_slots c_slots a_ups c_ups a_stack c_stack, cs = [.int .i64 x.proto, .int .i64 x.pc, .slice a_slots x.slots.length c_slots, .slice a_ups x.ups.length c_ups, .slice a_stack x.stack.length c_stack, .bool x.guard] ∧ x.slots.length ≤ maxLen ∧ RowD 1 IntOwn w (V 0) x.slots a_slots ∧ x.ups.length ≤ maxLen ∧ RowD 1 IntOwn w (V 1) x.ups a_ups ∧ x.stack.length ≤ maxLen ∧ RowD 3 ValOwn w (V 2) x.stack a_stack
theorem FrameOwn_keeps : KeepsD FrameOwn := by
  intro w w' S S' x l hs hc h
  obtain ⟨ok, V, pv, a_slots, c_slots, a_ups, c_ups, a_stack, c_stack, rfl, l_slots, r_slots, l_ups, r_ups, l_stack, r_stack⟩ := h
  exact ⟨ok, V, pv.wide hs, a_slots, c_slots, a_ups, c_ups, a_stack, c_stack, rfl, l_slots, r_slots.later IntOwn_keeps (fun _ h => h) (fun b hb => hc b (pv.within 0 b hb)), l_ups, r_ups.later IntOwn_keeps (fun _ h => h) (fun b hb => hc b (pv.within 1 b hb)), l_stack, r_stack.later ValOwn_keeps (fun _ h => h) (fun b hb => hc b (pv.within 2 b hb))⟩
theorem FrameOwn_lies : Lies FrameOwn FrameC := by
  intro w S lo hi x l hS h
  obtain ⟨ok, V, pv, a_slots, c_slots, a_ups, c_ups, a_stack, c_stack, rfl, l_slots, r_slots, l_ups, r_ups, l_stack, r_stack⟩ := h
  exact ⟨ok, a_slots, c_slots, a_ups, c_ups, a_stack, c_stack, rfl, l_slots, r_slots.lies IntOwn_lies (fun b hb => hS b (pv.within 0 b hb)), l_ups, r_ups.lies IntOwn_lies (fun b hb => hS b (pv.within 1 b hb)), l_stack, r_stack.lies ValOwn_lies (fun b hb => hS b (pv.within 2 b hb))⟩
def PairOwn (_ : World) (_ : Nat → Prop) (x : PairD) (cs : List Value) : Prop := x.Ok ∧ cs = [.int .i64 x.key.k, .int .i64 x.key.n, .string x.key.s, .int .i64 x.val.k, .int .i64 x.val.n, .string x.val.s]
theorem PairOwn_keeps : KeepsD PairOwn := fun _ _ _ _ _ _ _ _ h => h
theorem PairOwn_lies : Lies PairOwn PairC := fun _ _ _ _ _ _ _ h => h
theorem PairOwn_flat {w w' : World} {S S' : Nat → Prop} {x : PairD} {l : List Value} (h : PairOwn w S x l) : PairOwn w' S' x l := h
def PairSOwn (w : World) (S : Nat → Prop) (x : List PairD) (cs : List Value) : Prop := x.length ≤ maxLen ∧ ∃ a_p c_p, cs = [.slice a_p x.length c_p] ∧ RowD 6 PairOwn w S x a_p
theorem PairSOwn_keeps : KeepsD PairSOwn := by
  intro w w' S S' x l hs hc h
  obtain ⟨ok, a_p, c_p, rfl, r_p⟩ := h
  exact ⟨ok, a_p, c_p, rfl, r_p.later PairOwn_keeps hs hc⟩
theorem PairSOwn_lies : Lies PairSOwn PairSC := by
  intro w S lo hi x l hS h
  obtain ⟨ok, a_p, c_p, rfl, r_p⟩ := h
  exact ⟨ok, a_p, c_p, rfl, r_p.lies PairOwn_lies hS⟩
def HeapOwn (w : World) (S : Nat → Prop) (x : HeapD) (cs : List Value) : Prop :=
  x.Ok ∧ ∃ V, Parts V S ∧ ∃ a_tables c_tables a_cells c_cells, cs = [.slice a_tables x.tables.length c_tables, .slice a_cells x.cells.length c_cells] ∧ x.tables.length ≤ maxLen ∧ RowD 1 PairSOwn w (V 0) x.tables a_tables ∧ x.cells.length ≤ maxLen ∧ RowD 3 ValOwn w (V 1) x.cells a_cells
theorem HeapOwn_keeps : KeepsD HeapOwn := by
  intro w w' S S' x l hs hc h
  obtain ⟨ok, V, pv, a_tables, c_tables, a_cells, c_cells, rfl, l_tables, r_tables, l_cells, r_cells⟩ := h
  exact ⟨ok, V, pv.wide hs, a_tables, c_tables, a_cells, c_cells, rfl, l_tables, r_tables.later PairSOwn_keeps (fun _ h => h) (fun b hb => hc b (pv.within 0 b hb)), l_cells, r_cells.later ValOwn_keeps (fun _ h => h) (fun b hb => hc b (pv.within 1 b hb))⟩
theorem HeapOwn_lies : Lies HeapOwn HeapC := by
  intro w S lo hi x l hS h
  obtain ⟨ok, V, pv, a_tables, c_tables, a_cells, c_cells, rfl, l_tables, r_tables, l_cells, r_cells⟩ := h
  exact ⟨ok, a_tables, c_tables, a_cells, c_cells, rfl, l_tables, r_tables.lies PairSOwn_lies (fun b hb => hS b (pv.within 0 b hb)), l_cells, r_cells.lies ValOwn_lies (fun b hb => hS b (pv.within 1 b hb))⟩
def VmOwn (w : World) (S : Nat → Prop) (x : VmD) (cs : List Value) : Prop :=
  x.Ok ∧ ∃ V, Parts V S ∧ ∃ a_heap_tables c_heap_tables a_heap_cells c_heap_cells a_funs c_funs a_frames c_frames a_out c_out, cs = [.slice a_heap_tables x.heap.tables.length c_heap_tables, .slice a_heap_cells x.heap.cells.length c_heap_cells, .slice a_funs x.funs.length c_funs, .slice a_frames x.frames.length c_frames, .slice a_out x.out.length c_out, .int .i64 x.steps, .int .i64 x.kind, .int .i64 x.value.k, .int .i64 x.value.n, .string x.value.s] ∧ HeapOwn w (V 0) x.heap [.slice a_heap_tables x.heap.tables.length c_heap_tables, .slice a_heap_cells x.heap.cells.length c_heap_cells] ∧ x.funs.length ≤ maxLen ∧ RowD 2 ClosureOwn w (V 1) x.funs a_funs ∧ x.frames.length ≤ maxLen ∧ RowD 6 FrameOwn w (V 2) x.frames a_frames ∧ x.out.length ≤ maxLen ∧ RowD 1 StrOwn w (V 3) x.out a_out
theorem VmOwn_keeps : KeepsD VmOwn := by
  intro w w' S S' x l hs hc h
  obtain ⟨ok, V, pv, a_heap_tables, c_heap_tables, a_heap_cells, c_heap_cells, a_funs, c_funs, a_frames, c_frames, a_out, c_out, rfl, r_heap, l_funs, r_funs, l_frames, r_frames, l_out, r_out⟩ := h
  exact ⟨ok, V, pv.wide hs, a_heap_tables, c_heap_tables, a_heap_cells, c_heap_cells, a_funs, c_funs, a_frames, c_frames, a_out, c_out, rfl, HeapOwn_keeps _ _ _ _ _ _ (fun _ h => h) (fun b hb => hc b (pv.within 0 b hb)) r_heap, l_funs, r_funs.later ClosureOwn_keeps (fun _ h => h) (fun b hb => hc b (pv.within 1 b hb)), l_frames, r_frames.later FrameOwn_keeps (fun _ h => h) (fun b hb => hc b (pv.within 2 b hb)), l_out, r_out.later StrOwn_keeps (fun _ h => h) (fun b hb => hc b (pv.within 3 b hb))⟩
theorem VmOwn_lies : Lies VmOwn VmC := by
  intro w S lo hi x l hS h
  obtain ⟨ok, V, pv, a_heap_tables, c_heap_tables, a_heap_cells, c_heap_cells, a_funs, c_funs, a_frames, c_frames, a_out, c_out, rfl, r_heap, l_funs, r_funs, l_frames, r_frames, l_out, r_out⟩ := h
  have z_heap := HeapOwn_lies _ _ lo hi _ _ (fun b hb => hS b (pv.within 0 b hb)) r_heap
  obtain ⟨_, m_a_heap_tables, m_c_heap_tables, m_a_heap_cells, m_c_heap_cells, e_heap, m_l_heap_tables, m_r_heap_tables, m_l_heap_cells, m_r_heap_cells⟩ := z_heap
  simp only [List.cons.injEq, Value.slice.injEq, and_true, true_and] at e_heap
  obtain ⟨⟨rfl, rfl⟩, ⟨rfl, rfl⟩⟩ := e_heap
  exact ⟨ok, a_heap_tables, c_heap_tables, a_heap_cells, c_heap_cells, a_funs, c_funs, a_frames, c_frames, a_out, c_out, rfl, m_l_heap_tables, m_r_heap_tables, m_l_heap_cells, m_r_heap_cells, l_funs, r_funs.lies ClosureOwn_lies (fun b hb => hS b (pv.within 1 b hb)), l_frames, r_frames.lies FrameOwn_lies (fun b hb => hS b (pv.within 2 b hb)), l_out, r_out.lies StrOwn_lies (fun b hb => hS b (pv.within 3 b hb))⟩
end Go.Proofs.Ytnbkgpmibgdlmaa
