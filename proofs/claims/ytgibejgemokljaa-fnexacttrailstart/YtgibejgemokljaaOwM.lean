/- Data of one's own, marked: flat things. -/
import Derived.Test.YtgibejgemokljaaOwP
import Derived.Test.YtgibejgemokljaaMarkQ
namespace Go.Proofs.Ytgibejgemokljaa
open Go.RowKit

/-- Outside of S nothing is turned. -/
structure Outs (S : Nat → Prop) (w w' : World) : Prop where
  os : w'.os = w.os
  tape : w'.tape = w.tape
  output : w'.output = w.output
  size : w.heap.size ≤ w'.heap.size
  block : ∀ b, b < w.heap.size → ¬ S b → w'.heap[b]? = w.heap[b]?
theorem Outs.refl (S : Nat → Prop) (w : World) : Outs S w w := ⟨rfl, rfl, rfl, Nat.le_refl _, fun _ _ _ => rfl⟩
theorem Outs.trans {S : Nat → Prop} {a b c : World} (h : Outs S a b) (k : Outs S b c) : Outs S a c :=
  ⟨k.os.trans h.os, k.tape.trans h.tape, k.output.trans h.output, Nat.le_trans h.size k.size, fun x hx hc => (k.block x (Nat.lt_of_lt_of_le hx h.size) hc).trans (h.block x hx hc)⟩
theorem Outs.wide {S S' : Nat → Prop} {w w' : World} (h : Outs S w w') (hs : ∀ b, S b → S' b) : Outs S' w w' := ⟨h.os, h.tape, h.output, h.size, fun b hb hc => h.block b hb fun k => hc (hs b k)⟩
theorem Outs.bel {S : Nat → Prop} {a b c : World} (h : Outs S a b) (k : Below b.heap.size b c) : Outs S a c := h.trans ⟨k.os, k.tape, k.output, k.size, fun x hx _ => k.block x hx⟩
theorem Outs.set {S : Nat → Prop} {w w' : World} (h : Outs S w w') (a : Addr) (v : Value) (ha : S a.block) : Outs S w (w'.setCell a v) :=
  h.trans ⟨rfl, rfl, rfl, by simp, fun b _ hc => heap_setCell_other _ _ _ _ (fun e => hc (by rw [e]; exact ha))⟩
theorem Outs.alloc {S : Nat → Prop} {w w' : World} (h : Outs S w w') (o : Obj) : Outs S w (w'.alloc o) := h.bel (bel_alloc _ o)
theorem Outs.below {S : Nat → Prop} {w w' : World} {n : Nat} (h : Outs S w w') (hn : n ≤ w.heap.size) (hs : ∀ b, b < n → ¬ S b) : Below n w w' := ⟨h.os, h.tape, h.output, h.size, fun b hb => h.block b (by omega) (hs b hb)⟩
theorem Outs.of_grown {S : Nat → Prop} {w w' : World} {g : Nat} (h : w.grownBy w' (some g)) (hg : S g) : Outs S w w' :=
  ⟨h.os, h.tape, h.output, h.size, fun b hb hc => h.block b hb fun e => by cases e; exact hc hg⟩
/-- A row marked: its things, one behind the other, k marks each. -/
def mkF {α : Type} (f : Nat → α) (k K n : Nat) : List α := (List.range n).map fun i => f (K + k * i)
theorem mkF_len {α : Type} (f : Nat → α) (k K n : Nat) : (mkF f k K n).length = n := by simp [mkF]
theorem mkF_get {α : Type} (f : Nat → α) (k K n i : Nat) (h : i < (mkF f k K n).length) : (mkF f k K n)[i] = f (K + k * i) := by simp [mkF]
theorem mkF_zero {α : Type} (f : Nat → α) (k K : Nat) : mkF f k K 0 = [] := rfl
/-- A row of things that hold rows marked: each thing takes as many marks as c tells. -/
def mnR {α : Type} (c : α → Nat) (xs : List α) : Nat := (xs.map c).sum
def mkR {α : Type} (f : Nat → α → α) (c : α → Nat) : Nat → List α → List α
  | _, [] => []
  | K, x :: xs => f K x :: mkR f c (K + c x) xs
theorem mkR_len {α : Type} (f : Nat → α → α) (c : α → Nat) : ∀ (K : Nat) (xs : List α), (mkR f c K xs).length = xs.length
  | _, [] => rfl
  | K, x :: xs => by simp [mkR, mkR_len f c (K + c x) xs]
theorem mnR_take {α : Type} (c : α → Nat) (xs : List α) (i : Nat) (h : i < xs.length) : mnR c (xs.take (i + 1)) = mnR c (xs.take i) + c xs[i] := by
  unfold mnR
  rw [List.take_succ_eq_append_getElem h, List.map_append, List.sum_append]; simp
theorem mnR_take_le {α : Type} (c : α → Nat) (xs : List α) (i : Nat) : mnR c (xs.take i) ≤ mnR c xs := by
  conv => rhs; rw [← List.take_append_drop i xs]
  unfold mnR
  rw [List.map_append, List.sum_append]; omega
theorem mkR_get {α : Type} (f : Nat → α → α) (c : α → Nat) : ∀ (xs : List α) (K i : Nat) (h : i < (mkR f c K xs).length) (h' : i < xs.length), (mkR f c K xs)[i] = f (K + mnR c (xs.take i)) xs[i]
  | [], _, i, _, h' => absurd h' (Nat.not_lt_zero _)
  | x :: xs, K, 0, _, _ => by simp [mkR, mnR]
  | x :: xs, K, i + 1, h, h' => by
    simp only [mkR, List.getElem_cons_succ]
    rw [mkR_get f c xs (K + c x) i (by simpa [mkR] using h) (by simpa using h')]
    simp [mnR, Nat.add_assoc]
theorem markF_len : ∀ (f k : Nat) (out : List UInt8), (markF f k out).length ≤ out.length + f
  | 0, _, out => by simp [markF]
  | f + 1, k, out => by
    unfold markF
    split
    · omega
    · have := markF_len f (k / 10) (UInt8.ofNat (48 + k % 10) :: out)
      rw [List.length_cons] at this; omega
theorem markB_len (k : Nat) : (markB k).length ≤ k + 1 := by
  have h : (markF k k []).length ≤ 0 + k := markF_len k k []
  show (109 :: markF k k []).length ≤ k + 1
  rw [List.length_cons]; omega
theorem mark_ok (k : Nat) (h : k ≤ 2199023255552) : (⟨(markB k).toArray⟩ : ByteArray).size ≤ maxLen := by
  have := markB_len k
  show (markB k).toArray.size ≤ maxLen
  rw [List.size_toArray]; unfold maxLen; omega
def Upmc (K m : Nat) : Value := if m % 2 = 0 then .bool (decide (((K + m : Nat) : Int) % 3 = 0)) else .int .i64 ((K + m : Nat) : Int)
theorem Upmc0 (K i : Nat) : Upmc K (2 * i) = .bool (decide (((K + (2 * i) : Nat) : Int) % 3 = 0)) := by
  have h : (2 * i) % 2 = 0 := by omega
  simp [Upmc, h]
theorem Upmc1 (K i : Nat) : Upmc K (2 * i + 1) = .int .i64 ((K + (2 * i + 1) : Nat) : Int) := by
  have h : (2 * i + 1) % 2 = 1 := by omega
  simp [Upmc, h]
def Upmk (K : Nat) : UpD := (⟨(decide (((K : Nat) : Int) % 3 = 0)), ((K + 1 : Nat) : Int)⟩ : UpD)
theorem Upmk_own (K : Nat) (w : World) (S : Nat → Prop) (h : K ≤ 1099511627776) : UpOwn w S (Upmk K) [.bool (Upmk K).isLocal, .int .i64 (Upmk K).at_] := ⟨⟨trivial, ⟨by simp only [Upmk]; omega, by simp only [Upmk]; omega⟩⟩, rfl⟩
theorem Upmk_cell (K i j : Nat) (h : j < 2) : some (Upmc K (2 * i + j)) = [.bool (Upmk (K + 2 * i)).isLocal, .int .i64 (Upmk (K + 2 * i)).at_][j]? := by
  match j, h with
  | 0, _ => rw [Nat.add_zero, Upmc0]; simp [Upmk]
  | 1, _ => rw [Upmc1]; simp [Upmk, Nat.add_assoc]
def Instrmc (K m : Nat) : Value := if m % 7 = 4 ∨ m % 7 = 5 then .string ⟨(markB (K + m)).toArray⟩ else .int .i64 ((K + m : Nat) : Int)
theorem Instrmc0 (K i : Nat) : Instrmc K (7 * i) = .int .i64 ((K + (7 * i) : Nat) : Int) := by
  have h : (7 * i) % 7 = 0 := by omega
  simp [Instrmc, h]
theorem Instrmc1 (K i : Nat) : Instrmc K (7 * i + 1) = .int .i64 ((K + (7 * i + 1) : Nat) : Int) := by
  have h : (7 * i + 1) % 7 = 1 := by omega
  simp [Instrmc, h]
theorem Instrmc2 (K i : Nat) : Instrmc K (7 * i + 2) = .int .i64 ((K + (7 * i + 2) : Nat) : Int) := by
  have h : (7 * i + 2) % 7 = 2 := by omega
  simp [Instrmc, h]
theorem Instrmc3 (K i : Nat) : Instrmc K (7 * i + 3) = .int .i64 ((K + (7 * i + 3) : Nat) : Int) := by
  have h : (7 * i + 3) % 7 = 3 := by omega
  simp [Instrmc, h]
theorem Instrmc4 (K i : Nat) : Instrmc K (7 * i + 4) = .string ⟨(markB (K + (7 * i + 4))).toArray⟩ := by
  have h : (7 * i + 4) % 7 = 4 := by omega
  simp [Instrmc, h]
theorem Instrmc5 (K i : Nat) : Instrmc K (7 * i + 5) = .string ⟨(markB (K + (7 * i + 5))).toArray⟩ := by
  have h : (7 * i + 5) % 7 = 5 := by omega
  simp [Instrmc, h]
theorem Instrmc6 (K i : Nat) : Instrmc K (7 * i + 6) = .int .i64 ((K + (7 * i + 6) : Nat) : Int) := by
  have h : (7 * i + 6) % 7 = 6 := by omega
  simp [Instrmc, h]
def Instrmk (K : Nat) : InstrD := (⟨((K : Nat) : Int), ((K + 1 : Nat) : Int), ⟨((K + 2 : Nat) : Int), ((K + 2 + 1 : Nat) : Int), ⟨(markB (K + 2 + 2)).toArray⟩⟩, ⟨(markB (K + 5)).toArray⟩, ((K + 6 : Nat) : Int)⟩ : InstrD)
theorem Instrmk_own (K : Nat) (w : World) (S : Nat → Prop) (h : K ≤ 1099511627776) : InstrOwn w S (Instrmk K) [.int .i64 (Instrmk K).op, .int .i64 (Instrmk K).a, .int .i64 (Instrmk K).v.k, .int .i64 (Instrmk K).v.n, .string (Instrmk K).v.s, .string (Instrmk K).s, .int .i64 (Instrmk K).line] := ⟨⟨⟨by simp only [Instrmk]; omega, by simp only [Instrmk]; omega⟩, ⟨by simp only [Instrmk]; omega, by simp only [Instrmk]; omega⟩, ⟨⟨by simp only [Instrmk]; omega, by simp only [Instrmk]; omega, by simp only [Instrmk]; omega, by simp only [Instrmk]; omega, mark_ok _ (by omega)⟩⟩, mark_ok _ (by omega), ⟨by simp only [Instrmk]; omega, by simp only [Instrmk]; omega⟩⟩, rfl⟩
theorem Instrmk_cell (K i j : Nat) (h : j < 7) : some (Instrmc K (7 * i + j)) = [.int .i64 (Instrmk (K + 7 * i)).op, .int .i64 (Instrmk (K + 7 * i)).a, .int .i64 (Instrmk (K + 7 * i)).v.k, .int .i64 (Instrmk (K + 7 * i)).v.n, .string (Instrmk (K + 7 * i)).v.s, .string (Instrmk (K + 7 * i)).s, .int .i64 (Instrmk (K + 7 * i)).line][j]? := by
  match j, h with
  | 0, _ => rw [Nat.add_zero, Instrmc0]; simp [Instrmk]
  | 1, _ => rw [Instrmc1]; simp [Instrmk, Nat.add_assoc]
  | 2, _ => rw [Instrmc2]; simp [Instrmk, Nat.add_assoc]
  | 3, _ => rw [Instrmc3]; simp [Instrmk, Nat.add_assoc]
  | 4, _ => rw [Instrmc4]; simp [Instrmk, Nat.add_assoc]
  | 5, _ => rw [Instrmc5]; simp [Instrmk, Nat.add_assoc]
  | 6, _ => rw [Instrmc6]; simp [Instrmk, Nat.add_assoc]
def Namemc (K m : Nat) : Value := if m % 4 = 0 then .string ⟨(markB (K + m)).toArray⟩ else .int .i64 ((K + m : Nat) : Int)
theorem Namemc0 (K i : Nat) : Namemc K (4 * i) = .string ⟨(markB (K + (4 * i))).toArray⟩ := by
  have h : (4 * i) % 4 = 0 := by omega
  simp [Namemc, h]
theorem Namemc1 (K i : Nat) : Namemc K (4 * i + 1) = .int .i64 ((K + (4 * i + 1) : Nat) : Int) := by
  have h : (4 * i + 1) % 4 = 1 := by omega
  simp [Namemc, h]
theorem Namemc2 (K i : Nat) : Namemc K (4 * i + 2) = .int .i64 ((K + (4 * i + 2) : Nat) : Int) := by
  have h : (4 * i + 2) % 4 = 2 := by omega
  simp [Namemc, h]
theorem Namemc3 (K i : Nat) : Namemc K (4 * i + 3) = .int .i64 ((K + (4 * i + 3) : Nat) : Int) := by
  have h : (4 * i + 3) % 4 = 3 := by omega
  simp [Namemc, h]
def Namemk (K : Nat) : NameD := (⟨⟨(markB (K)).toArray⟩, ((K + 1 : Nat) : Int), ((K + 2 : Nat) : Int), ((K + 3 : Nat) : Int)⟩ : NameD)
theorem Namemk_own (K : Nat) (w : World) (S : Nat → Prop) (h : K ≤ 1099511627776) : NameOwn w S (Namemk K) [.string (Namemk K).text, .int .i64 (Namemk K).slot, .int .i64 (Namemk K).frm, .int .i64 (Namemk K).upto] := ⟨⟨mark_ok _ (by omega), ⟨by simp only [Namemk]; omega, by simp only [Namemk]; omega⟩, ⟨by simp only [Namemk]; omega, by simp only [Namemk]; omega⟩, ⟨by simp only [Namemk]; omega, by simp only [Namemk]; omega⟩⟩, rfl⟩
theorem Namemk_cell (K i j : Nat) (h : j < 4) : some (Namemc K (4 * i + j)) = [.string (Namemk (K + 4 * i)).text, .int .i64 (Namemk (K + 4 * i)).slot, .int .i64 (Namemk (K + 4 * i)).frm, .int .i64 (Namemk (K + 4 * i)).upto][j]? := by
  match j, h with
  | 0, _ => rw [Nat.add_zero, Namemc0]; simp [Namemk]
  | 1, _ => rw [Namemc1]; simp [Namemk, Nat.add_assoc]
  | 2, _ => rw [Namemc2]; simp [Namemk, Nat.add_assoc]
  | 3, _ => rw [Namemc3]; simp [Namemk, Nat.add_assoc]
def Intmc (K m : Nat) : Value := .int .i64 ((K + m : Nat) : Int)
theorem Intmc0 (K i : Nat) : Intmc K (i) = .int .i64 ((K + (i) : Nat) : Int) := by
  rfl
def Intmk (K : Nat) : Int := ((K : Nat) : Int)
theorem Intmk_own (K : Nat) (w : World) (S : Nat → Prop) (h : K ≤ 1099511627776) : IntOwn w S (Intmk K) [.int .i64 (Intmk K)] := ⟨⟨by unfold Intmk; omega, by unfold Intmk; omega⟩, rfl⟩
theorem Intmk_cell (K i j : Nat) (h : j < 1) : some (Intmc K (1 * i + j)) = [.int .i64 (Intmk (K + 1 * i))][j]? := by
  match j, h with
  | 0, _ => rw [Nat.one_mul, Nat.add_zero]; rfl
def Stringmc (K m : Nat) : Value := .string ⟨(markB (K + m)).toArray⟩
theorem Stringmc0 (K i : Nat) : Stringmc K (i) = .string ⟨(markB (K + (i))).toArray⟩ := by
  rfl
def Stringmk (K : Nat) : ByteArray := (⟨(markB (K)).toArray⟩ : ByteArray)
theorem Stringmk_own (K : Nat) (w : World) (S : Nat → Prop) (h : K ≤ 1099511627776) : StrOwn w S (Stringmk K) [.string (Stringmk K)] := ⟨mark_ok _ (by omega), rfl⟩
theorem Stringmk_cell (K i j : Nat) (h : j < 1) : some (Stringmc K (1 * i + j)) = [.string (Stringmk (K + 1 * i))][j]? := by
  match j, h with
  | 0, _ => rw [Nat.one_mul, Nat.add_zero]; rfl
def Valuemc (K m : Nat) : Value := if m % 3 = 2 then .string ⟨(markB (K + m)).toArray⟩ else .int .i64 ((K + m : Nat) : Int)
theorem Valuemc0 (K i : Nat) : Valuemc K (3 * i) = .int .i64 ((K + (3 * i) : Nat) : Int) := by
  have h : (3 * i) % 3 = 0 := by omega
  simp [Valuemc, h]
theorem Valuemc1 (K i : Nat) : Valuemc K (3 * i + 1) = .int .i64 ((K + (3 * i + 1) : Nat) : Int) := by
  have h : (3 * i + 1) % 3 = 1 := by omega
  simp [Valuemc, h]
theorem Valuemc2 (K i : Nat) : Valuemc K (3 * i + 2) = .string ⟨(markB (K + (3 * i + 2))).toArray⟩ := by
  have h : (3 * i + 2) % 3 = 2 := by omega
  simp [Valuemc, h]
def Valuemk (K : Nat) : Vl := (⟨((K : Nat) : Int), ((K + 1 : Nat) : Int), ⟨(markB (K + 2)).toArray⟩⟩ : Vl)
theorem Valuemk_own (K : Nat) (w : World) (S : Nat → Prop) (h : K ≤ 1099511627776) : ValOwn w S (Valuemk K) [.int .i64 (Valuemk K).k, .int .i64 (Valuemk K).n, .string (Valuemk K).s] := ⟨⟨⟨by simp only [Valuemk]; omega, by simp only [Valuemk]; omega, by simp only [Valuemk]; omega, by simp only [Valuemk]; omega, mark_ok _ (by omega)⟩⟩, rfl⟩
theorem Valuemk_cell (K i j : Nat) (h : j < 3) : some (Valuemc K (3 * i + j)) = [.int .i64 (Valuemk (K + 3 * i)).k, .int .i64 (Valuemk (K + 3 * i)).n, .string (Valuemk (K + 3 * i)).s][j]? := by
  match j, h with
  | 0, _ => rw [Nat.add_zero, Valuemc0]; simp [Valuemk]
  | 1, _ => rw [Valuemc1]; simp [Valuemk, Nat.add_assoc]
  | 2, _ => rw [Valuemc2]; simp [Valuemk, Nat.add_assoc]
def Pairmc (K m : Nat) : Value := if m % 6 = 2 ∨ m % 6 = 5 then .string ⟨(markB (K + m)).toArray⟩ else .int .i64 ((K + m : Nat) : Int)
theorem Pairmc0 (K i : Nat) : Pairmc K (6 * i) = .int .i64 ((K + (6 * i) : Nat) : Int) := by
  have h : (6 * i) % 6 = 0 := by omega
  simp [Pairmc, h]
theorem Pairmc1 (K i : Nat) : Pairmc K (6 * i + 1) = .int .i64 ((K + (6 * i + 1) : Nat) : Int) := by
  have h : (6 * i + 1) % 6 = 1 := by omega
  simp [Pairmc, h]
theorem Pairmc2 (K i : Nat) : Pairmc K (6 * i + 2) = .string ⟨(markB (K + (6 * i + 2))).toArray⟩ := by
  have h : (6 * i + 2) % 6 = 2 := by omega
  simp [Pairmc, h]
theorem Pairmc3 (K i : Nat) : Pairmc K (6 * i + 3) = .int .i64 ((K + (6 * i + 3) : Nat) : Int) := by
  have h : (6 * i + 3) % 6 = 3 := by omega
  simp [Pairmc, h]
theorem Pairmc4 (K i : Nat) : Pairmc K (6 * i + 4) = .int .i64 ((K + (6 * i + 4) : Nat) : Int) := by
  have h : (6 * i + 4) % 6 = 4 := by omega
  simp [Pairmc, h]
theorem Pairmc5 (K i : Nat) : Pairmc K (6 * i + 5) = .string ⟨(markB (K + (6 * i + 5))).toArray⟩ := by
  have h : (6 * i + 5) % 6 = 5 := by omega
  simp [Pairmc, h]
def Pairmk (K : Nat) : PairD := (⟨⟨((K : Nat) : Int), ((K + 1 : Nat) : Int), ⟨(markB (K + 2)).toArray⟩⟩, ⟨((K + 3 : Nat) : Int), ((K + 3 + 1 : Nat) : Int), ⟨(markB (K + 3 + 2)).toArray⟩⟩⟩ : PairD)
theorem Pairmk_own (K : Nat) (w : World) (S : Nat → Prop) (h : K ≤ 1099511627776) : PairOwn w S (Pairmk K) [.int .i64 (Pairmk K).key.k, .int .i64 (Pairmk K).key.n, .string (Pairmk K).key.s, .int .i64 (Pairmk K).val.k, .int .i64 (Pairmk K).val.n, .string (Pairmk K).val.s] := ⟨⟨⟨⟨by simp only [Pairmk]; omega, by simp only [Pairmk]; omega, by simp only [Pairmk]; omega, by simp only [Pairmk]; omega, mark_ok _ (by omega)⟩⟩, ⟨⟨by simp only [Pairmk]; omega, by simp only [Pairmk]; omega, by simp only [Pairmk]; omega, by simp only [Pairmk]; omega, mark_ok _ (by omega)⟩⟩⟩, rfl⟩
theorem Pairmk_cell (K i j : Nat) (h : j < 6) : some (Pairmc K (6 * i + j)) = [.int .i64 (Pairmk (K + 6 * i)).key.k, .int .i64 (Pairmk (K + 6 * i)).key.n, .string (Pairmk (K + 6 * i)).key.s, .int .i64 (Pairmk (K + 6 * i)).val.k, .int .i64 (Pairmk (K + 6 * i)).val.n, .string (Pairmk (K + 6 * i)).val.s][j]? := by
  match j, h with
  | 0, _ => rw [Nat.add_zero, Pairmc0]; simp [Pairmk]
  | 1, _ => rw [Pairmc1]; simp [Pairmk, Nat.add_assoc]
  | 2, _ => rw [Pairmc2]; simp [Pairmk, Nat.add_assoc]
  | 3, _ => rw [Pairmc3]; simp [Pairmk, Nat.add_assoc]
  | 4, _ => rw [Pairmc4]; simp [Pairmk, Nat.add_assoc]
  | 5, _ => rw [Pairmc5]; simp [Pairmk, Nat.add_assoc]
end Go.Proofs.Ytgibejgemokljaa
