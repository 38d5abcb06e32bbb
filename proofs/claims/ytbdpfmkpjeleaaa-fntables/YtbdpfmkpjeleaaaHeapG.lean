/- What stands at a key: the specification's look. -/
import Derived.Test.YtbdpfmkpjeleaaaHeapE
import Derived.Test.YtbdpfmkpjeleaaaInW
import Derived.Test.YtbdpfmkpjeleaaaShelf
namespace Go.Proofs.Ytbdpfmkpjeleaaa
open Go.RowKit

def Vl.beq (a b : Vl) : Bool := decide (a.k = b.k) && decide (a.n = b.n) && (a.s.toList == b.s.toList)
def nilL : Vl := ⟨0, 0, ⟨#[]⟩⟩
def findV (k : Vl) : List Pr → Option Vl
  | [] => none
  | p :: ps => if p.key.beq k = true then some p.val else findV k ps
theorem findV_drop (k : Vl) (ps : List Pr) (i : Nat) (h : i < ps.length) : findV k (ps.drop i) = if ps[i].key.beq k = true then some ps[i].val else findV k (ps.drop (i + 1)) := by
  rw [List.drop_eq_getElem_cons h]; rfl

theorem bytes_eq {a b : ByteArray} (h : a.toList = b.toList) : a = b := by
  rw [ByteArray.toList_eq, ByteArray.toList_eq] at h
  cases a; cases b
  simpa using h
theorem beq_cases (a : Vl) (k n : Int) (s : ByteArray) : (a.beq ⟨k, n, s⟩ = true ∧ a = ⟨k, n, s⟩) ∨ (a.beq ⟨k, n, s⟩ = false ∧ (a.k ≠ k ∨ (a.k = k ∧ a.n ≠ n) ∨ (a.k = k ∧ a.n = n ∧ (a.s.toList == s.toList) = false))) := by
  obtain ⟨k', n', s'⟩ := a
  by_cases h1 : k' = k
  · subst h1
    by_cases h2 : n' = n
    · subst h2
      by_cases h3 : (s'.toList == s.toList) = true
      · have : s' = s := bytes_eq (by simpa using h3)
        subst this
        exact .inl ⟨by simp [Vl.beq], rfl⟩
      · exact .inr ⟨by simp only [Bool.not_eq_true] at h3; simp [Vl.beq, h3], .inr (.inr ⟨rfl, rfl, by simpa using h3⟩)⟩
    · exact .inr ⟨by simp [Vl.beq, h2], .inr (.inl ⟨rfl, h2⟩)⟩
  · exact .inr ⟨by simp [Vl.beq, h1], .inl h1⟩
theorem rows2 (w : World) (A B : Obj) : ((w.alloc A).alloc B).heap[w.heap.size]? = some A ∧ ((w.alloc A).alloc B).heap[w.heap.size + 1]? = some B ∧ ((w.alloc A).alloc B).heap.size = w.heap.size + 2 ∧ Below w.heap.size w ((w.alloc A).alloc B) := by
  have s1 := size_alloc w A
  refine ⟨?_, ?_, by simp, ((Below.refl _ _).alloc (Nat.le_refl _) _).alloc (by simp) _⟩
  · rw [Below.heap_alloc _ _ _ (by omega)]; exact heap_alloc_new w A
  · have := heap_alloc_new (w.alloc A) B
    rwa [s1] at this
theorem rowZ' {w : World} {b : Nat} {T : TypeId} (r : w.heap[b]? = some (.cells #[.int .i64 0, .int .i64 0, .string ⟨#[]⟩] T (0, 0))) :
    w.frozen? ⟨b, 0, none⟩ = false ∧ w.frozen? ⟨b, 1, none⟩ = false ∧ w.frozen? ⟨b, 2, none⟩ = false ∧ w.cell? ⟨b, 0, none⟩ = some (.int .i64 0) ∧ w.cell? ⟨b, 1, none⟩ = some (.int .i64 0) ∧ w.cell? ⟨b, 2, none⟩ = some (.string ⟨#[]⟩) :=
  ⟨frozen_of_row _ _ _ _ _ r, frozen_of_row _ _ _ _ _ r, frozen_of_row _ _ _ _ _ r, cell_of_row _ _ _ _ _ _ r, cell_of_row _ _ _ _ _ _ r, cell_of_row _ _ _ _ _ _ r⟩
set_option maxRecDepth 100000 in
set_option maxHeartbeats 1600000 in
theorem find_spec (ps : List Pr) (a : Option Addr) (ca lo hi : Nat) (k n : Int) (s : ByteArray) (w : World) (hh : hi ≤ w.heap.size) (hn : ps.length ≤ maxLen) (hS : PAt w lo hi ps a) :
    Calls Try.prog 58 #[.slice a ps.length ca, .agg #[.int .i64 k, .int .i64 n, .string s]] w fun e w' => e = .returned (.tuple #[.agg ((findV ⟨k, n, s⟩ ps).getD nilL).cs.toArray, .bool (findV ⟨k, n, s⟩ ps).isSome]) ∧ Below w.heap.size w w' := by
  unfold maxLen at hn
  go_enter Try.func58, Try.ntmps58
  go_wp2_with fail
  obtain ⟨W0, hW0⟩ : ∃ W0, W0 = (w.alloc (Obj.cells #[.int .i64 k, .int .i64 n, .string s] 32)).alloc (Obj.cells #[.int .i64 0, .int .i64 0, .string ⟨#[]⟩] 32) := ⟨_, rfl⟩
  obtain ⟨rK, rR, hs0, B0⟩ := rows2 w (Obj.cells #[.int .i64 k, .int .i64 n, .string s] 32) (Obj.cells #[.int .i64 0, .int .i64 0, .string ⟨#[]⟩] 32)
  rw [← hW0] at rK rR hs0 B0 ⊢
  clear hW0
  go_loopw [6] (fun x wr => ∃ i : Nat, x = .int .i64 i ∧ i ≤ ps.length ∧ findV ⟨k, n, s⟩ (ps.drop i) = findV ⟨k, n, s⟩ ps ∧ Below W0.heap.size W0 wr) (fun x _ => ps.length - (intOf x).toNat)
  case atStart => exact ⟨0, rfl, Nat.zero_le _, rfl, Below.refl _ _⟩
  case round =>
    obtain ⟨i, rfl, hil, hfd, hbl⟩ := hrel
    have hszw := hbl.size
    have rK1 := (hbl.block w.heap.size (by omega)).trans rK
    have rR1 := (hbl.block (w.heap.size + 1) (by omega)).trans rR
    have k0 := cell_of_row _ _ 0 _ _ _ rK1
    have k1 := cell_of_row _ _ 1 _ _ _ rK1
    have k2 := cell_of_row _ _ 2 _ _ _ rK1
    simp only [List.getElem?_toArray, List.getElem?_cons_zero, List.getElem?_cons_succ] at k0 k1 k2
    obtain ⟨f0, f1, f2, c0, c1, c2⟩ := rowZ' rR1
    have BW := B0.trans (hbl.mono B0.size)
    have nN : w.heap.size < wr.heap.size := by omega
    have nR : w.heap.size + 1 < wr.heap.size := by omega
    clear rK1 rR1 rK rR
    by_cases hlt : i < ps.length
    · obtain ⟨_, g, o, rfl, _, hg, hc⟩ := hS i hlt
      have hfs := findV_drop ⟨k, n, s⟩ ps i hlt
      have x0 := (BW.cell (p := ⟨g, o + 6 * i + 0, none⟩) (by show g < _; omega)).trans (hc 0 (by decide))
      have x1 := (BW.cell (p := ⟨g, o + 6 * i + 1, none⟩) (by show g < _; omega)).trans (hc 1 (by decide))
      have x2 := (BW.cell (p := ⟨g, o + 6 * i + 2, none⟩) (by show g < _; omega)).trans (hc 2 (by decide))
      have x3 := (BW.cell (p := ⟨g, o + 6 * i + 3, none⟩) (by show g < _; omega)).trans (hc 3 (by decide))
      have x4 := (BW.cell (p := ⟨g, o + 6 * i + 4, none⟩) (by show g < _; omega)).trans (hc 4 (by decide))
      have x5 := (BW.cell (p := ⟨g, o + 6 * i + 5, none⟩) (by show g < _; omega)).trans (hc 5 (by decide))
      simp only [Pr.cs, List.getElem?_cons_zero, List.getElem?_cons_succ, Nat.add_zero] at x0 x1 x2 x3 x4 x5
      have mc : i * 6 = 6 * i := Nat.mul_comm _ _
      clear hc hS
      generalize ps[i] = p at *
      obtain ⟨pk, ⟨vk, vn, vs⟩⟩ := p
      dsimp only at x0 x1 x2 x3 x4 x5 hfs
      rcases beq_cases pk k n s with ⟨hb, rfl⟩ | ⟨hb, hne⟩
      · have HF : Hid (findV ⟨k, n, s⟩ ps = some ⟨vk, vn, vs⟩) := by show _ = _; rw [← hfd, hfs, if_pos hb]
        clear hfd hfs hb
        dsimp only at x0 x1 x2
        go_wp2_with fail
        go_region
        go_wp2_with fail
        all_goals
          exact bodyPost_ret (v := .tuple #[.agg #[.int .i64 vk, .int .i64 vn, .string vs], .bool true]) (by simp [results, Try.results58, go_sem, *]) rfl ⟨ret_val (by rw [HF.out]; rfl), by repeat (first | (with_reducible exact BW) | (with_reducible refine Below.drew ?_) | (with_reducible refine Below.alloc ?_ (by simp <;> omega) _) | (with_reducible refine Below.setCell ?_ (by simp <;> omega) _))⟩

      · have HF : Hid (findV ⟨k, n, s⟩ (ps.drop (i + 1)) = findV ⟨k, n, s⟩ ps) := by show _ = _; rw [← hfd, hfs, if_neg (by simp [hb])]
        clear hfd hfs hb
        rcases hne with h1 | ⟨h1, h2⟩ | ⟨h1, h2, h3⟩
        all_goals
          go_wp2_with fail
          go_region
          go_wp2_with fail
          go_roundw
          case rel => exact ⟨i + 1, by go_num, by omega, HF.out, hbl.drew⟩
          case measure => simp [intOf]; omega
    · obtain rfl : i = ps.length := by omega
      have HF : Hid (findV ⟨k, n, s⟩ ps = none) := by show _ = _; rw [← hfd, List.drop_length]; rfl
      clear hS hfd
      go_wp2_with fail
      exact bodyPost_ret (v := .tuple #[.agg #[.int .i64 0, .int .i64 0, .string ⟨#[]⟩], .bool false]) (by simp [results, Try.results58, go_sem, *]) rfl ⟨ret_val (by rw [HF.out]; rfl), by repeat (first | (with_reducible exact BW) | (with_reducible refine Below.drew ?_) | (with_reducible refine Below.alloc ?_ (by simp <;> omega) _) | (with_reducible refine Below.setCell ?_ (by simp <;> omega) _))⟩
set_option maxRecDepth 100000 in
set_option maxHeartbeats 1600000 in
theorem find_impl (ps : List Pr) (a : Option Addr) (ca lo hi : Nat) (k n : Int) (s : ByteArray) (w : World) (hh : hi ≤ w.heap.size) (hn : ps.length ≤ maxLen) (hS : PAt w lo hi ps a) :
    Calls Try.prog 52 #[.slice a ps.length ca, .agg #[.int .i64 k, .int .i64 n, .string s]] w fun e w' => e = .returned (.agg ((findV ⟨k, n, s⟩ ps).getD nilL).cs.toArray) ∧ Below w.heap.size w w' := by
  unfold maxLen at hn
  go_enter Try.func52, Try.ntmps52
  go_wp2_with fail
  obtain ⟨W0, hW0⟩ : ∃ W0, W0 = (w.alloc (Obj.cells #[.int .i64 k, .int .i64 n, .string s] 32)).alloc (Obj.cells #[.int .i64 0, .int .i64 0, .string ⟨#[]⟩] 32) := ⟨_, rfl⟩
  obtain ⟨rK, rR, hs0, B0⟩ := rows2 w (Obj.cells #[.int .i64 k, .int .i64 n, .string s] 32) (Obj.cells #[.int .i64 0, .int .i64 0, .string ⟨#[]⟩] 32)
  rw [← hW0] at rK rR hs0 B0 ⊢
  clear hW0
  go_loopw [9] (fun x wr => ∃ i : Nat, x = .int .i64 i ∧ i ≤ ps.length ∧ findV ⟨k, n, s⟩ (ps.drop i) = findV ⟨k, n, s⟩ ps ∧ Below W0.heap.size W0 wr) (fun x _ => ps.length - (intOf x).toNat)
  case atStart => exact ⟨0, rfl, Nat.zero_le _, rfl, Below.refl _ _⟩
  case round =>
    obtain ⟨i, rfl, hil, hfd, hbl⟩ := hrel
    have hszw := hbl.size
    have rK1 := (hbl.block w.heap.size (by omega)).trans rK
    have rR1 := (hbl.block (w.heap.size + 1) (by omega)).trans rR
    have k0 := cell_of_row _ _ 0 _ _ _ rK1
    have k1 := cell_of_row _ _ 1 _ _ _ rK1
    have k2 := cell_of_row _ _ 2 _ _ _ rK1
    simp only [List.getElem?_toArray, List.getElem?_cons_zero, List.getElem?_cons_succ] at k0 k1 k2
    obtain ⟨f0, f1, f2, c0, c1, c2⟩ := rowZ' rR1
    have BW := B0.trans (hbl.mono B0.size)
    have nN : w.heap.size < wr.heap.size := by omega
    have nR : w.heap.size + 1 < wr.heap.size := by omega
    clear rK1 rR1 rK rR
    by_cases hlt : i < ps.length
    · obtain ⟨_, g, o, rfl, _, hg, hc⟩ := hS i hlt
      have hfs := findV_drop ⟨k, n, s⟩ ps i hlt
      have x0 := (BW.cell (p := ⟨g, o + 6 * i + 0, none⟩) (by show g < _; omega)).trans (hc 0 (by decide))
      have x1 := (BW.cell (p := ⟨g, o + 6 * i + 1, none⟩) (by show g < _; omega)).trans (hc 1 (by decide))
      have x2 := (BW.cell (p := ⟨g, o + 6 * i + 2, none⟩) (by show g < _; omega)).trans (hc 2 (by decide))
      have x3 := (BW.cell (p := ⟨g, o + 6 * i + 3, none⟩) (by show g < _; omega)).trans (hc 3 (by decide))
      have x4 := (BW.cell (p := ⟨g, o + 6 * i + 4, none⟩) (by show g < _; omega)).trans (hc 4 (by decide))
      have x5 := (BW.cell (p := ⟨g, o + 6 * i + 5, none⟩) (by show g < _; omega)).trans (hc 5 (by decide))
      simp only [Pr.cs, List.getElem?_cons_zero, List.getElem?_cons_succ, Nat.add_zero] at x0 x1 x2 x3 x4 x5
      have mc : i * 6 = 6 * i := Nat.mul_comm _ _
      clear hc hS
      generalize ps[i] = p at *
      obtain ⟨pk, ⟨vk, vn, vs⟩⟩ := p
      dsimp only at x0 x1 x2 x3 x4 x5 hfs
      rcases beq_cases pk k n s with ⟨hb, rfl⟩ | ⟨hb, hne⟩
      · have HF : Hid (findV ⟨k, n, s⟩ ps = some ⟨vk, vn, vs⟩) := by show _ = _; rw [← hfd, hfs, if_pos hb]
        clear hfd hfs hb
        dsimp only at x0 x1 x2
        go_wp2_with fail
        all_goals
          exact bodyPost_ret (v := .agg #[.int .i64 vk, .int .i64 vn, .string vs]) (by simp [results, Try.results52, go_sem, *]) rfl ⟨ret_val (by rw [HF.out]; rfl), by repeat (first | (with_reducible exact BW) | (with_reducible refine Below.drew ?_) | (with_reducible refine Below.alloc ?_ (by simp <;> omega) _) | (with_reducible refine Below.setCell ?_ (by simp <;> omega) _))⟩

      · have HF : Hid (findV ⟨k, n, s⟩ (ps.drop (i + 1)) = findV ⟨k, n, s⟩ ps) := by show _ = _; rw [← hfd, hfs, if_neg (by simp [hb])]
        clear hfd hfs hb
        rcases hne with h1 | ⟨h1, h2⟩ | ⟨h1, h2, h3⟩
        all_goals
          go_wp2_with fail
          go_roundw
          case rel => exact ⟨i + 1, by go_num, by omega, HF.out, (hbl.alloc hbl.size _)⟩
          case measure => simp [intOf]; omega
    · obtain rfl : i = ps.length := by omega
      have HF : Hid (findV ⟨k, n, s⟩ ps = none) := by show _ = _; rw [← hfd, List.drop_length]; rfl
      clear hS hfd
      go_wp2_with fail
      exact bodyPost_ret (v := .agg #[.int .i64 0, .int .i64 0, .string ⟨#[]⟩]) (by simp [results, Try.results52, go_sem, *]) rfl ⟨ret_val (by rw [HF.out]; rfl), by repeat (first | (with_reducible exact BW) | (with_reducible refine Below.drew ?_) | (with_reducible refine Below.alloc ?_ (by simp <;> omega) _) | (with_reducible refine Below.setCell ?_ (by simp <;> omega) _))⟩

set_option maxRecDepth 100000 in
theorem clone_any (s : ByteArray) (w : World) (hs : s.size ≤ 1048576) : Calls Try.prog 75 #[.string s] w fun e w' => e = .returned (.string s) ∧ Below w.heap.size w w' := by
  go_enter Try.func75, Try.ntmps75
  go_wp2_with fail
  refine (Try.stringslite_Clone s _ (by omega)).mono ?_
  rintro e w1 ⟨rfl, hb⟩
  go_wp2_with fail
  go_ret
  exact ⟨rfl, hb⟩
set_option maxRecDepth 100000 in
set_option maxHeartbeats 800000 in
theorem copied_any (k n : Int) (s : ByteArray) (w : World) (hs : s.size ≤ 1048576) :
    Calls Try.prog 43 #[.agg #[.int .i64 k, .int .i64 n, .string s]] w fun e w' => e = .returned (.agg #[.int .i64 k, .int .i64 n, .string s]) ∧ Below w.heap.size w w' := by
  obtain ⟨rA, rB, hs0, B0⟩ := rows2 w (Obj.cells #[.int .i64 k, .int .i64 n, .string s] 32) (Obj.cells #[.int .i64 0, .int .i64 0, .string ⟨#[]⟩] 32)
  go_enter Try.func43, Try.ntmps43
  go_wp2_with fail
  refine (clone_any s _ hs).mono ?_
  rintro e w1 ⟨rfl, hb1⟩
  have rA1 := (hb1.block w.heap.size (by rw [hs0]; omega)).trans rA
  have rB1 := (hb1.block (w.heap.size + 1) (by rw [hs0]; omega)).trans rB
  have hs1 := hb1.size
  rw [hs0] at hs1
  have BW : Below w.heap.size w w1 := B0.trans (hb1.mono (by rw [hs0]; omega))
  have k0 := cell_of_row _ _ 0 _ _ _ rA1
  have k1 := cell_of_row _ _ 1 _ _ _ rA1
  have k2 := cell_of_row _ _ 2 _ _ _ rA1
  simp only [List.getElem?_toArray, List.getElem?_cons_zero, List.getElem?_cons_succ] at k0 k1 k2
  have q0 := frozen_of_row _ _ 0 _ _ rA1
  have q1 := frozen_of_row _ _ 1 _ _ rA1
  have q2 := frozen_of_row _ _ 2 _ _ rA1
  obtain ⟨f0, f1, f2, c0, c1, c2⟩ := rowZ' rB1
  clear rA rB rA1 rB1 hb1 B0 hs0
  go_wp2_with fail
  exact bodyPost_ret (v := .agg #[.int .i64 k, .int .i64 n, .string s]) (by simp [results, Try.results43, go_sem, *]) rfl ⟨rfl, by repeat (first | (with_reducible exact BW) | (with_reducible refine Below.setCell ?_ (by simp <;> omega) _))⟩
end Go.Proofs.Ytbdpfmkpjeleaaa
