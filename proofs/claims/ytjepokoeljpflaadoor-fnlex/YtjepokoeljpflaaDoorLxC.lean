/- The lexer's words: names. -/
import Derived.Test.YtjepokoeljpflaaDoorLxB
import Derived.Test.YtjepokoeljpflaaDoorLexK
namespace Go.Proofs.YtjepokoeljpflaaDoor
open Go.RowKit

theorem LxTo.alloc {B c : Nat} {s : ByteArray} {w w' : World} {i ln : Nat} (h : LxTo B c s w w' i ln) (o : Obj) : LxTo B c s w (w'.alloc o) i ln :=
  ⟨⟨h.lx.up, by rw [Below.heap_alloc _ _ _ h.lx.lt]; exact h.lx.row⟩, by_alloc h.by' o⟩
theorem LxTo.other {B c : Nat} {s : ByteArray} {w w' : World} {i ln b : Nat} (h : LxTo B c s w w' i ln) (hb : w.heap.size ≤ b) (hbc : b ≠ c) (j : Nat) (v : Value) : LxTo B c s w (w'.setCell ⟨b, j, none⟩ v) i ln :=
  ⟨⟨h.lx.up, by rw [heap_setCell_other _ _ _ _ (by simpa using Ne.symm hbc)]; exact h.lx.row⟩,
   ⟨h.by'.os, h.by'.tape, h.by'.output, by simpa using h.by'.size, fun k hk hne => by rw [heap_setCell_other _ _ _ _ (by simp; omega)]; exact h.by'.block k hk hne⟩⟩
theorem LxTo.below {B c : Nat} {s : ByteArray} {w w1 w2 : World} {i ln : Nat} (h : LxTo B c s w w1 i ln) (hb : Below w1.heap.size w1 w2) : LxTo B c s w w2 i ln :=
  ⟨h.lx.later hb, by_trans h.by' (by_below hb)⟩
theorem res_kept {w w1 : World} {x : Array Value} {T : TypeId} {c : Nat} (hb : (w.alloc (.cells x T)).grownBy w1 (some c)) (hc : c < w.heap.size) : w1.heap[w.heap.size]? = some (.cells x T (0, 0)) ∧ w.heap.size < w1.heap.size := by
  have h1 : (w.alloc (.cells x T)).heap.size = w.heap.size + 1 := by simp
  exact ⟨by rw [hb.block _ (by omega) (by simp; omega)]; exact heap_alloc_new w _, by have := hb.size; omega⟩

def nameK (t : ByteArray) : Nat := if kwB t = true then 4 else 0
/-- What the lexer's reading of a word answers, held against the plain one. -/
def WordIs (s : ByteArray) (i ln j : Nat) (kd : Int) (tx : ByteArray) (n l : Int) (ok : Bool) : Prop :=
  (ok = true ∧ ∃ t : Tk, tokAt s i ln = some (t, j) ∧ kd = t.kind ∧ tx = t.text ∧ n = t.n ∧ l = t.line) ∨ (ok = false ∧ tokAt s i ln = none)

set_option maxRecDepth 100000 in
set_option maxHeartbeats 4000000 in
theorem name_any (B c : Nat) (s : ByteArray) (i ln : Nat) (w : World) (hL : Lx w B c s i ln) (hi : i < s.size) (hs : s.size ≤ 1048576) :
    Calls Tryd.prog 35 #[.pointer (some ⟨c, 0, none⟩)] w fun e w' => e = .returned (.agg #[.int .i64 (nameK (s.extract i (endp isLD s i)) : Nat), .string (s.extract i (endp isLD s i)), .int .i64 0, .int .i64 ln]) ∧ LxTo B c s w w' (endp isLD s i) ln := by
  have hclt := hL.lt
  have hge := endp_ge isLD s i
  have hle := endp_le isLD s i (by omega)
  obtain ⟨d, hd⟩ : ∃ d, endp isLD s i = i + d := ⟨endp isLD s i - i, by omega⟩
  have HD : Hid (endp isLD s i = i + d) := hd
  have hdd : endp isLD s i - i = d := by omega
  have hT0 := (LxTo.start hL).alloc (.cells #[.int .i64 0, .string ⟨#[]⟩, .int .i64 0, .int .i64 0] 32)
  rw [hd] at hge hle
  have HL : Hid (Lx w B c s i ln) := hL
  have HDD : Hid (endp isLD s i - i = d) := hdd
  clear hL hd hdd
  go_enter Tryd.func35, Tryd.ntmps35
  go_wp2_with fail
  refine (count_any isLD 6 (fun b => (cls_b b).1) B c s i ln _ hT0.lx (by omega) hs).mono ?_
  rintro e w1 ⟨rfl, nn, rfl⟩
  rw [HDD.out]
  have hT1 := hT0.drewN nn
  clear hT0
  go_wp2_with fail
  refine (take_any B c s i ln d _ hT1.lx hle hs).mono ?_
  rintro e w1 ⟨rfl, hLx1, hby1⟩
  have hT2 := hT1.step ⟨hLx1, hby1⟩
  obtain ⟨g0, hz⟩ := res_kept (by_trans (by_drewN (by_refl (w.alloc (.cells #[.int .i64 0, .string ⟨#[]⟩, .int .i64 0, .int .i64 0] 32)) (some c)) nn) hby1) hclt
  have g0_c0 := cell_of_row w1 w.heap.size 0 _ _ (0, 0) g0
  have g0_f0 := frozen_of_row w1 w.heap.size 0 _ _ g0
  have g0_c1 := cell_of_row w1 w.heap.size 1 _ _ (0, 0) g0
  have g0_f1 := frozen_of_row w1 w.heap.size 1 _ _ g0
  have g0_c2 := cell_of_row w1 w.heap.size 2 _ _ (0, 0) g0
  have g0_f2 := frozen_of_row w1 w.heap.size 2 _ _ g0
  have g0_c3 := cell_of_row w1 w.heap.size 3 _ _ (0, 0) g0
  have g0_f3 := frozen_of_row w1 w.heap.size 3 _ _ g0
  simp only [List.getElem?_toArray, List.getElem?_cons_zero, List.getElem?_cons_succ] at g0_c0 g0_c1 g0_c2 g0_c3
  have c2 := hT2.lx.c2
  clear hT1 hLx1 hby1 g0
  go_wp2_with fail
  refine (kw_impl _ _).mono ?_
  rintro e w2 ⟨rfl, rfl⟩
  cases hk : kwB (s.extract i (i + d))
  · have HK : Hid (kwB (s.extract i (i + d)) = false) := hk
    clear hk
    go_wp2_with fail
    exact bodyPost_ret (v := .agg #[.int .i64 0, .string (s.extract i (i + d)), .int .i64 0, .int .i64 ln]) (by simp [results, Tryd.results35, go_sem, *]) rfl ⟨by rw [HD.out]; simp only [nameK, HK.out]; rfl, by rw [HD.out]; exact (((hT2.other (Nat.le_refl _) (by omega) _ _).other (Nat.le_refl _) (by omega) _ _).other (Nat.le_refl _) (by omega) _ _).other (Nat.le_refl _) (by omega) _ _⟩
  · have HK : Hid (kwB (s.extract i (i + d)) = true) := hk
    clear hk
    go_wp2_with fail
    exact bodyPost_ret (v := .agg #[.int .i64 4, .string (s.extract i (i + d)), .int .i64 0, .int .i64 ln]) (by simp [results, Tryd.results35, go_sem, *]) rfl ⟨by rw [HD.out]; simp only [nameK, HK.out]; rfl, by rw [HD.out]; exact (((hT2.other (Nat.le_refl _) (by omega) _ _).other (Nat.le_refl _) (by omega) _ _).other (Nat.le_refl _) (by omega) _ _).other (Nat.le_refl _) (by omega) _ _⟩
end Go.Proofs.YtjepokoeljpflaaDoor
