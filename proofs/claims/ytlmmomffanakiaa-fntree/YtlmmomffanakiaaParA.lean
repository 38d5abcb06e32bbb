/- Words that are read from a place on: the reader's state, and its small questions. -/
import Derived.Test.YtlmmomffanakiaaTreeP
import Derived.Test.YtlmmomffanakiaaJmA
import Derived.Deep.RegionHeld
namespace Go.Proofs.Ytlmmomffanakiaa
open Go.RowKit

structure PS (w : World) (c : Nat) (la : Option Addr) (cap : Nat) (L : List Tk) (i : Nat) (bad : Bool) : Prop where
  row : w.heap[c]? = some (.cells #[.slice la L.length cap, .int .i64 i, .bool bad] 75 (0, 0))
  toks : ∀ j (h : j < L.length), ∃ g, la = some ⟨g, 0, none⟩ ∧ g < c ∧ ∀ m, m < 4 → w.cell? ⟨g, 4 * j + m, none⟩ = L[j].cells[m]?
  le : i ≤ L.length
  len : L.length ≤ 4000
  txt : ∀ t ∈ L, t.text.size ≤ 4000 ∧ t.n ≤ 999999999999
theorem PS.lt {w : World} {c : Nat} {la : Option Addr} {cap : Nat} {L : List Tk} {i : Nat} {bad : Bool} (h : PS w c la cap L i bad) : c < w.heap.size := (Array.getElem?_eq_some_iff.1 h.row).1
theorem PS.below {w w' : World} {c : Nat} {la : Option Addr} {cap : Nat} {L : List Tk} {i : Nat} {bad : Bool} (h : PS w c la cap L i bad) (hb : Below w.heap.size w w') : PS w' c la cap L i bad :=
  ⟨(hb.block c h.lt).trans h.row, fun j hj => by
    obtain ⟨g, e, hg, hc⟩ := h.toks j hj
    exact ⟨g, e, hg, fun m hm => (hb.cell (p := ⟨g, 4 * j + m, none⟩) (by have := h.lt; show g < _; omega)).trans (hc m hm)⟩, h.le, h.len, h.txt⟩
theorem PS.c0 {w : World} {c : Nat} {la : Option Addr} {cap : Nat} {L : List Tk} {i : Nat} {bad : Bool} (h : PS w c la cap L i bad) : w.cell? ⟨c, 0, none⟩ = some (.slice la L.length cap) := cell_of_row _ _ 0 _ _ _ h.row
theorem PS.c1 {w : World} {c : Nat} {la : Option Addr} {cap : Nat} {L : List Tk} {i : Nat} {bad : Bool} (h : PS w c la cap L i bad) : w.cell? ⟨c, 1, none⟩ = some (.int .i64 i) := cell_of_row _ _ 1 _ _ _ h.row
theorem PS.c2 {w : World} {c : Nat} {la : Option Addr} {cap : Nat} {L : List Tk} {i : Nat} {bad : Bool} (h : PS w c la cap L i bad) : w.cell? ⟨c, 2, none⟩ = some (.bool bad) := cell_of_row _ _ 2 _ _ _ h.row
theorem PS.f {w : World} {c : Nat} {la : Option Addr} {cap : Nat} {L : List Tk} {i : Nat} {bad : Bool} (h : PS w c la cap L i bad) (j : Nat) : w.frozen? ⟨c, j, none⟩ = false := frozen_of_row _ _ j _ _ h.row
theorem PS.set {w : World} {c : Nat} {la : Option Addr} {cap : Nat} {L : List Tk} {i : Nat} {bad : Bool} (h : PS w c la cap L i bad) (k : Nat) (v : Value) (i' : Nat) (bad' : Bool) (hi : i' ≤ L.length)
    (hr : (#[.slice la L.length cap, .int .i64 i, .bool bad] : Array Value).setIfInBounds k v = #[.slice la L.length cap, .int .i64 i', .bool bad']) : PS (w.setCell ⟨c, k, none⟩ v) c la cap L i' bad' :=
  ⟨by rw [heap_setCell_same _ _ _ _ _ _ h.row, hr], fun j hj => by
    obtain ⟨g, e, hg, hc⟩ := h.toks j hj
    exact ⟨g, e, hg, fun m hm => (World.cell?_of_block (w := w) (heap_setCell_other w _ g v (by show g ≠ c; omega))).trans (hc m hm)⟩, hi, h.len, h.txt⟩
theorem PS.bad! {w : World} {c : Nat} {la : Option Addr} {cap : Nat} {L : List Tk} {i : Nat} {bad : Bool} (h : PS w c la cap L i bad) : PS (w.setCell ⟨c, 2, none⟩ (.bool true)) c la cap L i true := h.set 2 _ i true h.le rfl
theorem PS.next {w : World} {c : Nat} {la : Option Addr} {cap : Nat} {L : List Tk} {i : Nat} {bad : Bool} (h : PS w c la cap L i bad) (z : Int) (i' : Nat) (hz : z = i') (hi : i' ≤ L.length) : PS (w.setCell ⟨c, 1, none⟩ (.int .i64 z)) c la cap L i' bad := h.set 1 _ i' bad hi (by subst hz; rfl)
theorem pg_trans {a b c : World} {row : Option Nat} (h : a.grownBy b row) (k : b.grownBy c row) : a.grownBy c row :=
  ⟨k.os.trans h.os, k.tape.trans h.tape, k.output.trans h.output, Nat.le_trans h.size k.size, fun i hi hne => (k.block i (Nat.lt_of_lt_of_le hi h.size) hne).trans (h.block i hi hne)⟩
theorem pg_set (w : World) (c j : Nat) (v : Value) : w.grownBy (w.setCell ⟨c, j, none⟩ v) (some c) :=
  ⟨rfl, rfl, rfl, by simp, fun k _ hne => heap_setCell_other w ⟨c, j, none⟩ k v (fun e => hne (by rw [e]))⟩
theorem pg_below {w w' : World} {row : Option Nat} (h : Below w.heap.size w w') : w.grownBy w' row := ⟨h.os, h.tape, h.output, h.size, fun k hk _ => h.block k hk⟩
theorem pg_drew {a w : World} {row : Option Nat} (h : a.grownBy w row) : a.grownBy w.drew row := ⟨h.os, h.tape, h.output, h.size, h.block⟩
theorem PS.drew {w : World} {c : Nat} {la : Option Addr} {cap : Nat} {L : List Tk} {i : Nat} {bad : Bool} (h : PS w c la cap L i bad) : PS w.drew c la cap L i bad := ⟨h.row, h.toks, h.le, h.len, h.txt⟩
theorem pg_refl (w : World) (row : Option Nat) : w.grownBy w row := ⟨rfl, rfl, rfl, Nat.le_refl _, fun _ _ _ => rfl⟩

set_option maxRecDepth 100000 in
set_option maxHeartbeats 800000 in
theorem is_any (c : Nat) (la : Option Addr) (cap : Nat) (L : List Tk) (i : Nat) (bad : Bool) (text : ByteArray) (w : World) (h : PS w c la cap L i bad) :
    Calls Try.prog 56 #[.pointer (some ⟨c, 0, none⟩), .string text] w fun e w' => (∃ b, e = .returned (.bool b) ∧ (b = true → bad = false ∧ i < L.length)) ∧ Below w.heap.size w w' := by
  have p0 := h.c0
  have p1 := h.c1
  have p2 := h.c2
  have hle := h.le
  have hlen := h.len
  cases bad
  · by_cases hi : i < L.length
    · obtain ⟨g, rfl, hg, hc⟩ := h.toks i hi
      have x0 := hc 0 (by decide)
      have x1 := hc 1 (by decide)
      have x2 := hc 2 (by decide)
      have x3 := hc 3 (by decide)
      simp only [Tk.cells, List.getElem?_cons_zero, List.getElem?_cons_succ, Nat.add_zero] at x0 x1 x2 x3
      have m4 : i * 4 = 4 * i := Nat.mul_comm _ _
      have hcw := h.lt
      clear hc h
      generalize L[i] = t at *
      have al := bel_alloc w (.cells #[.int .i64 0, .string ⟨#[]⟩, .int .i64 0, .int .i64 0] 70)
      have q0 := (al.cell (p := ⟨c, 0, none⟩) hcw).trans p0
      have q1 := (al.cell (p := ⟨c, 1, none⟩) hcw).trans p1
      have gw : g < w.heap.size := by omega
      have y0 := (al.cell (p := ⟨g, 4 * i, none⟩) gw).trans x0
      have y1 := (al.cell (p := ⟨g, 4 * i + 1, none⟩) gw).trans x1
      have y2 := (al.cell (p := ⟨g, 4 * i + 2, none⟩) gw).trans x2
      have y3 := (al.cell (p := ⟨g, 4 * i + 3, none⟩) gw).trans x3
      go_enter Try.func56, Try.ntmps56
      go_wp2_with fail
      go_region
      go_wp2_with fail
      go_region
      go_wp2_with fail
      all_goals
        go_ret
        exact ⟨⟨_, rfl, fun _ => ⟨by simp, hi⟩⟩, by (repeat (first | exact Below.refl _ _ | refine Below.setCell ?_ (by simp) _ | refine Below.alloc ?_ (by simp) _ | apply Below.drew))⟩
    · clear h
      go_enter Try.func56, Try.ntmps56
      go_wp2_with fail
      go_region
      go_wp2_with fail
      go_ret
      exact ⟨⟨false, rfl, fun h => by cases h⟩, (Below.refl _ _).drew⟩
  · clear h
    go_enter Try.func56, Try.ntmps56
    go_wp2_with fail
    go_region
    go_wp2_with fail
    go_ret
    exact ⟨⟨false, rfl, fun h => by cases h⟩, (Below.refl _ _).drew⟩

def Took (L : List Tk) (i : Nat) (bad : Bool) (i' : Nat) (bad' : Bool) : Prop := (bad = false ∧ bad' = false ∧ i < L.length ∧ i' = i + 1) ∨ (bad' = true ∧ i' = i)

set_option maxRecDepth 100000 in
set_option maxHeartbeats 800000 in
theorem take_any (c : Nat) (la : Option Addr) (cap : Nat) (L : List Tk) (i : Nat) (bad : Bool) (text : ByteArray) (w : World) (h : PS w c la cap L i bad) :
    Calls Try.prog 66 #[.pointer (some ⟨c, 0, none⟩), .string text] w fun e w' => e = .returned (.tuple #[]) ∧ ∃ i' bad', PS w' c la cap L i' bad' ∧ Took L i bad i' bad' ∧ w.grownBy w' (some c) := by
  have hlen := h.len
  go_enter Try.func66, Try.ntmps66
  go_wp2_with fail
  refine (is_any c la cap L i bad text _ h).mono ?_
  rintro e w1 ⟨⟨b, rfl, hb⟩, hb1⟩
  have h1 := h.below hb1
  have p1 := h1.c1
  have p2 := h1.c2
  have f1 := h1.f 1
  have f2 := h1.f 2
  cases b
  · go_wp2_with fail
    refine bodyPost_end (results_none rfl _ _ _) rfl ?_
    exact ⟨rfl, i, true, h1.bad!, Or.inr ⟨rfl, rfl⟩, pg_trans (pg_below hb1) (pg_set _ _ _ _)⟩
  · obtain ⟨rfl, hi⟩ := hb rfl
    go_wp2_with fail
    refine bodyPost_end (results_none rfl _ _ _) rfl ?_
    exact ⟨rfl, i + 1, false, h1.next _ (i + 1) (by omega) (by omega), Or.inl ⟨rfl, rfl, hi, rfl⟩, pg_trans (pg_below hb1) (pg_set _ _ _ _)⟩

set_option maxRecDepth 100000 in
set_option maxHeartbeats 800000 in
theorem kind_any (c : Nat) (la : Option Addr) (cap : Nat) (L : List Tk) (i : Nat) (bad : Bool) (k : Int) (w : World) (h : PS w c la cap L i bad) :
    Calls Try.prog 55 #[.pointer (some ⟨c, 0, none⟩), .int .i64 k] w fun e w' => (∃ b, e = .returned (.bool b) ∧ (b = true → bad = false ∧ i < L.length)) ∧ Below w.heap.size w w' := by
  have p0 := h.c0
  have p1 := h.c1
  have p2 := h.c2
  have hle := h.le
  have hlen := h.len
  cases bad
  · by_cases hi : i < L.length
    · obtain ⟨g, rfl, hg, hc⟩ := h.toks i hi
      have x0 := hc 0 (by decide)
      simp only [Tk.cells, List.getElem?_cons_zero, Nat.add_zero] at x0
      have m4 : i * 4 = 4 * i := Nat.mul_comm _ _
      clear hc h
      generalize L[i] = t at *
      go_enter Try.func55, Try.ntmps55
      go_wp2_with fail
      go_region
      go_wp2_with fail
      go_ret
      exact ⟨⟨_, rfl, fun _ => ⟨by simp, hi⟩⟩, (Below.refl _ _).drew⟩
    · clear h
      go_enter Try.func55, Try.ntmps55
      go_wp2_with fail
      go_region
      go_wp2_with fail
      go_ret
      exact ⟨⟨false, rfl, fun h => by cases h⟩, (Below.refl _ _).drew⟩
  · clear h
    go_enter Try.func55, Try.ntmps55
    go_wp2_with fail
    go_region
    go_wp2_with fail
    go_ret
    exact ⟨⟨false, rfl, fun h => by cases h⟩, (Below.refl _ _).drew⟩

set_option maxRecDepth 100000 in
set_option maxHeartbeats 800000 in
theorem name_any (c : Nat) (la : Option Addr) (cap : Nat) (L : List Tk) (i : Nat) (bad : Bool) (w : World) (h : PS w c la cap L i bad) :
    Calls Try.prog 73 #[.pointer (some ⟨c, 0, none⟩)] w fun e w' => (∃ s : ByteArray, e = .returned (.string s) ∧ s.size ≤ 4000) ∧ ∃ i' bad', PS w' c la cap L i' bad' ∧ Took L i bad i' bad' ∧ w.grownBy w' (some c) := by
  have hlen := h.len
  go_enter Try.func73, Try.ntmps73
  go_wp2_with fail
  refine (kind_any c la cap L i bad 0 _ h).mono ?_
  rintro e w1 ⟨⟨b, rfl, hb⟩, hb1⟩
  have h1 := h.below hb1
  have p0 := h1.c0
  have p1 := h1.c1
  have p2 := h1.c2
  have f1 := h1.f 1
  have f2 := h1.f 2
  cases b
  · go_wp2_with fail
    go_ret
    exact ⟨⟨_, rfl, by decide⟩, i, true, h1.bad!, Or.inr ⟨rfl, rfl⟩, pg_trans (pg_below hb1) (pg_set _ _ _ _)⟩
  · obtain ⟨rfl, hi⟩ := hb rfl
    obtain ⟨g, rfl, hg, hc⟩ := h1.toks i hi
    have x1 := hc 1 (by decide)
    simp only [Tk.cells, List.getElem?_cons_zero, List.getElem?_cons_succ] at x1
    have hx := (h.txt _ (List.getElem_mem hi)).1
    have m4 : i * 4 = 4 * i := Nat.mul_comm _ _
    have hN : ∀ z : Int, z = (i + 1 : Nat) → PS (w1.setCell ⟨c, 1, none⟩ (.int .i64 z)) c (some ⟨g, 0, none⟩) cap L (i + 1) false := fun z hz => h1.next z (i + 1) hz (by omega)
    have n0 := (hN ((i : Int) + 1) (by omega)).c0
    have n1 := (hN ((i : Int) + 1) (by omega)).c1
    have y1 := (World.cell?_of_block (w := w1) (a := ⟨g, 4 * i + 1, none⟩) (heap_setCell_other w1 ⟨c, 1, none⟩ g (.int .i64 ((i : Int) + 1)) (by show g ≠ c; omega))).trans x1
    clear hc
    generalize L[i] = t at *
    go_wp2_with fail
    go_region
    go_wp2_with fail
    go_ret
    exact ⟨⟨_, rfl, hx⟩, i + 1, false, (hN _ (by omega)).drew, Or.inl ⟨rfl, rfl, hi, rfl⟩, pg_trans (pg_below hb1) (pg_drew (pg_set _ _ _ _))⟩

set_option maxRecDepth 100000 in
set_option maxHeartbeats 800000 in
theorem line_any (c : Nat) (la : Option Addr) (cap : Nat) (L : List Tk) (i : Nat) (bad : Bool) (w : World) (h : PS w c la cap L i bad) :
    Calls Try.prog 45 #[.pointer (some ⟨c, 0, none⟩)] w fun e w' => (∃ z : Int, e = .returned (.int .i64 z)) ∧ Below w.heap.size w w' := by
  have p0 := h.c0
  have p1 := h.c1
  have hle := h.le
  have hlen := h.len
  by_cases hi : i < L.length
  · obtain ⟨g, rfl, hg, hc⟩ := h.toks i hi
    have x3 := hc 3 (by decide)
    simp only [Tk.cells, List.getElem?_cons_zero, List.getElem?_cons_succ] at x3
    have m4 : i * 4 = 4 * i := Nat.mul_comm _ _
    clear hc h
    generalize L[i] = t at *
    go_enter Try.func45, Try.ntmps45
    go_wp2_with fail
    go_region
    go_wp2_with fail
    go_region
    go_wp2_with fail
    go_ret
    exact ⟨⟨_, rfl⟩, by (repeat (first | exact Below.refl _ _ | apply Below.drew))⟩
  · by_cases h0 : 0 < L.length
    · obtain ⟨g, rfl, hg, hc⟩ := h.toks (L.length - 1) (by omega)
      have x3 := hc 3 (by decide)
      simp only [Tk.cells, List.getElem?_cons_zero, List.getElem?_cons_succ] at x3
      rw [Nat.mul_comm 4] at x3
      clear hc h
      generalize L[L.length - 1] = t at *
      go_enter Try.func45, Try.ntmps45
      go_wp2_with fail
      go_region
      go_wp2_with fail
      go_region
      go_wp2_with fail
      go_ret
      exact ⟨⟨_, rfl⟩, by (repeat (first | exact Below.refl _ _ | apply Below.drew))⟩
    · clear h
      go_enter Try.func45, Try.ntmps45
      go_wp2_with fail
      go_region
      go_wp2_with fail
      go_ret
      exact ⟨⟨_, rfl⟩, by (repeat (first | exact Below.refl _ _ | apply Below.drew))⟩
end Go.Proofs.Ytlmmomffanakiaa
