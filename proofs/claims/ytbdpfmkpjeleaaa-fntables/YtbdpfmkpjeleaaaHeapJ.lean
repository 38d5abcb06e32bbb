/- GetAt: the program's walk. -/
import Derived.Test.YtbdpfmkpjeleaaaHeapI
namespace Go.Proofs.Ytbdpfmkpjeleaaa
open Go.RowKit

theorem findV_mem (k : Vl) (ps : List Pr) (v : Vl) (h : findV k ps = some v) : ∃ m, ∃ hm : m < ps.length, ps[m].val = v := by
  induction ps with
  | nil => simp [findV] at h
  | cons p ps ih =>
    unfold findV at h
    split at h
    · exact ⟨0, by simp, by simpa using h⟩
    · obtain ⟨m, hm, e⟩ := ih h
      exact ⟨m + 1, by simpa using hm, by simpa using e⟩
theorem find_small (k : Vl) (ps : List Pr) (h : ∀ m (hm : m < ps.length), ps[m].Sm) : ((findV k ps).getD nilL).s.size ≤ 1048576 := by
  cases hf : findV k ps with
  | none => decide
  | some v =>
    obtain ⟨m, hm, e⟩ := findV_mem k ps v hf
    have := (h m hm).val
    rw [e] at this
    exact this

set_option maxRecDepth 100000 in
set_option maxHeartbeats 1600000 in
theorem get_impl (h : Hp) (a b : Option Addr) (ca cb lo hi : Nat) (tk tn : Int) (ts : ByteArray) (k n : Int) (s : ByteArray) (w : World) (hh : hi ≤ w.heap.size) (hT : TAt w lo hi h.ts a) (hts : ts.size ≤ 1048576) (hsm : h.Sm) :
    Calls Try.prog 23 #[.agg #[.slice a h.ts.length ca, .slice b h.vs.length cb], .agg #[.int .i64 tk, .int .i64 tn, .string ts], .agg #[.int .i64 k, .int .i64 n, .string s]] w fun e w' => e = .returned (getV h tk tn ts k n s) ∧ Below w.heap.size w w' := by
  obtain ⟨W0, hW0⟩ : ∃ W0, W0 = (((w.alloc (Obj.cells #[.slice a h.ts.length ca, .slice b h.vs.length cb] 30)).alloc (Obj.cells #[.int .i64 tk, .int .i64 tn, .string ts] 32)).alloc (Obj.cells #[.int .i64 k, .int .i64 n, .string s] 32)).alloc (Obj.cells #[.int .i64 0, .int .i64 0, .string ⟨#[]⟩] 32) := ⟨_, rfl⟩
  obtain ⟨rH, rT, rK, rZ, hs0, B0⟩ := rows4 w (Obj.cells #[.slice a h.ts.length ca, .slice b h.vs.length cb] 30) (Obj.cells #[.int .i64 tk, .int .i64 tn, .string ts] 32) (Obj.cells #[.int .i64 k, .int .i64 n, .string s] 32) (Obj.cells #[.int .i64 0, .int .i64 0, .string ⟨#[]⟩] 32)
  rw [← hW0] at rH rT rK rZ hs0 B0
  have h0 := cell_of_row _ _ 0 _ _ _ rH
  have h1 := cell_of_row _ _ 1 _ _ _ rH
  have t0 := cell_of_row _ _ 0 _ _ _ rT
  have t1 := cell_of_row _ _ 1 _ _ _ rT
  have t2 := cell_of_row _ _ 2 _ _ _ rT
  have k0 := cell_of_row _ _ 0 _ _ _ rK
  have k1 := cell_of_row _ _ 1 _ _ _ rK
  have k2 := cell_of_row _ _ 2 _ _ _ rK
  simp only [List.getElem?_toArray, List.getElem?_cons_zero, List.getElem?_cons_succ] at h0 h1 t0 t1 t2 k0 k1 k2
  obtain ⟨f0, f1, f2, c0, c1, c2⟩ := rowZ' rZ
  obtain ⟨tb, htb⟩ : ∃ tb, tabB h.ts.length tk tn = tb := ⟨_, rfl⟩
  have HTB : Hid (∀ W, Calls Try.prog 51 #[.agg #[.slice a h.ts.length ca, .slice b h.vs.length cb], .agg #[.int .i64 tk, .int .i64 tn, .string ts]] W fun e w' => e = .returned (.bool tb) ∧ Below W.heap.size W w') := fun W => htb ▸ has_any a b h.ts.length ca h.vs.length cb tk tn ts W
  have hNl : w.heap.size + 1 + 1 + 1 < W0.heap.size := by omega
  cases tb
  · by_cases h3 : tk = 3
    · subst h3
      obtain ⟨bk, bn, bs, hb⟩ : ∃ bk bn bs, byteV ts k n = .agg #[.int .i64 bk, .int .i64 bn, .string bs] := by
        unfold byteV
        split
        · exact ⟨_, _, _, rfl⟩
        · exact ⟨_, _, _, rfl⟩
      have hv : getV h 3 tn ts k n s = .tuple #[byteV ts k n, .string ⟨#[]⟩] := if_pos rfl
      rw [hb] at hv
      have HV : Hid (getV h 3 tn ts k n s = .tuple #[.agg #[.int .i64 bk, .int .i64 bn, .string bs], .string ⟨#[]⟩]) := hv
      have HBY : Hid (∀ W, Calls Try.prog 55 #[.string ts, datV k n s] W fun e w' => e = .returned (.agg #[.int .i64 bk, .int .i64 bn, .string bs]) ∧ Below W.heap.size W w') := fun W => hb ▸ byte_impl ts k n s W hts
      have ha := fun w => as_text 3 tn ts w
      simp only [if_true] at ha
      clear hv hb htb hT
      go_enter Try.func23, Try.ntmps23
      go_wp2_with fail
      rw [← hW0]
      clear hW0
      refine (HTB.out _).mono ?_
      rintro e w1 ⟨rfl, hb1⟩
      have hs1 := hb1.size
      have B1 := B0.trans (hb1.mono B0.size)
      have rT1 := (hb1.block (w.heap.size + 1) (by omega)).trans rT
      have rK1 := (hb1.block (w.heap.size + 1 + 1) (by omega)).trans rK
      have rZ1 := (hb1.block (w.heap.size + 1 + 1 + 1) (by omega)).trans rZ
      clear h0 h1 t0 t1 t2 k0 k1 k2 f0 f1 f2 c0 c1 c2
      have t0 := cell_of_row _ _ 0 _ _ _ rT1
      have t1 := cell_of_row _ _ 1 _ _ _ rT1
      have t2 := cell_of_row _ _ 2 _ _ _ rT1
      have k0 := cell_of_row _ _ 0 _ _ _ rK1
      have k1 := cell_of_row _ _ 1 _ _ _ rK1
      have k2 := cell_of_row _ _ 2 _ _ _ rK1
      simp only [List.getElem?_toArray, List.getElem?_cons_zero, List.getElem?_cons_succ] at t0 t1 t2 k0 k1 k2
      obtain ⟨f0, f1, f2, c0, c1, c2⟩ := rowZ' rZ1
      go_wp2_with fail
      refine (datum_any 3 tn ts _).mono ?_
      rintro e w2 ⟨rfl, hb2⟩
      have hs2 := hb2.size
      have B2 := B1.trans (hb2.mono B1.size)
      have rT2 := (hb2.block (w.heap.size + 1) (by omega)).trans rT1
      have rK2 := (hb2.block (w.heap.size + 1 + 1) (by omega)).trans rK1
      have rZ2 := (hb2.block (w.heap.size + 1 + 1 + 1) (by omega)).trans rZ1
      clear t0 t1 t2 k0 k1 k2 f0 f1 f2 c0 c1 c2
      have t0 := cell_of_row _ _ 0 _ _ _ rT2
      have t1 := cell_of_row _ _ 1 _ _ _ rT2
      have t2 := cell_of_row _ _ 2 _ _ _ rT2
      have k0 := cell_of_row _ _ 0 _ _ _ rK2
      have k1 := cell_of_row _ _ 1 _ _ _ rK2
      have k2 := cell_of_row _ _ 2 _ _ _ rK2
      simp only [List.getElem?_toArray, List.getElem?_cons_zero, List.getElem?_cons_succ] at t0 t1 t2 k0 k1 k2
      obtain ⟨f0, f1, f2, c0, c1, c2⟩ := rowZ' rZ2
      go_wp2_with fail
      refine (datum_any k n s _).mono ?_
      rintro e w3 ⟨rfl, hb3⟩
      have hs3 := hb3.size
      have B3 := B2.trans (hb3.mono B2.size)
      have rT3 := (hb3.block (w.heap.size + 1) (by omega)).trans rT2
      have rK3 := (hb3.block (w.heap.size + 1 + 1) (by omega)).trans rK2
      have rZ3 := (hb3.block (w.heap.size + 1 + 1 + 1) (by omega)).trans rZ2
      clear t0 t1 t2 k0 k1 k2 f0 f1 f2 c0 c1 c2
      have t0 := cell_of_row _ _ 0 _ _ _ rT3
      have t1 := cell_of_row _ _ 1 _ _ _ rT3
      have t2 := cell_of_row _ _ 2 _ _ _ rT3
      have k0 := cell_of_row _ _ 0 _ _ _ rK3
      have k1 := cell_of_row _ _ 1 _ _ _ rK3
      have k2 := cell_of_row _ _ 2 _ _ _ rK3
      simp only [List.getElem?_toArray, List.getElem?_cons_zero, List.getElem?_cons_succ] at t0 t1 t2 k0 k1 k2
      obtain ⟨f0, f1, f2, c0, c1, c2⟩ := rowZ' rZ3
      go_wp2_with fail
      refine (HBY.out _).mono ?_
      rintro e w4 ⟨rfl, hb4⟩
      have hs4 := hb4.size
      have B4 := B3.trans (hb4.mono B3.size)
      have rT4 := (hb4.block (w.heap.size + 1) (by omega)).trans rT3
      have rK4 := (hb4.block (w.heap.size + 1 + 1) (by omega)).trans rK3
      have rZ4 := (hb4.block (w.heap.size + 1 + 1 + 1) (by omega)).trans rZ3
      clear t0 t1 t2 k0 k1 k2 f0 f1 f2 c0 c1 c2
      have t0 := cell_of_row _ _ 0 _ _ _ rT4
      have t1 := cell_of_row _ _ 1 _ _ _ rT4
      have t2 := cell_of_row _ _ 2 _ _ _ rT4
      have k0 := cell_of_row _ _ 0 _ _ _ rK4
      have k1 := cell_of_row _ _ 1 _ _ _ rK4
      have k2 := cell_of_row _ _ 2 _ _ _ rK4
      simp only [List.getElem?_toArray, List.getElem?_cons_zero, List.getElem?_cons_succ] at t0 t1 t2 k0 k1 k2
      obtain ⟨f0, f1, f2, c0, c1, c2⟩ := rowZ' rZ4
      go_wp2_with fail
      exact bodyPost_ret (v := .tuple #[.agg #[.int .i64 bk, .int .i64 bn, .string bs], .string ⟨#[]⟩]) (by simp [results, Try.results23, go_sem, *]) rfl ⟨ret_val HV.out.symm, by repeat (first | (with_reducible exact B4) | (with_reducible refine Below.setCell ?_ (by show w.heap.size ≤ w.heap.size + 1 + 1 + 1; omega) _))⟩
    · have h3' : (tk == 3) = false := by simpa using h3
      have hv : getV h tk tn ts k n s = .tuple #[nilB, .string wIndex] := by unfold getV; rw [if_neg h3, if_neg (by simp [htb])]
      have HV : Hid (getV h tk tn ts k n s = .tuple #[.agg #[.int .i64 0, .int .i64 0, .string ⟨#[]⟩], .string ⟨#[105, 110, 100, 101, 120]⟩]) := hv
      have ha := fun w => as_text tk tn ts w
      simp only [h3, h3', if_false] at ha
      clear hv htb hT
      go_enter Try.func23, Try.ntmps23
      go_wp2_with fail
      rw [← hW0]
      clear hW0
      refine (HTB.out _).mono ?_
      rintro e w1 ⟨rfl, hb1⟩
      have hs1 := hb1.size
      have B1 := B0.trans (hb1.mono B0.size)
      have rT1 := (hb1.block (w.heap.size + 1) (by omega)).trans rT
      have rK1 := (hb1.block (w.heap.size + 1 + 1) (by omega)).trans rK
      have rZ1 := (hb1.block (w.heap.size + 1 + 1 + 1) (by omega)).trans rZ
      clear h0 h1 t0 t1 t2 k0 k1 k2 f0 f1 f2 c0 c1 c2
      have t0 := cell_of_row _ _ 0 _ _ _ rT1
      have t1 := cell_of_row _ _ 1 _ _ _ rT1
      have t2 := cell_of_row _ _ 2 _ _ _ rT1
      have k0 := cell_of_row _ _ 0 _ _ _ rK1
      have k1 := cell_of_row _ _ 1 _ _ _ rK1
      have k2 := cell_of_row _ _ 2 _ _ _ rK1
      simp only [List.getElem?_toArray, List.getElem?_cons_zero, List.getElem?_cons_succ] at t0 t1 t2 k0 k1 k2
      obtain ⟨f0, f1, f2, c0, c1, c2⟩ := rowZ' rZ1
      go_wp2_with fail
      refine (datum_any tk tn ts _).mono ?_
      rintro e w2 ⟨rfl, hb2⟩
      have hs2 := hb2.size
      have B2 := B1.trans (hb2.mono B1.size)
      have rT2 := (hb2.block (w.heap.size + 1) (by omega)).trans rT1
      have rK2 := (hb2.block (w.heap.size + 1 + 1) (by omega)).trans rK1
      have rZ2 := (hb2.block (w.heap.size + 1 + 1 + 1) (by omega)).trans rZ1
      clear t0 t1 t2 k0 k1 k2 f0 f1 f2 c0 c1 c2
      have t0 := cell_of_row _ _ 0 _ _ _ rT2
      have t1 := cell_of_row _ _ 1 _ _ _ rT2
      have t2 := cell_of_row _ _ 2 _ _ _ rT2
      have k0 := cell_of_row _ _ 0 _ _ _ rK2
      have k1 := cell_of_row _ _ 1 _ _ _ rK2
      have k2 := cell_of_row _ _ 2 _ _ _ rK2
      simp only [List.getElem?_toArray, List.getElem?_cons_zero, List.getElem?_cons_succ] at t0 t1 t2 k0 k1 k2
      obtain ⟨f0, f1, f2, c0, c1, c2⟩ := rowZ' rZ2
      go_wp2_with fail
      exact bodyPost_ret (v := .tuple #[.agg #[.int .i64 0, .int .i64 0, .string ⟨#[]⟩], .string ⟨#[105, 110, 100, 101, 120]⟩]) (by simp [results, Try.results23, go_sem, *]) rfl ⟨ret_val HV.out.symm, by repeat (first | (with_reducible exact B2) | (with_reducible refine Below.setCell ?_ (by show w.heap.size ≤ w.heap.size + 1 + 1 + 1; omega) _))⟩
  · obtain ⟨rfl, hn0, hn1⟩ : tk = 4 ∧ 0 ≤ tn ∧ tn < (h.ts.length : Int) := by simpa [tabB] using htb
    have hv : getV h 4 tn ts k n s = _ := if_neg (by decide)
    rw [if_pos htb] at hv
    obtain ⟨i, rfl⟩ := Int.eq_ofNat_of_zero_le hn0
    have hi1 : i < h.ts.length := by omega
    rw [show ((i : Int)).toNat = i by omega, List.getElem?_eq_getElem hi1] at hv
    obtain ⟨hlt, g, o, pb, pcb, rfl, _, hg, hcell, hP⟩ := hT i hi1
    have hP0 := hP.below B0 hh
    have y0 := (B0.cell (p := ⟨g, o + i, none⟩) (by show g < _; omega)).trans hcell
    have hsmi := hsm.ts i hi1
    obtain ⟨ps, hps⟩ : ∃ ps, ps = h.ts[i] := ⟨_, rfl⟩
    rw [← hps] at hv hlt hP0 y0
    have hsp : ∀ m (hm : m < ps.length), ps[m].Sm := by subst hps; exact hsmi
    have hfsz := find_small ⟨k, n, s⟩ ps hsp
    obtain ⟨⟨fk, fn, fs⟩, hf⟩ : ∃ v, v = (findV ⟨k, n, s⟩ ps).getD nilL := ⟨_, rfl⟩
    rw [← hf] at hfsz
    have HF : Hid (∀ W, Below W0.heap.size W0 W → Calls Try.prog 52 #[.slice pb ps.length pcb, .agg #[.int .i64 k, .int .i64 n, .string s]] W fun e w' => e = .returned (.agg #[.int .i64 fk, .int .i64 fn, .string fs]) ∧ Below W.heap.size W w') := fun W hW => by
      have hx := find_impl ps pb pcb lo hi k n s W (by have := hW.size; omega) hlt (hP0.below hW (by omega))
      have e : ((findV ⟨k, n, s⟩ ps).getD nilL).cs.toArray = #[.int .i64 fk, .int .i64 fn, .string fs] := by rw [← hf]; rfl
      rw [e] at hx
      exact hx
    have HV : Hid (getV h 4 i ts k n s = .tuple #[.agg #[.int .i64 fk, .int .i64 fn, .string fs], .string ⟨#[]⟩]) := by show _ = _; rw [hv]; simp only [Option.getD_some]; rw [← hf]; rfl
    have hgl : g < W0.heap.size := by omega
    have HPA : Hid (∀ W, Calls Try.prog 53 #[.agg #[.slice (some ⟨g, o, none⟩) h.ts.length ca, .slice b h.vs.length cb], .agg #[.int .i64 4, .int .i64 i, .string ts]] W fun e w' => e = .returned (.pointer (some ⟨g, o + i, none⟩)) ∧ Below W.heap.size W w') := fun W => pairs_any g o h.ts.length ca h.vs.length cb i b ts W hi1
    have HCO : Hid (∀ W, Calls Try.prog 43 #[.agg #[.int .i64 fk, .int .i64 fn, .string fs]] W fun e w' => e = .returned (.agg #[.int .i64 fk, .int .i64 fn, .string fs]) ∧ Below W.heap.size W w') := fun W => copied_any fk fn fs W hfsz
    clear hv htb hf hP hP0 hcell hT hps hlt hsmi hsp hfsz
    go_enter Try.func23, Try.ntmps23
    go_wp2_with fail
    rw [← hW0]
    clear hW0
    refine (HTB.out _).mono ?_
    rintro e w1 ⟨rfl, hb1⟩
    have hs1 := hb1.size
    have B1 := B0.trans (hb1.mono B0.size)
    have rZ1 := (hb1.block (w.heap.size + 1 + 1 + 1) (by omega)).trans rZ
    have z0 := (hb1.cell (p := ⟨w.heap.size, 0, none⟩) (by show w.heap.size < _; omega)).trans h0
    have z1 := (hb1.cell (p := ⟨w.heap.size, 1, none⟩) (by show w.heap.size < _; omega)).trans h1
    have z2 := (hb1.cell (p := ⟨w.heap.size + 1, 0, none⟩) (by show w.heap.size + 1 < _; omega)).trans t0
    have z3 := (hb1.cell (p := ⟨w.heap.size + 1, 1, none⟩) (by show w.heap.size + 1 < _; omega)).trans t1
    have z4 := (hb1.cell (p := ⟨w.heap.size + 1, 2, none⟩) (by show w.heap.size + 1 < _; omega)).trans t2
    have z5 := (hb1.cell (p := ⟨g, o + i, none⟩) hgl).trans y0
    have z6 := (hb1.cell (p := ⟨w.heap.size + 1 + 1, 0, none⟩) (by show w.heap.size + 1 + 1 < _; omega)).trans k0
    have z7 := (hb1.cell (p := ⟨w.heap.size + 1 + 1, 1, none⟩) (by show w.heap.size + 1 + 1 < _; omega)).trans k1
    have z8 := (hb1.cell (p := ⟨w.heap.size + 1 + 1, 2, none⟩) (by show w.heap.size + 1 + 1 < _; omega)).trans k2
    have nz : w.heap.size + 1 + 1 + 1 < w1.heap.size := by omega
    clear f0 f1 f2 c0 c1 c2 h0 h1 t0 t1 t2 k0 k1 k2 y0
    have KEEP : Hid (∀ W' : World, Below w1.heap.size w1 W' → (fun w' => w'.cell? ⟨w.heap.size, 0, none⟩ = some (.slice (some ⟨g, o, none⟩) h.ts.length ca) ∧ w'.cell? ⟨w.heap.size, 1, none⟩ = some (.slice b h.vs.length cb) ∧ w'.cell? ⟨w.heap.size + 1, 0, none⟩ = some (.int .i64 4) ∧ w'.cell? ⟨w.heap.size + 1, 1, none⟩ = some (.int .i64 i) ∧ w'.cell? ⟨w.heap.size + 1, 2, none⟩ = some (.string ts) ∧ w'.cell? ⟨g, o + i, none⟩ = some (.slice pb ps.length pcb) ∧ w'.cell? ⟨w.heap.size + 1 + 1, 0, none⟩ = some (.int .i64 k) ∧ w'.cell? ⟨w.heap.size + 1 + 1, 1, none⟩ = some (.int .i64 n) ∧ w'.cell? ⟨w.heap.size + 1 + 1, 2, none⟩ = some (.string s)) W') := fun W' hB => ⟨(hB.cell (p := ⟨w.heap.size, 0, none⟩) (by show w.heap.size < _; omega)).trans z0, (hB.cell (p := ⟨w.heap.size, 1, none⟩) (by show w.heap.size < _; omega)).trans z1, (hB.cell (p := ⟨w.heap.size + 1, 0, none⟩) (by show w.heap.size + 1 < _; omega)).trans z2, (hB.cell (p := ⟨w.heap.size + 1, 1, none⟩) (by show w.heap.size + 1 < _; omega)).trans z3, (hB.cell (p := ⟨w.heap.size + 1, 2, none⟩) (by show w.heap.size + 1 < _; omega)).trans z4, (hB.cell (p := ⟨g, o + i, none⟩) (by show g < _; omega)).trans z5, (hB.cell (p := ⟨w.heap.size + 1 + 1, 0, none⟩) (by show w.heap.size + 1 + 1 < _; omega)).trans z6, (hB.cell (p := ⟨w.heap.size + 1 + 1, 1, none⟩) (by show w.heap.size + 1 + 1 < _; omega)).trans z7, (hB.cell (p := ⟨w.heap.size + 1 + 1, 2, none⟩) (by show w.heap.size + 1 + 1 < _; omega)).trans z8⟩
    have KSET : Hid (∀ (W' : World) (j : Nat) (v : Value), (fun w' => w'.cell? ⟨w.heap.size, 0, none⟩ = some (.slice (some ⟨g, o, none⟩) h.ts.length ca) ∧ w'.cell? ⟨w.heap.size, 1, none⟩ = some (.slice b h.vs.length cb) ∧ w'.cell? ⟨w.heap.size + 1, 0, none⟩ = some (.int .i64 4) ∧ w'.cell? ⟨w.heap.size + 1, 1, none⟩ = some (.int .i64 i) ∧ w'.cell? ⟨w.heap.size + 1, 2, none⟩ = some (.string ts) ∧ w'.cell? ⟨g, o + i, none⟩ = some (.slice pb ps.length pcb) ∧ w'.cell? ⟨w.heap.size + 1 + 1, 0, none⟩ = some (.int .i64 k) ∧ w'.cell? ⟨w.heap.size + 1 + 1, 1, none⟩ = some (.int .i64 n) ∧ w'.cell? ⟨w.heap.size + 1 + 1, 2, none⟩ = some (.string s)) W' → (fun w' => w'.cell? ⟨w.heap.size, 0, none⟩ = some (.slice (some ⟨g, o, none⟩) h.ts.length ca) ∧ w'.cell? ⟨w.heap.size, 1, none⟩ = some (.slice b h.vs.length cb) ∧ w'.cell? ⟨w.heap.size + 1, 0, none⟩ = some (.int .i64 4) ∧ w'.cell? ⟨w.heap.size + 1, 1, none⟩ = some (.int .i64 i) ∧ w'.cell? ⟨w.heap.size + 1, 2, none⟩ = some (.string ts) ∧ w'.cell? ⟨g, o + i, none⟩ = some (.slice pb ps.length pcb) ∧ w'.cell? ⟨w.heap.size + 1 + 1, 0, none⟩ = some (.int .i64 k) ∧ w'.cell? ⟨w.heap.size + 1 + 1, 1, none⟩ = some (.int .i64 n) ∧ w'.cell? ⟨w.heap.size + 1 + 1, 2, none⟩ = some (.string s)) (W'.setCell ⟨w.heap.size + 1 + 1 + 1, j, none⟩ v)) := fun W' j v h => by
      obtain ⟨x0, x1, x2, x3, x4, x5, x6, x7, x8⟩ := h
      have e : ∀ b o, b ≠ w.heap.size + 1 + 1 + 1 → (W'.setCell ⟨w.heap.size + 1 + 1 + 1, j, none⟩ v).cell? ⟨b, o, none⟩ = W'.cell? ⟨b, o, none⟩ := fun b o hne => World.cell?_of_block (w := W') (heap_setCell_other _ _ _ _ hne)
      exact ⟨(e _ _ (by omega)).trans x0, (e _ _ (by omega)).trans x1, (e _ _ (by omega)).trans x2, (e _ _ (by omega)).trans x3, (e _ _ (by omega)).trans x4, (e _ _ (by omega)).trans x5, (e _ _ (by omega)).trans x6, (e _ _ (by omega)).trans x7, (e _ _ (by omega)).trans x8⟩
    clear z0 z1 z2 z3 z4 z5 z6 z7 z8
    have hq0 : Below w1.heap.size w1 w1.drew := (Below.refl _ _).drew
    go_wp2_with fail
    go_region_held3 (fun w' => w'.cell? ⟨w.heap.size, 0, none⟩ = some (.slice (some ⟨g, o, none⟩) h.ts.length ca) ∧ w'.cell? ⟨w.heap.size, 1, none⟩ = some (.slice b h.vs.length cb) ∧ w'.cell? ⟨w.heap.size + 1, 0, none⟩ = some (.int .i64 4) ∧ w'.cell? ⟨w.heap.size + 1, 1, none⟩ = some (.int .i64 i) ∧ w'.cell? ⟨w.heap.size + 1, 2, none⟩ = some (.string ts) ∧ w'.cell? ⟨g, o + i, none⟩ = some (.slice pb ps.length pcb) ∧ w'.cell? ⟨w.heap.size + 1 + 1, 0, none⟩ = some (.int .i64 k) ∧ w'.cell? ⟨w.heap.size + 1 + 1, 1, none⟩ = some (.int .i64 n) ∧ w'.cell? ⟨w.heap.size + 1 + 1, 2, none⟩ = some (.string s)) (first | (with_reducible assumption) | (with_reducible exact KEEP.out _ hq0) | (with_reducible exact KEEP.out _ hq') | (with_reducible exact KSET.out _ _ _ (KSET.out _ _ _ (KSET.out _ _ _ (by assumption))))) (first | (go_at_call 53; refine (HPA.out _).mono ?_; rintro e w' ⟨rfl, hb'⟩; have hq' := hq0.trans hb'; obtain ⟨f0', f1', f2', c0', c1', c2'⟩ := rowZ' ((hq'.block (w.heap.size + 1 + 1 + 1) nz).trans rZ1)) | (go_at_call 52; refine (HF.out _ (hb1.trans (hq'.mono hb1.size))).mono ?_; rintro e w' ⟨rfl, hb'⟩; have hq' := hq'.trans (hb'.mono hq'.size); obtain ⟨f0', f1', f2', c0', c1', c2'⟩ := rowZ' ((hq'.block (w.heap.size + 1 + 1 + 1) nz).trans rZ1)) | (go_at_call 43; refine (HCO.out _).mono ?_; rintro e w' ⟨rfl, hb'⟩; have hq' := hq'.trans (hb'.mono hq'.size); obtain ⟨f0', f1', f2', c0', c1', c2'⟩ := rowZ' ((hq'.block (w.heap.size + 1 + 1 + 1) nz).trans rZ1)))
    have BQ : Below w.heap.size w w' := B1.trans (hq'.mono B1.size)
    go_wp2_with fail
    exact bodyPost_ret (v := .tuple #[.agg #[.int .i64 fk, .int .i64 fn, .string fs], .string ⟨#[]⟩]) (by simp [results, Try.results23, go_sem, *]) rfl ⟨ret_val HV.out.symm, by repeat (first | (with_reducible exact BQ) | (with_reducible refine Below.drew ?_) | (with_reducible refine Below.setCell ?_ (by show w.heap.size ≤ w.heap.size + 1 + 1 + 1; omega) _))⟩
end Go.Proofs.Ytbdpfmkpjeleaaa
