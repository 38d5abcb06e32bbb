/- GetAt: both functions' walks, one answer. -/
import Derived.Test.YtbdpfmkpjeleaaaHeapH
namespace Go.Proofs.Ytbdpfmkpjeleaaa
open Go.RowKit

theorem rows4 (w : World) (A B C D : Obj) : ((((w.alloc A).alloc B).alloc C).alloc D).heap[w.heap.size]? = some A ∧ ((((w.alloc A).alloc B).alloc C).alloc D).heap[w.heap.size + 1]? = some B ∧ ((((w.alloc A).alloc B).alloc C).alloc D).heap[w.heap.size + 1 + 1]? = some C ∧ ((((w.alloc A).alloc B).alloc C).alloc D).heap[w.heap.size + 1 + 1 + 1]? = some D ∧ ((((w.alloc A).alloc B).alloc C).alloc D).heap.size = w.heap.size + 4 ∧ Below w.heap.size w ((((w.alloc A).alloc B).alloc C).alloc D) := by
  obtain ⟨h1, h2, h3, h4, h5⟩ := rows3 w A B C
  have hn := heap_alloc_new (((w.alloc A).alloc B).alloc C) D
  rw [h4] at hn
  exact ⟨(Below.heap_alloc _ _ _ (by omega)).trans h1, (Below.heap_alloc _ _ _ (by omega)).trans h2, (Below.heap_alloc _ _ _ (by omega)).trans h3, hn, by rw [size_alloc, h4], h5.alloc h5.size _⟩

def wIndex : ByteArray := ⟨#[105, 110, 100, 101, 120]⟩
/-- The answer of GetAt. -/
def getV (h : Hp) (tk tn : Int) (ts : ByteArray) (k n : Int) (s : ByteArray) : Value :=
  if tk = 3 then .tuple #[byteV ts k n, .string ⟨#[]⟩] else
  if tabB h.ts.length tk tn = true then .tuple #[.agg ((findV ⟨k, n, s⟩ (h.ts[tn.toNat]?.getD [])).getD nilL).cs.toArray, .string ⟨#[]⟩] else .tuple #[nilB, .string wIndex]

set_option maxRecDepth 100000 in
set_option maxHeartbeats 1600000 in
theorem get_spec (h : Hp) (a b : Option Addr) (ca cb lo hi : Nat) (tk tn : Int) (ts : ByteArray) (k n : Int) (s : ByteArray) (w : World) (hh : hi ≤ w.heap.size) (hT : TAt w lo hi h.ts a) (hl : h.ts.length ≤ maxLen) (hts : ts.size ≤ 1048576) :
    Calls Try.prog 24 #[.agg #[.slice a h.ts.length ca, .slice b h.vs.length cb], .agg #[.int .i64 tk, .int .i64 tn, .string ts], .agg #[.int .i64 k, .int .i64 n, .string s]] w fun e w' => e = .returned (getV h tk tn ts k n s) ∧ Below w.heap.size w w' := by
  obtain ⟨W0, hW0⟩ : ∃ W0, W0 = (((w.alloc (Obj.cells #[.slice a h.ts.length ca, .slice b h.vs.length cb] 30)).alloc (Obj.cells #[.int .i64 tk, .int .i64 tn, .string ts] 32)).alloc (Obj.cells #[.int .i64 k, .int .i64 n, .string s] 32)).alloc (Obj.cells #[.int .i64 0, .int .i64 0, .string ⟨#[]⟩] 32) := ⟨_, rfl⟩
  obtain ⟨rH, rT, rK, rZ, hs0, B0⟩ := rows4 w (Obj.cells #[.slice a h.ts.length ca, .slice b h.vs.length cb] 30) (Obj.cells #[.int .i64 tk, .int .i64 tn, .string ts] 32) (Obj.cells #[.int .i64 k, .int .i64 n, .string s] 32) (Obj.cells #[.int .i64 0, .int .i64 0, .string ⟨#[]⟩] 32)
  rw [← hW0] at rH rT rK rZ hs0 B0
  have h0 := cell_of_row _ _ 0 _ _ _ rH
  have h1 := cell_of_row _ _ 1 _ _ _ rH
  have t0 := cell_of_row _ _ 0 _ _ _ rT
  have t1 := cell_of_row _ _ 1 _ _ _ rT
  have t2 := cell_of_row _ _ 2 _ _ _ rT
  have k0 := cell_of_row _ _ 0 _ _ _ rK
  have k1 := cell_of_row _ _ 1 _ _ _ rK
  have k2 := cell_of_row _ _ 2 _ _ _ rK
  simp only [List.getElem?_toArray, List.getElem?_cons_zero, List.getElem?_cons_succ] at h0 h1 t0 t1 t2 k0 k1 k2
  obtain ⟨f0, f1, f2, c0, c1, c2⟩ := rowZ' rZ
  unfold maxLen at hl
  by_cases h3 : tk = 3
  · subst h3
    have hv : getV h 3 tn ts k n s = .tuple #[byteV ts k n, .string ⟨#[]⟩] := if_pos rfl
    by_cases hk : k = 2
    · subst hk
      by_cases hi' : 1 ≤ n ∧ n ≤ (ts.size : Int)
      · obtain ⟨m, rfl⟩ : ∃ m : Nat, n = (m : Int) + 1 := ⟨n.toNat - 1, by omega⟩
        have hb : byteV ts 2 ((m : Int) + 1) = .agg #[.int .i64 3, .int .i64 0, .string (ts.extract m (m + 1))] := by
          unfold byteV
          rw [if_pos ⟨rfl, hi'.1, hi'.2⟩, show ((m : Int) + 1).toNat = m + 1 by omega, show m + 1 - 1 = m by omega]
        rw [hb] at hv
        have HV : Hid (getV h 3 tn ts 2 ((m : Int) + 1) s = .tuple #[.agg #[.int .i64 3, .int .i64 0, .string (ts.extract m (m + 1))], .string ⟨#[]⟩]) := hv
        clear hv hb
        go_enter Try.func24, Try.ntmps24
        go_wp2_with fail
        rw [← hW0]
        clear hW0
        refine (in_yes _ _ _ _ (by omega)).mono ?_
        rintro e w' ⟨rfl, rfl⟩
        go_wp2_with fail
        refine (textS_any _ _).mono ?_
        rintro e w1 ⟨rfl, hb1⟩
        have hs1 := hb1.size
        have rZ1 := (hb1.block (w.heap.size + 1 + 1 + 1) (by omega)).trans rZ
        have B1 := B0.trans (hb1.mono B0.size)
        clear f0 f1 f2 c0 c1 c2
        obtain ⟨f0, f1, f2, c0, c1, c2⟩ := rowZ' rZ1
        go_wp2_with fail
        exact bodyPost_ret (v := .tuple #[.agg #[.int .i64 3, .int .i64 0, .string (ts.extract m (m + 1))], .string ⟨#[]⟩]) (by simp [results, Try.results24, go_sem, *]) rfl ⟨ret_val HV.out.symm, by repeat (first | exact B0 | exact B1 | refine Below.drew ?_ | refine Below.alloc ?_ (by have := B0.size; simp <;> omega) _ | refine Below.setCell ?_ (by simp <;> omega) _)⟩
      · have hb : byteV ts 2 n = nilB := if_neg (fun h => hi' h.2)
        rw [hb] at hv
        have HV : Hid (getV h 3 tn ts 2 n s = .tuple #[.agg #[.int .i64 0, .int .i64 0, .string ⟨#[]⟩], .string ⟨#[]⟩]) := hv
        clear hv hb
        go_enter Try.func24, Try.ntmps24
        go_wp2_with fail
        rw [← hW0]
        clear hW0
        refine (in_no _ _ _ _ (by omega)).mono ?_
        rintro e w' ⟨rfl, rfl⟩
        go_wp2_with fail
        exact bodyPost_ret (v := .tuple #[.agg #[.int .i64 0, .int .i64 0, .string ⟨#[]⟩], .string ⟨#[]⟩]) (by simp [results, Try.results24, go_sem, *]) rfl ⟨ret_val HV.out.symm, by repeat (first | exact B0 | exact B1 | refine Below.drew ?_ | refine Below.alloc ?_ (by have := B0.size; simp <;> omega) _ | refine Below.setCell ?_ (by simp <;> omega) _)⟩
    · have hk' : (k == 2) = false := by simpa using hk
      have hb : byteV ts k n = nilB := if_neg (fun h => hk h.1)
      rw [hb] at hv
      have HV : Hid (getV h 3 tn ts k n s = .tuple #[.agg #[.int .i64 0, .int .i64 0, .string ⟨#[]⟩], .string ⟨#[]⟩]) := hv
      clear hv hb
      go_enter Try.func24, Try.ntmps24
      go_wp2_with fail
      rw [← hW0]
      clear hW0
      exact bodyPost_ret (v := .tuple #[.agg #[.int .i64 0, .int .i64 0, .string ⟨#[]⟩], .string ⟨#[]⟩]) (by simp [results, Try.results24, go_sem, *]) rfl ⟨ret_val HV.out.symm, by repeat (first | exact B0 | exact B1 | refine Below.drew ?_ | refine Below.alloc ?_ (by have := B0.size; simp <;> omega) _ | refine Below.setCell ?_ (by simp <;> omega) _)⟩
  · have h3' : (tk == 3) = false := by simpa using h3
    obtain ⟨tb, htb⟩ : ∃ tb, tabB h.ts.length tk tn = tb := ⟨_, rfl⟩
    have hv : getV h tk tn ts k n s = _ := if_neg h3
    rw [htb] at hv
    have HTB : Hid (∀ W, Calls Try.prog 49 #[.agg #[.slice a h.ts.length ca, .slice b h.vs.length cb], .agg #[.int .i64 tk, .int .i64 tn, .string ts]] W fun e w' => e = .returned (.bool tb) ∧ Below W.heap.size W w') := fun W => htb ▸ table_spec a b h.ts.length ca h.vs.length cb tk tn ts W (by unfold maxLen; omega)
    cases tb
    · have HV : Hid (getV h tk tn ts k n s = .tuple #[.agg #[.int .i64 0, .int .i64 0, .string ⟨#[]⟩], .string ⟨#[105, 110, 100, 101, 120]⟩]) := hv
      clear hv htb
      go_enter Try.func24, Try.ntmps24
      go_wp2_with fail
      rw [← hW0]
      clear hW0
      refine (HTB.out _).mono ?_
      rintro e w1 ⟨rfl, hb1⟩
      have hs1 := hb1.size
      have rZ1 := (hb1.block (w.heap.size + 1 + 1 + 1) (by omega)).trans rZ
      have B1 := B0.trans (hb1.mono B0.size)
      clear f0 f1 f2 c0 c1 c2
      obtain ⟨f0, f1, f2, c0, c1, c2⟩ := rowZ' rZ1
      go_wp2_with fail
      exact bodyPost_ret (v := .tuple #[.agg #[.int .i64 0, .int .i64 0, .string ⟨#[]⟩], .string ⟨#[105, 110, 100, 101, 120]⟩]) (by simp [results, Try.results24, go_sem, *]) rfl ⟨ret_val HV.out.symm, by repeat (first | exact B0 | exact B1 | refine Below.drew ?_ | refine Below.alloc ?_ (by have := B0.size; simp <;> omega) _ | refine Below.setCell ?_ (by simp <;> omega) _)⟩
    · rw [if_pos rfl] at hv
      obtain ⟨rfl, hn0, hn1⟩ : tk = 4 ∧ 0 ≤ tn ∧ tn < (h.ts.length : Int) := by simpa [tabB] using htb
      obtain ⟨i, rfl⟩ := Int.eq_ofNat_of_zero_le hn0
      have hi1 : i < h.ts.length := by omega
      rw [show ((i : Int)).toNat = i by omega, List.getElem?_eq_getElem hi1] at hv
      obtain ⟨hlt, g, o, pb, pcb, rfl, _, hg, hcell, hP⟩ := hT i hi1
      have hP0 := hP.below B0 hh
      have y0 := (B0.cell (p := ⟨g, o + i, none⟩) (by show g < _; omega)).trans hcell
      obtain ⟨ps, hps⟩ : ∃ ps, ps = h.ts[i] := ⟨_, rfl⟩
      rw [← hps] at hv hlt hP0 y0
      obtain ⟨⟨fk, fn, fs⟩, hf⟩ : ∃ v, v = (findV ⟨k, n, s⟩ ps).getD nilL := ⟨_, rfl⟩
      have HF : Hid (∀ W, Below W0.heap.size W0 W → Calls Try.prog 58 #[.slice pb ps.length pcb, .agg #[.int .i64 k, .int .i64 n, .string s]] W fun e w' => e = .returned (.tuple #[.agg #[.int .i64 fk, .int .i64 fn, .string fs], .bool (findV ⟨k, n, s⟩ ps).isSome]) ∧ Below W.heap.size W w') := fun W hW => by
        have hx := find_spec ps pb pcb lo hi k n s W (by have := hW.size; omega) hlt (hP0.below hW (by omega))
        have e : ((findV ⟨k, n, s⟩ ps).getD nilL).cs.toArray = #[.int .i64 fk, .int .i64 fn, .string fs] := by rw [← hf]; rfl
        rw [e] at hx
        exact hx
      have HV : Hid (getV h 4 i ts k n s = .tuple #[.agg #[.int .i64 fk, .int .i64 fn, .string fs], .string ⟨#[]⟩]) := by show _ = _; rw [hv]; simp only [Option.getD_some]; rw [← hf]; rfl
      generalize (findV ⟨k, n, s⟩ ps).isSome = fb at HF
      have hgl : g < W0.heap.size := by omega
      have hNl : w.heap.size + 1 + 1 + 1 < W0.heap.size := by omega
      have i0 : (0 : Int) ≤ (i : Int) := by omega
      have i1 : (i : Int) < (h.ts.length : Int) := by omega
      clear hv htb hf hP hP0 hcell hT hps hlt
      go_enter Try.func24, Try.ntmps24
      go_wp2_with fail
      rw [← hW0]
      clear hW0
      refine (HTB.out _).mono ?_
      rintro e w1 ⟨rfl, hb1⟩
      have hs1 := hb1.size
      have rZ1 := (hb1.block (w.heap.size + 1 + 1 + 1) (by omega)).trans rZ
      have B1 := B0.trans (hb1.mono B0.size)
      have z0 := (hb1.cell (p := ⟨w.heap.size, 0, none⟩) (by show w.heap.size < _; omega)).trans h0
      have z1 := (hb1.cell (p := ⟨w.heap.size + 1, 1, none⟩) (by show w.heap.size + 1 < _; omega)).trans t1
      have z2 := (hb1.cell (p := ⟨g, o + i, none⟩) hgl).trans y0
      have z3 := (hb1.cell (p := ⟨w.heap.size + 1 + 1, 0, none⟩) (by show w.heap.size + 1 + 1 < _; omega)).trans k0
      have z4 := (hb1.cell (p := ⟨w.heap.size + 1 + 1, 1, none⟩) (by show w.heap.size + 1 + 1 < _; omega)).trans k1
      have z5 := (hb1.cell (p := ⟨w.heap.size + 1 + 1, 2, none⟩) (by show w.heap.size + 1 + 1 < _; omega)).trans k2
      clear f0 f1 f2 c0 c1 c2 h0 h1 t0 t1 t2 k0 k1 k2 y0
      have q0 : w1.cell? ⟨w.heap.size, 0, none⟩ = some (.slice (some ⟨g, o, none⟩) h.ts.length ca) := z0
      have q1 : w1.cell? ⟨w.heap.size + 1, 1, none⟩ = some (.int .i64 i) := z1
      have q2 : w1.cell? ⟨g, o + i, none⟩ = some (.slice pb ps.length pcb) := z2
      have q3 : w1.cell? ⟨w.heap.size + 1 + 1, 0, none⟩ = some (.int .i64 k) := z3
      have q4 : w1.cell? ⟨w.heap.size + 1 + 1, 1, none⟩ = some (.int .i64 n) := z4
      have q5 : w1.cell? ⟨w.heap.size + 1 + 1, 2, none⟩ = some (.string s) := z5
      have KEEP : Hid (∀ W' : World, Below w1.heap.size w1 W' → (fun w' => Below w1.heap.size w1 w' ∧ w'.cell? ⟨w.heap.size, 0, none⟩ = some (.slice (some ⟨g, o, none⟩) h.ts.length ca) ∧ w'.cell? ⟨w.heap.size + 1, 1, none⟩ = some (.int .i64 i) ∧ w'.cell? ⟨g, o + i, none⟩ = some (.slice pb ps.length pcb) ∧ w'.cell? ⟨w.heap.size + 1 + 1, 0, none⟩ = some (.int .i64 k) ∧ w'.cell? ⟨w.heap.size + 1 + 1, 1, none⟩ = some (.int .i64 n) ∧ w'.cell? ⟨w.heap.size + 1 + 1, 2, none⟩ = some (.string s)) W') := fun W' hB => ⟨hB, (hB.cell (p := ⟨w.heap.size, 0, none⟩) (by show w.heap.size < _; omega)).trans q0, (hB.cell (p := ⟨w.heap.size + 1, 1, none⟩) (by show w.heap.size + 1 < _; omega)).trans q1, (hB.cell (p := ⟨g, o + i, none⟩) (by show g < _; omega)).trans q2, (hB.cell (p := ⟨w.heap.size + 1 + 1, 0, none⟩) (by show w.heap.size + 1 + 1 < _; omega)).trans q3, (hB.cell (p := ⟨w.heap.size + 1 + 1, 1, none⟩) (by show w.heap.size + 1 + 1 < _; omega)).trans q4, (hB.cell (p := ⟨w.heap.size + 1 + 1, 2, none⟩) (by show w.heap.size + 1 + 1 < _; omega)).trans q5⟩
      have hq0 : Below w1.heap.size w1 w1.drew := (Below.refl _ _).drew
      clear q0 q1 q2 q3 q4 q5
      obtain ⟨f0, f1, f2, c0, c1, c2⟩ := rowZ' rZ1
      have nz : w.heap.size + 1 + 1 + 1 < w1.heap.size := by omega
      clear z0 z1 z2 z3 z4 z5
      go_wp2_with fail
      go_region_held3 (fun w' => Below w1.heap.size w1 w' ∧ w'.cell? ⟨w.heap.size, 0, none⟩ = some (.slice (some ⟨g, o, none⟩) h.ts.length ca) ∧ w'.cell? ⟨w.heap.size + 1, 1, none⟩ = some (.int .i64 i) ∧ w'.cell? ⟨g, o + i, none⟩ = some (.slice pb ps.length pcb) ∧ w'.cell? ⟨w.heap.size + 1 + 1, 0, none⟩ = some (.int .i64 k) ∧ w'.cell? ⟨w.heap.size + 1 + 1, 1, none⟩ = some (.int .i64 n) ∧ w'.cell? ⟨w.heap.size + 1 + 1, 2, none⟩ = some (.string s)) (first | assumption | exact KEEP.out _ (by assumption) | exact KEEP.out _ (bel_al (by assumption) _) | exact KEEP.out _ (bel_s3 (by assumption) (by first | exact bel_sz (by assumption) | omega)) | exact KEEP.out _ (by repeat (first | assumption | exact bel_dr (by assumption) | refine Below.setCell ?_ (by omega) _ | refine Below.alloc ?_ (by omega) _))) (first | (go_at_call 58; refine (HF.out _ (by repeat (first | exact hb1 | refine Below.drew ?_ | refine Below.alloc ?_ (by first | omega | (simp; omega)) _))).mono ?_; rintro e w' ⟨rfl, hb'⟩; have hq' := bel_step (by assumption) hb'; obtain ⟨hc', hf'⟩ := bcell hb'; have ht' := fun (b : Nat) h => Nat.lt_of_lt_of_le (n := b) h hb'.size; (first | (have hu' := fun (b : Nat) h => ht' b (hu' b h)) | (have hu' := ht')); (first | (have hzc' := zc_b hzc' hb') | (have hzc' := zc_first hb') | (have hzc' := zc_first' hb') | skip); have hs' := hb'.size; (try simp at hs')))
      all_goals
        obtain ⟨f0', f1', f2', c0', c1', c2'⟩ := rowZ' ((hq'.block (w.heap.size + 1 + 1 + 1) nz).trans rZ1)
        have nz1 : w.heap.size + 1 + 1 + 1 < w'.heap.size := by have := hq'.size; omega
        have nz2 : w.heap.size + 1 + 1 + 1 ≠ w1.heap.size := by omega
        have BQ : Below w.heap.size w w' := B1.trans (hq'.mono B1.size)
        clear f0 f1 f2 c0 c1 c2
        go_wp2_with fail
        exact bodyPost_ret (v := .tuple #[.agg #[.int .i64 fk, .int .i64 fn, .string fs], .string ⟨#[]⟩]) (by simp [results, Try.results24, go_sem, *]) rfl ⟨ret_val HV.out.symm, by repeat (first | (with_reducible exact BQ) | (with_reducible refine Below.drew ?_) | (with_reducible refine Below.alloc ?_ (by have := BQ.size; first | omega | (simp; omega)) _) | (with_reducible refine Below.setCell ?_ (by have := B1.size; first | (show w.heap.size ≤ w.heap.size + 1 + 1 + 1; omega) | (show w.heap.size ≤ w1.heap.size; omega)) _))⟩
end Go.Proofs.Ytbdpfmkpjeleaaa
