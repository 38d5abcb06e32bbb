/- The walk of FnTables: it returns true. -/
import Derived.Test.YtbdpfmkpjeleaaaGaABC
import Derived.Test.YtbdpfmkpjeleaaaBigSame
import Derived.Test.YtbdpfmkpjeleaaaHeapJ
import Derived.Test.YtbdpfmkpjeleaaaHeapKN
import Derived.Test.YtbdpfmkpjeleaaaValHQ
import Derived.Test.YtbdpfmkpjeleaaaPutDEF
import Derived.BigQuiet
namespace Go.Proofs.Ytbdpfmkpjeleaaa
open Go.RowKit

theorem rows1 (w : World) (A : Obj) : (w.alloc A).heap[w.heap.size]? = some A ∧ (w.alloc A).heap.size = w.heap.size + 1 ∧ Below w.heap.size w (w.alloc A) := ⟨heap_alloc_new _ _, by simp, bel_alloc _ _⟩
theorem row_lt {w : World} {b : Nat} {o : Obj} (hh : w.heap[b]? = some o) : b < w.heap.size := (Array.getElem?_eq_some_iff.1 hh).1
theorem bel_drewN (w : World) (n : Nat) : Below w.heap.size w (w.drewN n) := ⟨rfl, rfl, rfl, Nat.le_refl _, fun _ _ => rfl⟩
theorem getV_form (h : Hp) (tk tn : Int) (ts : ByteArray) (k n : Int) (s : ByteArray) : ∃ a b c u, getV h tk tn ts k n s = .tuple #[.agg #[.int .i64 a, .int .i64 b, .string c], .string u] := by
  unfold getV
  split
  · unfold byteV; split <;> exact ⟨_, _, _, _, rfl⟩
  · split
    · exact ⟨_, _, _, _, rfl⟩
    · exact ⟨_, _, _, _, rfl⟩
theorem unV_form (op : ByteArray) (tl : Nat) (k n : Int) (s : ByteArray) (N : Nat) : ∃ a b c u, unV op tl k n s N = .tuple #[.agg #[.int .i64 a, .int .i64 b, .string c], .string u] := by
  unfold unV
  repeat' split
  all_goals exact ⟨_, _, _, _, rfl⟩
theorem findV_with (k v : Vl) : ∀ (ps : List Pr) (put : Bool), findV k (withF k v put ps) = if put then none else some v := by
  intro ps
  induction ps with
  | nil =>
    intro put
    cases put with
    | true => rfl
    | false => show findV k [⟨k, v⟩] = some v; unfold findV; rw [if_pos (beq_self k)]
  | cons p ps ih =>
    intro put
    unfold withF
    by_cases hb : p.key.beq k = true
    · rw [if_pos hb]
      cases put with
      | true => simpa using ih true
      | false => show findV k (⟨k, v⟩ :: withF k v true ps) = some v; unfold findV; rw [if_pos (beq_self k)]
    · rw [if_neg hb]; show findV k (p :: withF k v put ps) = _; unfold findV; rw [if_neg hb]; exact ih put
theorem findV_other (q k v : Vl) (hq : q ≠ k) : ∀ (ps : List Pr) (put : Bool), findV q (withF k v put ps) = findV q ps := by
  intro ps
  have hkq : ¬ k.beq q = true := fun h => hq (eq_of_beq' h).symm
  induction ps with
  | nil =>
    intro put
    cases put with
    | true => rfl
    | false => show findV q [⟨k, v⟩] = none; unfold findV; rw [if_neg hkq]; rfl
  | cons p ps ih =>
    intro put
    unfold withF
    by_cases hb : p.key.beq k = true
    · have e := eq_of_beq' hb
      have hpq : ¬ p.key.beq q = true := by rw [e]; exact hkq
      have h0 : findV q (p :: ps) = findV q ps := by rw [findV, if_neg hpq]
      rw [if_pos hb, h0]
      cases put with
      | true => simpa using ih true
      | false => show findV q (⟨k, v⟩ :: withF k v true ps) = _; rw [findV, if_neg hkq]; exact ih true
    · rw [if_neg hb]; show findV q (p :: withF k v put ps) = _; rw [findV, findV, ih put]
/-- Good values within bounds, whatever the keys. -/
def HGood' (h : Hp) : Prop := h.Ok ∧ h.Sm ∧ ∀ i (hi : i < h.ts.length), h.ts[i].length ≤ 201
theorem good_wt' {h : Hp} (hg : HGood' h) : h.wt ≤ 202 * h.ts.length + h.vs.length := by
  have : ∀ ts : List (List Pr), (∀ t ∈ ts, t.length ≤ 201) → wtT ts ≤ 202 * ts.length := by
    intro ts
    induction ts with
    | nil => intro _; simp [wtT]
    | cons t ts ih =>
      intro hl
      have h1 := hl t (by simp)
      have h2 := ih (fun t ht => hl t (by simp [ht]))
      unfold wtT at h2 ⊢
      simp only [List.map_cons, List.sum_cons, List.length_cons]
      omega
  have h1 := this h.ts (fun t ht => by obtain ⟨i, hi, rfl⟩ := List.mem_iff_getElem.1 ht; exact hg.2.2 i hi)
  unfold Hp.wt
  omega
theorem good_set' {h : Hp} {tk tn : Int} {k v : Vl} (hg : HGood h) (hk : k.Ok ∧ k.Sm) (hv : v.Ok ∧ v.Sm) : HGood' (h.setAt tk tn k v) := by
  unfold Hp.setAt
  by_cases hy : setOk h tk tn k v = true
  · rw [if_pos hy]
    simp only [setOk, Bool.and_eq_true, decide_eq_true_eq] at hy
    have hall : ∀ p ∈ setL h tn k v, p.Ok ∧ p.Sm := withF_all (Q := fun p => p.Ok ∧ p.Sm) k v ⟨⟨hk.1, hv.1⟩, ⟨hk.2, hv.2⟩⟩ _ _ fun p hp => by
      cases hx : h.ts[tn.toNat]? with
      | none => rw [hx] at hp; simp at hp
      | some t =>
        rw [hx] at hp
        obtain ⟨hlt, rfl⟩ := List.getElem?_eq_some_iff.1 hx
        obtain ⟨j, hj, rfl⟩ := List.mem_iff_getElem.1 (by simpa using hp)
        exact ⟨(hg.ok.1 _ hlt).2 j hj, hg.sm.ts _ hlt j hj⟩
    refine ⟨⟨fun q hq' => ?_, hg.ok.2⟩, ⟨fun q hq' m hm => ?_, hg.sm.vs⟩, fun q hq' => ?_⟩
    · simp only [List.length_set] at hq'
      by_cases e : tn.toNat = q
      · subst e
        simp only [List.getElem_set_self]
        exact ⟨by unfold maxLen; omega, fun j hj => (hall _ (List.getElem_mem hj)).1⟩
      · simp only [List.getElem_set_ne e]; exact hg.ok.1 q hq'
    · simp only [List.length_set] at hq'
      by_cases e : tn.toNat = q
      · subst e
        simp only [List.getElem_set_self] at hm ⊢
        exact (hall _ (List.getElem_mem hm)).2
      · simp only [List.getElem_set_ne e] at hm ⊢; exact hg.sm.ts q hq' m hm
    · simp only [List.length_set] at hq'
      by_cases e : tn.toNat = q
      · subst e
        simp only [List.getElem_set_self]
        omega
      · simp only [List.getElem_set_ne e]; exact hg.t q hq'
  · rw [if_neg hy]; exact ⟨hg.ok, hg.sm, hg.t⟩
theorem setAt_wt {h : Hp} (hD : HDr h) {tk tn : Int} {k v : Vl} (hk : k.Ok ∧ k.Sm) (hv : v.Ok ∧ v.Sm) : (h.setAt tk tn k v).Ok ∧ (h.setAt tk tn k v).wt ≤ 1048576 ∧ (h.setAt tk tn k v).Sm ∧ (h.setAt tk tn k v).ts.length = h.ts.length := by
  have hl := setAt_len h tk tn k v
  have hg := hD.good
  have h3 : HGood' (h.setAt tk tn k v) := good_set' hg hk hv
  exact ⟨h3.1, by have := good_wt' h3; have := hD.ts; have := hD.vs; omega, h3.2.1, hl.1⟩
set_option maxRecDepth 100000 in
set_option maxHeartbeats 6400000 in
theorem walk_tables (a : Option Addr) (len cap : Nat) (w : World) (hcode : IsCode w w.heap.size a len cap) :
    Calls Try.prog 5 #[.slice a len cap] w fun e w' => e = .returned (.bool true) ∧ Below w.heap.size w w' := by
  have hsm := hcode.small
  by_cases hbig : 1048576 < len
  · go_enter Try.func5, Try.ntmps5
    go_wp2_with (go_at_call 18; refine (big_yes a len cap w hbig hsm).mono ?_; rintro e w' ⟨rfl, rfl⟩)
    go_ret
    exact ⟨rfl, Below.refl _ _⟩
  · go_enter Try.func5, Try.ntmps5
    go_wp2_with (go_at_call 18; refine (big_no a len cap w (by omega)).mono ?_; rintro e w' ⟨rfl, rfl⟩)
    refine (drawSetAt_any a len cap w.heap.size w hcode (Nat.le_refl _)).mono ?_
    rintro e u1 ⟨⟨hh, pa, pc, ua, uc, tk, tn, ts, kk, kn, ks, vk, vn, vs, rfl, hD, T1, hVt, hVk, hVv⟩, BW⟩
    have hb : Below u1.heap.size u1 u1 := Below.refl _ _
    obtain ⟨G, hG⟩ : ∃ G, G = hh.setAt tk tn ⟨kk, kn, ks⟩ ⟨vk, vn, vs⟩ := ⟨_, rfl⟩
    obtain ⟨ok, hok⟩ : ∃ ok, ok = setOk hh tk tn ⟨kk, kn, ks⟩ ⟨vk, vn, vs⟩ := ⟨_, rfl⟩
    have HG : Hid (G = hh.setAt tk tn ⟨kk, kn, ks⟩ ⟨vk, vn, vs⟩) := hG
    have HK : Hid (ok = setOk hh tk tn ⟨kk, kn, ks⟩ ⟨vk, vn, vs⟩) := hok
    have hGp := setAt_wt hD (tk := tk) (tn := tn) (draw_ok hVk) (draw_ok hVv)
    rw [← hG] at hGp
    have HGP : Hid (G.Ok ∧ G.wt ≤ 1048576 ∧ G.Sm ∧ G.ts.length = hh.ts.length) := hGp
    have hks : ks.size ≤ 1048576 := (draw_ok hVk).2
    have hvs : vs.size ≤ 1048576 := (draw_ok hVv).2
    have hts : ts.size ≤ 1048576 := (draw_ok hVt).2
    clear hG hok hGp
    try dsimp only [Sl.v]
    obtain ⟨W1, hhW1⟩ : ∃ W1, W1 = (((u1.alloc (Obj.cells #[.slice pa hh.ts.length pc, .slice ua hh.vs.length uc] 30)).alloc (Obj.cells #[.int .i64 tk, .int .i64 tn, .string ts] 32)).alloc (Obj.cells #[.int .i64 kk, .int .i64 kn, .string ks] 32)).alloc (Obj.cells #[.int .i64 vk, .int .i64 vn, .string vs] 32) := ⟨_, rfl⟩
    obtain ⟨rA, rB, rC, rD, hs0, BA⟩ := rows4 u1 (Obj.cells #[.slice pa hh.ts.length pc, .slice ua hh.vs.length uc] 30) (Obj.cells #[.int .i64 tk, .int .i64 tn, .string ts] 32) (Obj.cells #[.int .i64 kk, .int .i64 kn, .string ks] 32) (Obj.cells #[.int .i64 vk, .int .i64 vn, .string vs] 32)
    rw [← hhW1] at rA rB rC rD hs0 BA
    go_wp2_with fail
    rw [← hhW1]
    clear hhW1
    replace T1 : TV W1 w.heap.size hh pa ua := tv_b T1 BA
    replace BW : Below w.heap.size w W1 := BW.trans (BA.mono BW.size)
    have v3 : Hid (W1.heap[u1.heap.size]? = some (.cells #[.slice pa hh.ts.length pc, .slice ua hh.vs.length uc] 30 (0, 0))) := rA
    have v4 : Hid (W1.heap[u1.heap.size + 1]? = some (.cells #[.int .i64 tk, .int .i64 tn, .string ts] 32 (0, 0))) := rB
    have v5 : Hid (W1.heap[u1.heap.size + 1 + 1]? = some (.cells #[.int .i64 kk, .int .i64 kn, .string ks] 32 (0, 0))) := rC
    have v6 : Hid (W1.heap[u1.heap.size + 1 + 1 + 1]? = some (.cells #[.int .i64 vk, .int .i64 vn, .string vs] 32 (0, 0))) := rD
    clear hb BA hs0 rA rB rC rD
    refine (setAt_impl hh pa ua pc uc _ _ tk tn ts kk kn ks vk vn vs _ (Nat.le_refl _) hD.wt hD.good.sm (fun i hi => (hD.good.d i hi).1) T1.1 T1.2 hks hvs).mono ?_
    rw [← HG.out, ← HK.out]
    rintro e u2 ⟨⟨⟨qa, qn, qc⟩, ⟨va, vn', vc⟩, ss, rfl, hO⟩, hb⟩
    have hqn := hO.1
    have hvn := hO.2.1
    dsimp only at hqn hvn
    subst hqn
    subst hvn
    have T2 : TV u2 W1.heap.size G qa va := tv_lay hO.2.2.lay HGP.out.1 (Nat.le_refl _) HGP.out.2.1
    clear hO ss
    replace v3 : Hid (u2.heap[u1.heap.size]? = some (.cells #[.slice pa hh.ts.length pc, .slice ua hh.vs.length uc] 30 (0, 0))) := (hb.block _ (row_lt v3.out)).trans v3.out
    replace v4 : Hid (u2.heap[u1.heap.size + 1]? = some (.cells #[.int .i64 tk, .int .i64 tn, .string ts] 32 (0, 0))) := (hb.block _ (row_lt v4.out)).trans v4.out
    replace v5 : Hid (u2.heap[u1.heap.size + 1 + 1]? = some (.cells #[.int .i64 kk, .int .i64 kn, .string ks] 32 (0, 0))) := (hb.block _ (row_lt v5.out)).trans v5.out
    replace v6 : Hid (u2.heap[u1.heap.size + 1 + 1 + 1]? = some (.cells #[.int .i64 vk, .int .i64 vn, .string vs] 32 (0, 0))) := (hb.block _ (row_lt v6.out)).trans v6.out
    replace T1 : TV u2 w.heap.size hh pa ua := tv_b T1 hb
    replace BW : Below w.heap.size w u2 := BW.trans (hb.mono BW.size)
    try dsimp only [Sl.v]
    obtain ⟨W2, hhW2⟩ : ∃ W2, W2 = u2.alloc (Obj.cells #[.slice qa G.ts.length qc, .slice va G.vs.length vc] 30) := ⟨_, rfl⟩
    obtain ⟨rA, hs0, BA⟩ := rows1 u2 (Obj.cells #[.slice qa G.ts.length qc, .slice va G.vs.length vc] 30)
    rw [← hhW2] at rA hs0 BA
    have v30 := cell_of_row _ _ 0 _ _ _ v3.out
    have v31 := cell_of_row _ _ 1 _ _ _ v3.out
    have v40 := cell_of_row _ _ 0 _ _ _ v4.out
    have v41 := cell_of_row _ _ 1 _ _ _ v4.out
    have v42 := cell_of_row _ _ 2 _ _ _ v4.out
    have v50 := cell_of_row _ _ 0 _ _ _ v5.out
    have v51 := cell_of_row _ _ 1 _ _ _ v5.out
    have v52 := cell_of_row _ _ 2 _ _ _ v5.out
    have v60 := cell_of_row _ _ 0 _ _ _ v6.out
    have v61 := cell_of_row _ _ 1 _ _ _ v6.out
    have v62 := cell_of_row _ _ 2 _ _ _ v6.out
    simp only [List.getElem?_toArray, List.getElem?_cons_zero, List.getElem?_cons_succ] at v30 v31 v40 v41 v42 v50 v51 v52 v60 v61 v62
    have lv3 := row_lt v3.out
    have lv4 := row_lt v4.out
    have lv5 := row_lt v5.out
    have lv6 := row_lt v6.out
    go_wp2_with fail
    rw [← hhW2]
    clear hhW2
    clear v30 v31 v40 v41 v42 v50 v51 v52 v60 v61 v62
    clear lv3 lv4 lv5 lv6
    replace v3 : Hid (W2.heap[u1.heap.size]? = some (.cells #[.slice pa hh.ts.length pc, .slice ua hh.vs.length uc] 30 (0, 0))) := (BA.block _ (row_lt v3.out)).trans v3.out
    replace v4 : Hid (W2.heap[u1.heap.size + 1]? = some (.cells #[.int .i64 tk, .int .i64 tn, .string ts] 32 (0, 0))) := (BA.block _ (row_lt v4.out)).trans v4.out
    replace v5 : Hid (W2.heap[u1.heap.size + 1 + 1]? = some (.cells #[.int .i64 kk, .int .i64 kn, .string ks] 32 (0, 0))) := (BA.block _ (row_lt v5.out)).trans v5.out
    replace v6 : Hid (W2.heap[u1.heap.size + 1 + 1 + 1]? = some (.cells #[.int .i64 vk, .int .i64 vn, .string vs] 32 (0, 0))) := (BA.block _ (row_lt v6.out)).trans v6.out
    replace T1 : TV W2 w.heap.size hh pa ua := tv_b T1 BA
    replace T2 : TV W2 W1.heap.size G qa va := tv_b T2 BA
    replace BW : Below w.heap.size w W2 := BW.trans (BA.mono BW.size)
    have v7 : Hid (W2.heap[u2.heap.size]? = some (.cells #[.slice qa G.ts.length qc, .slice va G.vs.length vc] 30 (0, 0))) := rA
    clear hb BA hs0 rA
    refine (setAt_spec hh pa ua pc uc _ _ tk tn ts kk kn ks vk vn vs _ (Nat.le_refl _) hD.wt T1.1 T1.2).mono ?_
    rw [← HG.out, ← HK.out]
    rintro e u3 ⟨⟨⟨ra, qn, rc⟩, ⟨ta, vn', tc⟩, ss, rfl, hO⟩, hb⟩
    have hqn := hO.1
    have hvn := hO.2.1
    dsimp only at hqn hvn
    subst hqn
    subst hvn
    have T3 : TV u3 W2.heap.size G ra ta := tv_lay hO.2.2.lay HGP.out.1 (Nat.le_refl _) HGP.out.2.1
    clear hO ss
    replace v3 : Hid (u3.heap[u1.heap.size]? = some (.cells #[.slice pa hh.ts.length pc, .slice ua hh.vs.length uc] 30 (0, 0))) := (hb.block _ (row_lt v3.out)).trans v3.out
    replace v4 : Hid (u3.heap[u1.heap.size + 1]? = some (.cells #[.int .i64 tk, .int .i64 tn, .string ts] 32 (0, 0))) := (hb.block _ (row_lt v4.out)).trans v4.out
    replace v5 : Hid (u3.heap[u1.heap.size + 1 + 1]? = some (.cells #[.int .i64 kk, .int .i64 kn, .string ks] 32 (0, 0))) := (hb.block _ (row_lt v5.out)).trans v5.out
    replace v6 : Hid (u3.heap[u1.heap.size + 1 + 1 + 1]? = some (.cells #[.int .i64 vk, .int .i64 vn, .string vs] 32 (0, 0))) := (hb.block _ (row_lt v6.out)).trans v6.out
    replace v7 : Hid (u3.heap[u2.heap.size]? = some (.cells #[.slice qa G.ts.length qc, .slice va G.vs.length vc] 30 (0, 0))) := (hb.block _ (row_lt v7.out)).trans v7.out
    replace T1 : TV u3 w.heap.size hh pa ua := tv_b T1 hb
    replace T2 : TV u3 W1.heap.size G qa va := tv_b T2 hb
    replace BW : Below w.heap.size w u3 := BW.trans (hb.mono BW.size)
    try dsimp only [Sl.v]
    obtain ⟨W3, hhW3⟩ : ∃ W3, W3 = u3.alloc (Obj.cells #[.slice ra G.ts.length rc, .slice ta G.vs.length tc] 30) := ⟨_, rfl⟩
    obtain ⟨rA, hs0, BA⟩ := rows1 u3 (Obj.cells #[.slice ra G.ts.length rc, .slice ta G.vs.length tc] 30)
    rw [← hhW3] at rA hs0 BA
    go_wp2_with fail
    rw [← hhW3]
    clear hhW3
    replace v3 : Hid (W3.heap[u1.heap.size]? = some (.cells #[.slice pa hh.ts.length pc, .slice ua hh.vs.length uc] 30 (0, 0))) := (BA.block _ (row_lt v3.out)).trans v3.out
    replace v4 : Hid (W3.heap[u1.heap.size + 1]? = some (.cells #[.int .i64 tk, .int .i64 tn, .string ts] 32 (0, 0))) := (BA.block _ (row_lt v4.out)).trans v4.out
    replace v5 : Hid (W3.heap[u1.heap.size + 1 + 1]? = some (.cells #[.int .i64 kk, .int .i64 kn, .string ks] 32 (0, 0))) := (BA.block _ (row_lt v5.out)).trans v5.out
    replace v6 : Hid (W3.heap[u1.heap.size + 1 + 1 + 1]? = some (.cells #[.int .i64 vk, .int .i64 vn, .string vs] 32 (0, 0))) := (BA.block _ (row_lt v6.out)).trans v6.out
    replace v7 : Hid (W3.heap[u2.heap.size]? = some (.cells #[.slice qa G.ts.length qc, .slice va G.vs.length vc] 30 (0, 0))) := (BA.block _ (row_lt v7.out)).trans v7.out
    replace T1 : TV W3 w.heap.size hh pa ua := tv_b T1 BA
    replace T2 : TV W3 W1.heap.size G qa va := tv_b T2 BA
    replace T3 : TV W3 W2.heap.size G ra ta := tv_b T3 BA
    replace BW : Below w.heap.size w W3 := BW.trans (BA.mono BW.size)
    have v9 : Hid (W3.heap[u3.heap.size]? = some (.cells #[.slice ra G.ts.length rc, .slice ta G.vs.length tc] 30 (0, 0))) := rA
    clear hb BA hs0 rA
    refine (drawGetAt_any a len cap w.heap.size W3 (code_later hcode BW) BW.size).mono ?_
    rintro e u4 ⟨⟨c, ca, cc, da, dc, ak, an, as', bk, bn, bs, rfl, hC, T4, hVa, hVb⟩, hb⟩
    obtain ⟨xk, xn, xs, xu, hX⟩ := getV_form c ak an as' bk bn bs
    have HX : Hid (getV c ak an as' bk bn bs = .tuple #[.agg #[.int .i64 xk, .int .i64 xn, .string xs], .string xu]) := hX
    clear hX
    replace v3 : Hid (u4.heap[u1.heap.size]? = some (.cells #[.slice pa hh.ts.length pc, .slice ua hh.vs.length uc] 30 (0, 0))) := (hb.block _ (row_lt v3.out)).trans v3.out
    replace v4 : Hid (u4.heap[u1.heap.size + 1]? = some (.cells #[.int .i64 tk, .int .i64 tn, .string ts] 32 (0, 0))) := (hb.block _ (row_lt v4.out)).trans v4.out
    replace v5 : Hid (u4.heap[u1.heap.size + 1 + 1]? = some (.cells #[.int .i64 kk, .int .i64 kn, .string ks] 32 (0, 0))) := (hb.block _ (row_lt v5.out)).trans v5.out
    replace v6 : Hid (u4.heap[u1.heap.size + 1 + 1 + 1]? = some (.cells #[.int .i64 vk, .int .i64 vn, .string vs] 32 (0, 0))) := (hb.block _ (row_lt v6.out)).trans v6.out
    replace v7 : Hid (u4.heap[u2.heap.size]? = some (.cells #[.slice qa G.ts.length qc, .slice va G.vs.length vc] 30 (0, 0))) := (hb.block _ (row_lt v7.out)).trans v7.out
    replace v9 : Hid (u4.heap[u3.heap.size]? = some (.cells #[.slice ra G.ts.length rc, .slice ta G.vs.length tc] 30 (0, 0))) := (hb.block _ (row_lt v9.out)).trans v9.out
    replace T1 : TV u4 w.heap.size hh pa ua := tv_b T1 hb
    replace T2 : TV u4 W1.heap.size G qa va := tv_b T2 hb
    replace T3 : TV u4 W2.heap.size G ra ta := tv_b T3 hb
    replace BW : Below w.heap.size w u4 := BW.trans (hb.mono BW.size)
    try dsimp only [Sl.v]
    obtain ⟨W4, hhW4⟩ : ∃ W4, W4 = ((u4.alloc (Obj.cells #[.slice ca c.ts.length cc, .slice da c.vs.length dc] 30)).alloc (Obj.cells #[.int .i64 ak, .int .i64 an, .string as'] 32)).alloc (Obj.cells #[.int .i64 bk, .int .i64 bn, .string bs] 32) := ⟨_, rfl⟩
    obtain ⟨rA, rB, rC, hs0, BA⟩ := rows3 u4 (Obj.cells #[.slice ca c.ts.length cc, .slice da c.vs.length dc] 30) (Obj.cells #[.int .i64 ak, .int .i64 an, .string as'] 32) (Obj.cells #[.int .i64 bk, .int .i64 bn, .string bs] 32)
    rw [← hhW4] at rA rB rC hs0 BA
    go_wp2_with fail
    rw [← hhW4]
    clear hhW4
    replace v3 : Hid (W4.heap[u1.heap.size]? = some (.cells #[.slice pa hh.ts.length pc, .slice ua hh.vs.length uc] 30 (0, 0))) := (BA.block _ (row_lt v3.out)).trans v3.out
    replace v4 : Hid (W4.heap[u1.heap.size + 1]? = some (.cells #[.int .i64 tk, .int .i64 tn, .string ts] 32 (0, 0))) := (BA.block _ (row_lt v4.out)).trans v4.out
    replace v5 : Hid (W4.heap[u1.heap.size + 1 + 1]? = some (.cells #[.int .i64 kk, .int .i64 kn, .string ks] 32 (0, 0))) := (BA.block _ (row_lt v5.out)).trans v5.out
    replace v6 : Hid (W4.heap[u1.heap.size + 1 + 1 + 1]? = some (.cells #[.int .i64 vk, .int .i64 vn, .string vs] 32 (0, 0))) := (BA.block _ (row_lt v6.out)).trans v6.out
    replace v7 : Hid (W4.heap[u2.heap.size]? = some (.cells #[.slice qa G.ts.length qc, .slice va G.vs.length vc] 30 (0, 0))) := (BA.block _ (row_lt v7.out)).trans v7.out
    replace v9 : Hid (W4.heap[u3.heap.size]? = some (.cells #[.slice ra G.ts.length rc, .slice ta G.vs.length tc] 30 (0, 0))) := (BA.block _ (row_lt v9.out)).trans v9.out
    replace T1 : TV W4 w.heap.size hh pa ua := tv_b T1 BA
    replace T2 : TV W4 W1.heap.size G qa va := tv_b T2 BA
    replace T3 : TV W4 W2.heap.size G ra ta := tv_b T3 BA
    replace T4 : TV W4 W3.heap.size c ca da := tv_b T4 BA
    replace BW : Below w.heap.size w W4 := BW.trans (BA.mono BW.size)
    have v11 : Hid (W4.heap[u4.heap.size]? = some (.cells #[.slice ca c.ts.length cc, .slice da c.vs.length dc] 30 (0, 0))) := rA
    have v12 : Hid (W4.heap[u4.heap.size + 1]? = some (.cells #[.int .i64 ak, .int .i64 an, .string as'] 32 (0, 0))) := rB
    have v13 : Hid (W4.heap[u4.heap.size + 1 + 1]? = some (.cells #[.int .i64 bk, .int .i64 bn, .string bs] 32 (0, 0))) := rC
    clear hb BA hs0 rA rB rC
    refine (get_impl c ca da cc dc _ _ ak an as' bk bn bs _ (Nat.le_refl _) T4.1 (draw_ok hVa).2 hC.good.sm).mono ?_
    rw [HX.out]
    rintro e u5 ⟨rfl, hb⟩
    replace v3 : Hid (u5.heap[u1.heap.size]? = some (.cells #[.slice pa hh.ts.length pc, .slice ua hh.vs.length uc] 30 (0, 0))) := (hb.block _ (row_lt v3.out)).trans v3.out
    replace v4 : Hid (u5.heap[u1.heap.size + 1]? = some (.cells #[.int .i64 tk, .int .i64 tn, .string ts] 32 (0, 0))) := (hb.block _ (row_lt v4.out)).trans v4.out
    replace v5 : Hid (u5.heap[u1.heap.size + 1 + 1]? = some (.cells #[.int .i64 kk, .int .i64 kn, .string ks] 32 (0, 0))) := (hb.block _ (row_lt v5.out)).trans v5.out
    replace v6 : Hid (u5.heap[u1.heap.size + 1 + 1 + 1]? = some (.cells #[.int .i64 vk, .int .i64 vn, .string vs] 32 (0, 0))) := (hb.block _ (row_lt v6.out)).trans v6.out
    replace v7 : Hid (u5.heap[u2.heap.size]? = some (.cells #[.slice qa G.ts.length qc, .slice va G.vs.length vc] 30 (0, 0))) := (hb.block _ (row_lt v7.out)).trans v7.out
    replace v9 : Hid (u5.heap[u3.heap.size]? = some (.cells #[.slice ra G.ts.length rc, .slice ta G.vs.length tc] 30 (0, 0))) := (hb.block _ (row_lt v9.out)).trans v9.out
    replace v11 : Hid (u5.heap[u4.heap.size]? = some (.cells #[.slice ca c.ts.length cc, .slice da c.vs.length dc] 30 (0, 0))) := (hb.block _ (row_lt v11.out)).trans v11.out
    replace v12 : Hid (u5.heap[u4.heap.size + 1]? = some (.cells #[.int .i64 ak, .int .i64 an, .string as'] 32 (0, 0))) := (hb.block _ (row_lt v12.out)).trans v12.out
    replace v13 : Hid (u5.heap[u4.heap.size + 1 + 1]? = some (.cells #[.int .i64 bk, .int .i64 bn, .string bs] 32 (0, 0))) := (hb.block _ (row_lt v13.out)).trans v13.out
    replace T1 : TV u5 w.heap.size hh pa ua := tv_b T1 hb
    replace T2 : TV u5 W1.heap.size G qa va := tv_b T2 hb
    replace T3 : TV u5 W2.heap.size G ra ta := tv_b T3 hb
    replace T4 : TV u5 W3.heap.size c ca da := tv_b T4 hb
    replace BW : Below w.heap.size w u5 := BW.trans (hb.mono BW.size)
    try dsimp only [Sl.v]
    obtain ⟨W5, hhW5⟩ : ∃ W5, W5 = u5.alloc (Obj.cells #[.int .i64 xk, .int .i64 xn, .string xs] 32) := ⟨_, rfl⟩
    obtain ⟨rA, hs0, BA⟩ := rows1 u5 (Obj.cells #[.int .i64 xk, .int .i64 xn, .string xs] 32)
    rw [← hhW5] at rA hs0 BA
    have v110 := cell_of_row _ _ 0 _ _ _ v11.out
    have v111 := cell_of_row _ _ 1 _ _ _ v11.out
    have v120 := cell_of_row _ _ 0 _ _ _ v12.out
    have v121 := cell_of_row _ _ 1 _ _ _ v12.out
    have v122 := cell_of_row _ _ 2 _ _ _ v12.out
    have v130 := cell_of_row _ _ 0 _ _ _ v13.out
    have v131 := cell_of_row _ _ 1 _ _ _ v13.out
    have v132 := cell_of_row _ _ 2 _ _ _ v13.out
    simp only [List.getElem?_toArray, List.getElem?_cons_zero, List.getElem?_cons_succ] at v110 v111 v120 v121 v122 v130 v131 v132
    have lv11 := row_lt v11.out
    have lv12 := row_lt v12.out
    have lv13 := row_lt v13.out
    go_wp2_with fail
    rw [← hhW5]
    clear hhW5
    clear v110 v111 v120 v121 v122 v130 v131 v132
    clear lv11 lv12 lv13
    replace v3 : Hid (W5.heap[u1.heap.size]? = some (.cells #[.slice pa hh.ts.length pc, .slice ua hh.vs.length uc] 30 (0, 0))) := (BA.block _ (row_lt v3.out)).trans v3.out
    replace v4 : Hid (W5.heap[u1.heap.size + 1]? = some (.cells #[.int .i64 tk, .int .i64 tn, .string ts] 32 (0, 0))) := (BA.block _ (row_lt v4.out)).trans v4.out
    replace v5 : Hid (W5.heap[u1.heap.size + 1 + 1]? = some (.cells #[.int .i64 kk, .int .i64 kn, .string ks] 32 (0, 0))) := (BA.block _ (row_lt v5.out)).trans v5.out
    replace v6 : Hid (W5.heap[u1.heap.size + 1 + 1 + 1]? = some (.cells #[.int .i64 vk, .int .i64 vn, .string vs] 32 (0, 0))) := (BA.block _ (row_lt v6.out)).trans v6.out
    replace v7 : Hid (W5.heap[u2.heap.size]? = some (.cells #[.slice qa G.ts.length qc, .slice va G.vs.length vc] 30 (0, 0))) := (BA.block _ (row_lt v7.out)).trans v7.out
    replace v9 : Hid (W5.heap[u3.heap.size]? = some (.cells #[.slice ra G.ts.length rc, .slice ta G.vs.length tc] 30 (0, 0))) := (BA.block _ (row_lt v9.out)).trans v9.out
    replace v11 : Hid (W5.heap[u4.heap.size]? = some (.cells #[.slice ca c.ts.length cc, .slice da c.vs.length dc] 30 (0, 0))) := (BA.block _ (row_lt v11.out)).trans v11.out
    replace v12 : Hid (W5.heap[u4.heap.size + 1]? = some (.cells #[.int .i64 ak, .int .i64 an, .string as'] 32 (0, 0))) := (BA.block _ (row_lt v12.out)).trans v12.out
    replace v13 : Hid (W5.heap[u4.heap.size + 1 + 1]? = some (.cells #[.int .i64 bk, .int .i64 bn, .string bs] 32 (0, 0))) := (BA.block _ (row_lt v13.out)).trans v13.out
    replace T1 : TV W5 w.heap.size hh pa ua := tv_b T1 BA
    replace T2 : TV W5 W1.heap.size G qa va := tv_b T2 BA
    replace T3 : TV W5 W2.heap.size G ra ta := tv_b T3 BA
    replace T4 : TV W5 W3.heap.size c ca da := tv_b T4 BA
    replace BW : Below w.heap.size w W5 := BW.trans (BA.mono BW.size)
    have v14 : Hid (W5.heap[u5.heap.size]? = some (.cells #[.int .i64 xk, .int .i64 xn, .string xs] 32 (0, 0))) := rA
    clear hb BA hs0 rA
    refine (get_spec c ca da cc dc _ _ ak an as' bk bn bs _ (Nat.le_refl _) T4.1 (by have := hC.ts; unfold maxLen; omega) (draw_ok hVa).2).mono ?_
    rw [HX.out]
    rintro e u6 ⟨rfl, hb⟩
    replace v3 : Hid (u6.heap[u1.heap.size]? = some (.cells #[.slice pa hh.ts.length pc, .slice ua hh.vs.length uc] 30 (0, 0))) := (hb.block _ (row_lt v3.out)).trans v3.out
    replace v4 : Hid (u6.heap[u1.heap.size + 1]? = some (.cells #[.int .i64 tk, .int .i64 tn, .string ts] 32 (0, 0))) := (hb.block _ (row_lt v4.out)).trans v4.out
    replace v5 : Hid (u6.heap[u1.heap.size + 1 + 1]? = some (.cells #[.int .i64 kk, .int .i64 kn, .string ks] 32 (0, 0))) := (hb.block _ (row_lt v5.out)).trans v5.out
    replace v6 : Hid (u6.heap[u1.heap.size + 1 + 1 + 1]? = some (.cells #[.int .i64 vk, .int .i64 vn, .string vs] 32 (0, 0))) := (hb.block _ (row_lt v6.out)).trans v6.out
    replace v7 : Hid (u6.heap[u2.heap.size]? = some (.cells #[.slice qa G.ts.length qc, .slice va G.vs.length vc] 30 (0, 0))) := (hb.block _ (row_lt v7.out)).trans v7.out
    replace v9 : Hid (u6.heap[u3.heap.size]? = some (.cells #[.slice ra G.ts.length rc, .slice ta G.vs.length tc] 30 (0, 0))) := (hb.block _ (row_lt v9.out)).trans v9.out
    replace v11 : Hid (u6.heap[u4.heap.size]? = some (.cells #[.slice ca c.ts.length cc, .slice da c.vs.length dc] 30 (0, 0))) := (hb.block _ (row_lt v11.out)).trans v11.out
    replace v12 : Hid (u6.heap[u4.heap.size + 1]? = some (.cells #[.int .i64 ak, .int .i64 an, .string as'] 32 (0, 0))) := (hb.block _ (row_lt v12.out)).trans v12.out
    replace v13 : Hid (u6.heap[u4.heap.size + 1 + 1]? = some (.cells #[.int .i64 bk, .int .i64 bn, .string bs] 32 (0, 0))) := (hb.block _ (row_lt v13.out)).trans v13.out
    replace v14 : Hid (u6.heap[u5.heap.size]? = some (.cells #[.int .i64 xk, .int .i64 xn, .string xs] 32 (0, 0))) := (hb.block _ (row_lt v14.out)).trans v14.out
    replace T1 : TV u6 w.heap.size hh pa ua := tv_b T1 hb
    replace T2 : TV u6 W1.heap.size G qa va := tv_b T2 hb
    replace T3 : TV u6 W2.heap.size G ra ta := tv_b T3 hb
    replace T4 : TV u6 W3.heap.size c ca da := tv_b T4 hb
    replace BW : Below w.heap.size w u6 := BW.trans (hb.mono BW.size)
    try dsimp only [Sl.v]
    obtain ⟨W6, hhW6⟩ : ∃ W6, W6 = u6.alloc (Obj.cells #[.int .i64 xk, .int .i64 xn, .string xs] 32) := ⟨_, rfl⟩
    obtain ⟨rA, hs0, BA⟩ := rows1 u6 (Obj.cells #[.int .i64 xk, .int .i64 xn, .string xs] 32)
    rw [← hhW6] at rA hs0 BA
    go_wp2_with fail
    rw [← hhW6]
    clear hhW6
    replace v3 : Hid (W6.heap[u1.heap.size]? = some (.cells #[.slice pa hh.ts.length pc, .slice ua hh.vs.length uc] 30 (0, 0))) := (BA.block _ (row_lt v3.out)).trans v3.out
    replace v4 : Hid (W6.heap[u1.heap.size + 1]? = some (.cells #[.int .i64 tk, .int .i64 tn, .string ts] 32 (0, 0))) := (BA.block _ (row_lt v4.out)).trans v4.out
    replace v5 : Hid (W6.heap[u1.heap.size + 1 + 1]? = some (.cells #[.int .i64 kk, .int .i64 kn, .string ks] 32 (0, 0))) := (BA.block _ (row_lt v5.out)).trans v5.out
    replace v6 : Hid (W6.heap[u1.heap.size + 1 + 1 + 1]? = some (.cells #[.int .i64 vk, .int .i64 vn, .string vs] 32 (0, 0))) := (BA.block _ (row_lt v6.out)).trans v6.out
    replace v7 : Hid (W6.heap[u2.heap.size]? = some (.cells #[.slice qa G.ts.length qc, .slice va G.vs.length vc] 30 (0, 0))) := (BA.block _ (row_lt v7.out)).trans v7.out
    replace v9 : Hid (W6.heap[u3.heap.size]? = some (.cells #[.slice ra G.ts.length rc, .slice ta G.vs.length tc] 30 (0, 0))) := (BA.block _ (row_lt v9.out)).trans v9.out
    replace v11 : Hid (W6.heap[u4.heap.size]? = some (.cells #[.slice ca c.ts.length cc, .slice da c.vs.length dc] 30 (0, 0))) := (BA.block _ (row_lt v11.out)).trans v11.out
    replace v12 : Hid (W6.heap[u4.heap.size + 1]? = some (.cells #[.int .i64 ak, .int .i64 an, .string as'] 32 (0, 0))) := (BA.block _ (row_lt v12.out)).trans v12.out
    replace v13 : Hid (W6.heap[u4.heap.size + 1 + 1]? = some (.cells #[.int .i64 bk, .int .i64 bn, .string bs] 32 (0, 0))) := (BA.block _ (row_lt v13.out)).trans v13.out
    replace v14 : Hid (W6.heap[u5.heap.size]? = some (.cells #[.int .i64 xk, .int .i64 xn, .string xs] 32 (0, 0))) := (BA.block _ (row_lt v14.out)).trans v14.out
    replace T1 : TV W6 w.heap.size hh pa ua := tv_b T1 BA
    replace T2 : TV W6 W1.heap.size G qa va := tv_b T2 BA
    replace T3 : TV W6 W2.heap.size G ra ta := tv_b T3 BA
    replace T4 : TV W6 W3.heap.size c ca da := tv_b T4 BA
    replace BW : Below w.heap.size w W6 := BW.trans (BA.mono BW.size)
    have v16 : Hid (W6.heap[u6.heap.size]? = some (.cells #[.int .i64 xk, .int .i64 xn, .string xs] 32 (0, 0))) := rA
    clear hb BA hs0 rA
    refine (drawUnary_any a len cap w.heap.size W6 (code_later hcode BW) BW.size).mono ?_
    rintro e u7 ⟨⟨op, f, fa, fc, ga, gc, ek, en, es, rfl, hop, hF, T5, hVe⟩, hb⟩
    obtain ⟨N, hN⟩ := row_ex (f.ts[en.toNat]?.getD [])
    obtain ⟨zk, zn, zs, zu, hZ⟩ := unV_form op f.ts.length ek en es N
    have HZ : Hid (unV op f.ts.length ek en es N = .tuple #[.agg #[.int .i64 zk, .int .i64 zn, .string zs], .string zu]) := hZ
    have HN : Hid (RowIs (f.ts[en.toNat]?.getD []) N) := hN
    clear hZ hN hop
    replace v3 : Hid (u7.heap[u1.heap.size]? = some (.cells #[.slice pa hh.ts.length pc, .slice ua hh.vs.length uc] 30 (0, 0))) := (hb.block _ (row_lt v3.out)).trans v3.out
    replace v4 : Hid (u7.heap[u1.heap.size + 1]? = some (.cells #[.int .i64 tk, .int .i64 tn, .string ts] 32 (0, 0))) := (hb.block _ (row_lt v4.out)).trans v4.out
    replace v5 : Hid (u7.heap[u1.heap.size + 1 + 1]? = some (.cells #[.int .i64 kk, .int .i64 kn, .string ks] 32 (0, 0))) := (hb.block _ (row_lt v5.out)).trans v5.out
    replace v6 : Hid (u7.heap[u1.heap.size + 1 + 1 + 1]? = some (.cells #[.int .i64 vk, .int .i64 vn, .string vs] 32 (0, 0))) := (hb.block _ (row_lt v6.out)).trans v6.out
    replace v7 : Hid (u7.heap[u2.heap.size]? = some (.cells #[.slice qa G.ts.length qc, .slice va G.vs.length vc] 30 (0, 0))) := (hb.block _ (row_lt v7.out)).trans v7.out
    replace v9 : Hid (u7.heap[u3.heap.size]? = some (.cells #[.slice ra G.ts.length rc, .slice ta G.vs.length tc] 30 (0, 0))) := (hb.block _ (row_lt v9.out)).trans v9.out
    replace v11 : Hid (u7.heap[u4.heap.size]? = some (.cells #[.slice ca c.ts.length cc, .slice da c.vs.length dc] 30 (0, 0))) := (hb.block _ (row_lt v11.out)).trans v11.out
    replace v12 : Hid (u7.heap[u4.heap.size + 1]? = some (.cells #[.int .i64 ak, .int .i64 an, .string as'] 32 (0, 0))) := (hb.block _ (row_lt v12.out)).trans v12.out
    replace v13 : Hid (u7.heap[u4.heap.size + 1 + 1]? = some (.cells #[.int .i64 bk, .int .i64 bn, .string bs] 32 (0, 0))) := (hb.block _ (row_lt v13.out)).trans v13.out
    replace v14 : Hid (u7.heap[u5.heap.size]? = some (.cells #[.int .i64 xk, .int .i64 xn, .string xs] 32 (0, 0))) := (hb.block _ (row_lt v14.out)).trans v14.out
    replace v16 : Hid (u7.heap[u6.heap.size]? = some (.cells #[.int .i64 xk, .int .i64 xn, .string xs] 32 (0, 0))) := (hb.block _ (row_lt v16.out)).trans v16.out
    replace T1 : TV u7 w.heap.size hh pa ua := tv_b T1 hb
    replace T2 : TV u7 W1.heap.size G qa va := tv_b T2 hb
    replace T3 : TV u7 W2.heap.size G ra ta := tv_b T3 hb
    replace T4 : TV u7 W3.heap.size c ca da := tv_b T4 hb
    replace BW : Below w.heap.size w u7 := BW.trans (hb.mono BW.size)
    try dsimp only [Sl.v]
    obtain ⟨W7, hhW7⟩ : ∃ W7, W7 = (u7.alloc (Obj.cells #[.slice fa f.ts.length fc, .slice ga f.vs.length gc] 30)).alloc (Obj.cells #[.int .i64 ek, .int .i64 en, .string es] 32) := ⟨_, rfl⟩
    obtain ⟨rA, rB, hs0, BA⟩ := rows2 u7 (Obj.cells #[.slice fa f.ts.length fc, .slice ga f.vs.length gc] 30) (Obj.cells #[.int .i64 ek, .int .i64 en, .string es] 32)
    rw [← hhW7] at rA rB hs0 BA
    go_wp2_with fail
    rw [← hhW7]
    clear hhW7
    replace v3 : Hid (W7.heap[u1.heap.size]? = some (.cells #[.slice pa hh.ts.length pc, .slice ua hh.vs.length uc] 30 (0, 0))) := (BA.block _ (row_lt v3.out)).trans v3.out
    replace v4 : Hid (W7.heap[u1.heap.size + 1]? = some (.cells #[.int .i64 tk, .int .i64 tn, .string ts] 32 (0, 0))) := (BA.block _ (row_lt v4.out)).trans v4.out
    replace v5 : Hid (W7.heap[u1.heap.size + 1 + 1]? = some (.cells #[.int .i64 kk, .int .i64 kn, .string ks] 32 (0, 0))) := (BA.block _ (row_lt v5.out)).trans v5.out
    replace v6 : Hid (W7.heap[u1.heap.size + 1 + 1 + 1]? = some (.cells #[.int .i64 vk, .int .i64 vn, .string vs] 32 (0, 0))) := (BA.block _ (row_lt v6.out)).trans v6.out
    replace v7 : Hid (W7.heap[u2.heap.size]? = some (.cells #[.slice qa G.ts.length qc, .slice va G.vs.length vc] 30 (0, 0))) := (BA.block _ (row_lt v7.out)).trans v7.out
    replace v9 : Hid (W7.heap[u3.heap.size]? = some (.cells #[.slice ra G.ts.length rc, .slice ta G.vs.length tc] 30 (0, 0))) := (BA.block _ (row_lt v9.out)).trans v9.out
    replace v11 : Hid (W7.heap[u4.heap.size]? = some (.cells #[.slice ca c.ts.length cc, .slice da c.vs.length dc] 30 (0, 0))) := (BA.block _ (row_lt v11.out)).trans v11.out
    replace v12 : Hid (W7.heap[u4.heap.size + 1]? = some (.cells #[.int .i64 ak, .int .i64 an, .string as'] 32 (0, 0))) := (BA.block _ (row_lt v12.out)).trans v12.out
    replace v13 : Hid (W7.heap[u4.heap.size + 1 + 1]? = some (.cells #[.int .i64 bk, .int .i64 bn, .string bs] 32 (0, 0))) := (BA.block _ (row_lt v13.out)).trans v13.out
    replace v14 : Hid (W7.heap[u5.heap.size]? = some (.cells #[.int .i64 xk, .int .i64 xn, .string xs] 32 (0, 0))) := (BA.block _ (row_lt v14.out)).trans v14.out
    replace v16 : Hid (W7.heap[u6.heap.size]? = some (.cells #[.int .i64 xk, .int .i64 xn, .string xs] 32 (0, 0))) := (BA.block _ (row_lt v16.out)).trans v16.out
    replace T1 : TV W7 w.heap.size hh pa ua := tv_b T1 BA
    replace T2 : TV W7 W1.heap.size G qa va := tv_b T2 BA
    replace T3 : TV W7 W2.heap.size G ra ta := tv_b T3 BA
    replace T4 : TV W7 W3.heap.size c ca da := tv_b T4 BA
    replace T5 : TV W7 W6.heap.size f fa ga := tv_b T5 BA
    replace BW : Below w.heap.size w W7 := BW.trans (BA.mono BW.size)
    have v19 : Hid (W7.heap[u7.heap.size]? = some (.cells #[.slice fa f.ts.length fc, .slice ga f.vs.length gc] 30 (0, 0))) := rA
    have v20 : Hid (W7.heap[u7.heap.size + 1]? = some (.cells #[.int .i64 ek, .int .i64 en, .string es] 32 (0, 0))) := rB
    clear hb BA hs0 rA rB
    refine (un_impl op f fa ga fc gc _ _ N ek en es _ (Nat.le_refl _) T5.1 hF.wt (fun _ => HN.out)).mono ?_
    rw [HZ.out]
    rintro e u8 ⟨rfl, hb⟩
    replace v3 : Hid (u8.heap[u1.heap.size]? = some (.cells #[.slice pa hh.ts.length pc, .slice ua hh.vs.length uc] 30 (0, 0))) := (hb.block _ (row_lt v3.out)).trans v3.out
    replace v4 : Hid (u8.heap[u1.heap.size + 1]? = some (.cells #[.int .i64 tk, .int .i64 tn, .string ts] 32 (0, 0))) := (hb.block _ (row_lt v4.out)).trans v4.out
    replace v5 : Hid (u8.heap[u1.heap.size + 1 + 1]? = some (.cells #[.int .i64 kk, .int .i64 kn, .string ks] 32 (0, 0))) := (hb.block _ (row_lt v5.out)).trans v5.out
    replace v6 : Hid (u8.heap[u1.heap.size + 1 + 1 + 1]? = some (.cells #[.int .i64 vk, .int .i64 vn, .string vs] 32 (0, 0))) := (hb.block _ (row_lt v6.out)).trans v6.out
    replace v7 : Hid (u8.heap[u2.heap.size]? = some (.cells #[.slice qa G.ts.length qc, .slice va G.vs.length vc] 30 (0, 0))) := (hb.block _ (row_lt v7.out)).trans v7.out
    replace v9 : Hid (u8.heap[u3.heap.size]? = some (.cells #[.slice ra G.ts.length rc, .slice ta G.vs.length tc] 30 (0, 0))) := (hb.block _ (row_lt v9.out)).trans v9.out
    replace v11 : Hid (u8.heap[u4.heap.size]? = some (.cells #[.slice ca c.ts.length cc, .slice da c.vs.length dc] 30 (0, 0))) := (hb.block _ (row_lt v11.out)).trans v11.out
    replace v12 : Hid (u8.heap[u4.heap.size + 1]? = some (.cells #[.int .i64 ak, .int .i64 an, .string as'] 32 (0, 0))) := (hb.block _ (row_lt v12.out)).trans v12.out
    replace v13 : Hid (u8.heap[u4.heap.size + 1 + 1]? = some (.cells #[.int .i64 bk, .int .i64 bn, .string bs] 32 (0, 0))) := (hb.block _ (row_lt v13.out)).trans v13.out
    replace v14 : Hid (u8.heap[u5.heap.size]? = some (.cells #[.int .i64 xk, .int .i64 xn, .string xs] 32 (0, 0))) := (hb.block _ (row_lt v14.out)).trans v14.out
    replace v16 : Hid (u8.heap[u6.heap.size]? = some (.cells #[.int .i64 xk, .int .i64 xn, .string xs] 32 (0, 0))) := (hb.block _ (row_lt v16.out)).trans v16.out
    replace v19 : Hid (u8.heap[u7.heap.size]? = some (.cells #[.slice fa f.ts.length fc, .slice ga f.vs.length gc] 30 (0, 0))) := (hb.block _ (row_lt v19.out)).trans v19.out
    replace v20 : Hid (u8.heap[u7.heap.size + 1]? = some (.cells #[.int .i64 ek, .int .i64 en, .string es] 32 (0, 0))) := (hb.block _ (row_lt v20.out)).trans v20.out
    replace T1 : TV u8 w.heap.size hh pa ua := tv_b T1 hb
    replace T2 : TV u8 W1.heap.size G qa va := tv_b T2 hb
    replace T3 : TV u8 W2.heap.size G ra ta := tv_b T3 hb
    replace T4 : TV u8 W3.heap.size c ca da := tv_b T4 hb
    replace T5 : TV u8 W6.heap.size f fa ga := tv_b T5 hb
    replace BW : Below w.heap.size w u8 := BW.trans (hb.mono BW.size)
    try dsimp only [Sl.v]
    obtain ⟨W8, hhW8⟩ : ∃ W8, W8 = u8.alloc (Obj.cells #[.int .i64 zk, .int .i64 zn, .string zs] 32) := ⟨_, rfl⟩
    obtain ⟨rA, hs0, BA⟩ := rows1 u8 (Obj.cells #[.int .i64 zk, .int .i64 zn, .string zs] 32)
    rw [← hhW8] at rA hs0 BA
    have v190 := cell_of_row _ _ 0 _ _ _ v19.out
    have v191 := cell_of_row _ _ 1 _ _ _ v19.out
    have v200 := cell_of_row _ _ 0 _ _ _ v20.out
    have v201 := cell_of_row _ _ 1 _ _ _ v20.out
    have v202 := cell_of_row _ _ 2 _ _ _ v20.out
    simp only [List.getElem?_toArray, List.getElem?_cons_zero, List.getElem?_cons_succ] at v190 v191 v200 v201 v202
    have lv19 := row_lt v19.out
    have lv20 := row_lt v20.out
    go_wp2_with fail
    rw [← hhW8]
    clear hhW8
    clear v190 v191 v200 v201 v202
    clear lv19 lv20
    replace v3 : Hid (W8.heap[u1.heap.size]? = some (.cells #[.slice pa hh.ts.length pc, .slice ua hh.vs.length uc] 30 (0, 0))) := (BA.block _ (row_lt v3.out)).trans v3.out
    replace v4 : Hid (W8.heap[u1.heap.size + 1]? = some (.cells #[.int .i64 tk, .int .i64 tn, .string ts] 32 (0, 0))) := (BA.block _ (row_lt v4.out)).trans v4.out
    replace v5 : Hid (W8.heap[u1.heap.size + 1 + 1]? = some (.cells #[.int .i64 kk, .int .i64 kn, .string ks] 32 (0, 0))) := (BA.block _ (row_lt v5.out)).trans v5.out
    replace v6 : Hid (W8.heap[u1.heap.size + 1 + 1 + 1]? = some (.cells #[.int .i64 vk, .int .i64 vn, .string vs] 32 (0, 0))) := (BA.block _ (row_lt v6.out)).trans v6.out
    replace v7 : Hid (W8.heap[u2.heap.size]? = some (.cells #[.slice qa G.ts.length qc, .slice va G.vs.length vc] 30 (0, 0))) := (BA.block _ (row_lt v7.out)).trans v7.out
    replace v9 : Hid (W8.heap[u3.heap.size]? = some (.cells #[.slice ra G.ts.length rc, .slice ta G.vs.length tc] 30 (0, 0))) := (BA.block _ (row_lt v9.out)).trans v9.out
    replace v11 : Hid (W8.heap[u4.heap.size]? = some (.cells #[.slice ca c.ts.length cc, .slice da c.vs.length dc] 30 (0, 0))) := (BA.block _ (row_lt v11.out)).trans v11.out
    replace v12 : Hid (W8.heap[u4.heap.size + 1]? = some (.cells #[.int .i64 ak, .int .i64 an, .string as'] 32 (0, 0))) := (BA.block _ (row_lt v12.out)).trans v12.out
    replace v13 : Hid (W8.heap[u4.heap.size + 1 + 1]? = some (.cells #[.int .i64 bk, .int .i64 bn, .string bs] 32 (0, 0))) := (BA.block _ (row_lt v13.out)).trans v13.out
    replace v14 : Hid (W8.heap[u5.heap.size]? = some (.cells #[.int .i64 xk, .int .i64 xn, .string xs] 32 (0, 0))) := (BA.block _ (row_lt v14.out)).trans v14.out
    replace v16 : Hid (W8.heap[u6.heap.size]? = some (.cells #[.int .i64 xk, .int .i64 xn, .string xs] 32 (0, 0))) := (BA.block _ (row_lt v16.out)).trans v16.out
    replace v19 : Hid (W8.heap[u7.heap.size]? = some (.cells #[.slice fa f.ts.length fc, .slice ga f.vs.length gc] 30 (0, 0))) := (BA.block _ (row_lt v19.out)).trans v19.out
    replace v20 : Hid (W8.heap[u7.heap.size + 1]? = some (.cells #[.int .i64 ek, .int .i64 en, .string es] 32 (0, 0))) := (BA.block _ (row_lt v20.out)).trans v20.out
    replace T1 : TV W8 w.heap.size hh pa ua := tv_b T1 BA
    replace T2 : TV W8 W1.heap.size G qa va := tv_b T2 BA
    replace T3 : TV W8 W2.heap.size G ra ta := tv_b T3 BA
    replace T4 : TV W8 W3.heap.size c ca da := tv_b T4 BA
    replace T5 : TV W8 W6.heap.size f fa ga := tv_b T5 BA
    replace BW : Below w.heap.size w W8 := BW.trans (BA.mono BW.size)
    have v21 : Hid (W8.heap[u8.heap.size]? = some (.cells #[.int .i64 zk, .int .i64 zn, .string zs] 32 (0, 0))) := rA
    clear hb BA hs0 rA
    refine (un_spec op f fa ga fc gc _ _ N ek en es _ (Nat.le_refl _) T5.1 hF.wt (fun _ => HN.out)).mono ?_
    rw [HZ.out]
    rintro e u9 ⟨rfl, hb⟩
    replace v3 : Hid (u9.heap[u1.heap.size]? = some (.cells #[.slice pa hh.ts.length pc, .slice ua hh.vs.length uc] 30 (0, 0))) := (hb.block _ (row_lt v3.out)).trans v3.out
    replace v4 : Hid (u9.heap[u1.heap.size + 1]? = some (.cells #[.int .i64 tk, .int .i64 tn, .string ts] 32 (0, 0))) := (hb.block _ (row_lt v4.out)).trans v4.out
    replace v5 : Hid (u9.heap[u1.heap.size + 1 + 1]? = some (.cells #[.int .i64 kk, .int .i64 kn, .string ks] 32 (0, 0))) := (hb.block _ (row_lt v5.out)).trans v5.out
    replace v6 : Hid (u9.heap[u1.heap.size + 1 + 1 + 1]? = some (.cells #[.int .i64 vk, .int .i64 vn, .string vs] 32 (0, 0))) := (hb.block _ (row_lt v6.out)).trans v6.out
    replace v7 : Hid (u9.heap[u2.heap.size]? = some (.cells #[.slice qa G.ts.length qc, .slice va G.vs.length vc] 30 (0, 0))) := (hb.block _ (row_lt v7.out)).trans v7.out
    replace v9 : Hid (u9.heap[u3.heap.size]? = some (.cells #[.slice ra G.ts.length rc, .slice ta G.vs.length tc] 30 (0, 0))) := (hb.block _ (row_lt v9.out)).trans v9.out
    replace v11 : Hid (u9.heap[u4.heap.size]? = some (.cells #[.slice ca c.ts.length cc, .slice da c.vs.length dc] 30 (0, 0))) := (hb.block _ (row_lt v11.out)).trans v11.out
    replace v12 : Hid (u9.heap[u4.heap.size + 1]? = some (.cells #[.int .i64 ak, .int .i64 an, .string as'] 32 (0, 0))) := (hb.block _ (row_lt v12.out)).trans v12.out
    replace v13 : Hid (u9.heap[u4.heap.size + 1 + 1]? = some (.cells #[.int .i64 bk, .int .i64 bn, .string bs] 32 (0, 0))) := (hb.block _ (row_lt v13.out)).trans v13.out
    replace v14 : Hid (u9.heap[u5.heap.size]? = some (.cells #[.int .i64 xk, .int .i64 xn, .string xs] 32 (0, 0))) := (hb.block _ (row_lt v14.out)).trans v14.out
    replace v16 : Hid (u9.heap[u6.heap.size]? = some (.cells #[.int .i64 xk, .int .i64 xn, .string xs] 32 (0, 0))) := (hb.block _ (row_lt v16.out)).trans v16.out
    replace v19 : Hid (u9.heap[u7.heap.size]? = some (.cells #[.slice fa f.ts.length fc, .slice ga f.vs.length gc] 30 (0, 0))) := (hb.block _ (row_lt v19.out)).trans v19.out
    replace v20 : Hid (u9.heap[u7.heap.size + 1]? = some (.cells #[.int .i64 ek, .int .i64 en, .string es] 32 (0, 0))) := (hb.block _ (row_lt v20.out)).trans v20.out
    replace v21 : Hid (u9.heap[u8.heap.size]? = some (.cells #[.int .i64 zk, .int .i64 zn, .string zs] 32 (0, 0))) := (hb.block _ (row_lt v21.out)).trans v21.out
    replace T1 : TV u9 w.heap.size hh pa ua := tv_b T1 hb
    replace T2 : TV u9 W1.heap.size G qa va := tv_b T2 hb
    replace T3 : TV u9 W2.heap.size G ra ta := tv_b T3 hb
    replace T4 : TV u9 W3.heap.size c ca da := tv_b T4 hb
    replace T5 : TV u9 W6.heap.size f fa ga := tv_b T5 hb
    replace BW : Below w.heap.size w u9 := BW.trans (hb.mono BW.size)
    try dsimp only [Sl.v]
    obtain ⟨W9, hhW9⟩ : ∃ W9, W9 = u9.alloc (Obj.cells #[.int .i64 zk, .int .i64 zn, .string zs] 32) := ⟨_, rfl⟩
    obtain ⟨rA, hs0, BA⟩ := rows1 u9 (Obj.cells #[.int .i64 zk, .int .i64 zn, .string zs] 32)
    rw [← hhW9] at rA hs0 BA
    have v70 := cell_of_row _ _ 0 _ _ _ v7.out
    have v71 := cell_of_row _ _ 1 _ _ _ v7.out
    have v90 := cell_of_row _ _ 0 _ _ _ v9.out
    have v91 := cell_of_row _ _ 1 _ _ _ v9.out
    simp only [List.getElem?_toArray, List.getElem?_cons_zero, List.getElem?_cons_succ] at v70 v71 v90 v91
    have lv7 := row_lt v7.out
    have lv9 := row_lt v9.out
    go_wp2_with fail
    rw [← hhW9]
    clear hhW9
    clear v70 v71 v90 v91
    clear lv7 lv9
    replace v3 : Hid (W9.heap[u1.heap.size]? = some (.cells #[.slice pa hh.ts.length pc, .slice ua hh.vs.length uc] 30 (0, 0))) := (BA.block _ (row_lt v3.out)).trans v3.out
    replace v4 : Hid (W9.heap[u1.heap.size + 1]? = some (.cells #[.int .i64 tk, .int .i64 tn, .string ts] 32 (0, 0))) := (BA.block _ (row_lt v4.out)).trans v4.out
    replace v5 : Hid (W9.heap[u1.heap.size + 1 + 1]? = some (.cells #[.int .i64 kk, .int .i64 kn, .string ks] 32 (0, 0))) := (BA.block _ (row_lt v5.out)).trans v5.out
    replace v6 : Hid (W9.heap[u1.heap.size + 1 + 1 + 1]? = some (.cells #[.int .i64 vk, .int .i64 vn, .string vs] 32 (0, 0))) := (BA.block _ (row_lt v6.out)).trans v6.out
    replace v7 : Hid (W9.heap[u2.heap.size]? = some (.cells #[.slice qa G.ts.length qc, .slice va G.vs.length vc] 30 (0, 0))) := (BA.block _ (row_lt v7.out)).trans v7.out
    replace v9 : Hid (W9.heap[u3.heap.size]? = some (.cells #[.slice ra G.ts.length rc, .slice ta G.vs.length tc] 30 (0, 0))) := (BA.block _ (row_lt v9.out)).trans v9.out
    replace v11 : Hid (W9.heap[u4.heap.size]? = some (.cells #[.slice ca c.ts.length cc, .slice da c.vs.length dc] 30 (0, 0))) := (BA.block _ (row_lt v11.out)).trans v11.out
    replace v12 : Hid (W9.heap[u4.heap.size + 1]? = some (.cells #[.int .i64 ak, .int .i64 an, .string as'] 32 (0, 0))) := (BA.block _ (row_lt v12.out)).trans v12.out
    replace v13 : Hid (W9.heap[u4.heap.size + 1 + 1]? = some (.cells #[.int .i64 bk, .int .i64 bn, .string bs] 32 (0, 0))) := (BA.block _ (row_lt v13.out)).trans v13.out
    replace v14 : Hid (W9.heap[u5.heap.size]? = some (.cells #[.int .i64 xk, .int .i64 xn, .string xs] 32 (0, 0))) := (BA.block _ (row_lt v14.out)).trans v14.out
    replace v16 : Hid (W9.heap[u6.heap.size]? = some (.cells #[.int .i64 xk, .int .i64 xn, .string xs] 32 (0, 0))) := (BA.block _ (row_lt v16.out)).trans v16.out
    replace v19 : Hid (W9.heap[u7.heap.size]? = some (.cells #[.slice fa f.ts.length fc, .slice ga f.vs.length gc] 30 (0, 0))) := (BA.block _ (row_lt v19.out)).trans v19.out
    replace v20 : Hid (W9.heap[u7.heap.size + 1]? = some (.cells #[.int .i64 ek, .int .i64 en, .string es] 32 (0, 0))) := (BA.block _ (row_lt v20.out)).trans v20.out
    replace v21 : Hid (W9.heap[u8.heap.size]? = some (.cells #[.int .i64 zk, .int .i64 zn, .string zs] 32 (0, 0))) := (BA.block _ (row_lt v21.out)).trans v21.out
    replace T1 : TV W9 w.heap.size hh pa ua := tv_b T1 BA
    replace T2 : TV W9 W1.heap.size G qa va := tv_b T2 BA
    replace T3 : TV W9 W2.heap.size G ra ta := tv_b T3 BA
    replace T4 : TV W9 W3.heap.size c ca da := tv_b T4 BA
    replace T5 : TV W9 W6.heap.size f fa ga := tv_b T5 BA
    replace BW : Below w.heap.size w W9 := BW.trans (BA.mono BW.size)
    have v23 : Hid (W9.heap[u9.heap.size]? = some (.cells #[.int .i64 zk, .int .i64 zn, .string zs] 32 (0, 0))) := rA
    clear hb BA hs0 rA
    clear T4 T5 v11 v12 v13 v19 v20
    refine (sameH_same G qa va ra ta qc vc rc tc _ _ _ _ W9 (Nat.le_refl _) (Nat.le_refl _) (Nat.le_trans HGP.out.2.1 (by decide)) T2.1 T2.2 T3.1 T3.2).mono ?_
    rintro e u10 ⟨rfl, hb⟩
    replace v3 : Hid (u10.heap[u1.heap.size]? = some (.cells #[.slice pa hh.ts.length pc, .slice ua hh.vs.length uc] 30 (0, 0))) := (hb.block _ (row_lt v3.out)).trans v3.out
    replace v4 : Hid (u10.heap[u1.heap.size + 1]? = some (.cells #[.int .i64 tk, .int .i64 tn, .string ts] 32 (0, 0))) := (hb.block _ (row_lt v4.out)).trans v4.out
    replace v5 : Hid (u10.heap[u1.heap.size + 1 + 1]? = some (.cells #[.int .i64 kk, .int .i64 kn, .string ks] 32 (0, 0))) := (hb.block _ (row_lt v5.out)).trans v5.out
    replace v6 : Hid (u10.heap[u1.heap.size + 1 + 1 + 1]? = some (.cells #[.int .i64 vk, .int .i64 vn, .string vs] 32 (0, 0))) := (hb.block _ (row_lt v6.out)).trans v6.out
    replace v7 : Hid (u10.heap[u2.heap.size]? = some (.cells #[.slice qa G.ts.length qc, .slice va G.vs.length vc] 30 (0, 0))) := (hb.block _ (row_lt v7.out)).trans v7.out
    replace v9 : Hid (u10.heap[u3.heap.size]? = some (.cells #[.slice ra G.ts.length rc, .slice ta G.vs.length tc] 30 (0, 0))) := (hb.block _ (row_lt v9.out)).trans v9.out
    replace v14 : Hid (u10.heap[u5.heap.size]? = some (.cells #[.int .i64 xk, .int .i64 xn, .string xs] 32 (0, 0))) := (hb.block _ (row_lt v14.out)).trans v14.out
    replace v16 : Hid (u10.heap[u6.heap.size]? = some (.cells #[.int .i64 xk, .int .i64 xn, .string xs] 32 (0, 0))) := (hb.block _ (row_lt v16.out)).trans v16.out
    replace v21 : Hid (u10.heap[u8.heap.size]? = some (.cells #[.int .i64 zk, .int .i64 zn, .string zs] 32 (0, 0))) := (hb.block _ (row_lt v21.out)).trans v21.out
    replace v23 : Hid (u10.heap[u9.heap.size]? = some (.cells #[.int .i64 zk, .int .i64 zn, .string zs] 32 (0, 0))) := (hb.block _ (row_lt v23.out)).trans v23.out
    replace T1 : TV u10 w.heap.size hh pa ua := tv_b T1 hb
    replace T2 : TV u10 W1.heap.size G qa va := tv_b T2 hb
    replace T3 : TV u10 W2.heap.size G ra ta := tv_b T3 hb
    replace BW : Below w.heap.size w u10 := BW.trans (hb.mono BW.size)
    try dsimp only [Sl.v]
    clear hb T3 v9
    have v140 := cell_of_row _ _ 0 _ _ _ v14.out
    have v141 := cell_of_row _ _ 1 _ _ _ v14.out
    have v142 := cell_of_row _ _ 2 _ _ _ v14.out
    have v160 := cell_of_row _ _ 0 _ _ _ v16.out
    have v161 := cell_of_row _ _ 1 _ _ _ v16.out
    have v162 := cell_of_row _ _ 2 _ _ _ v16.out
    have v210 := cell_of_row _ _ 0 _ _ _ v21.out
    have v211 := cell_of_row _ _ 1 _ _ _ v21.out
    have v212 := cell_of_row _ _ 2 _ _ _ v21.out
    have v230 := cell_of_row _ _ 0 _ _ _ v23.out
    have v231 := cell_of_row _ _ 1 _ _ _ v23.out
    have v232 := cell_of_row _ _ 2 _ _ _ v23.out
    simp only [List.getElem?_toArray, List.getElem?_cons_zero, List.getElem?_cons_succ] at v140 v141 v142 v160 v161 v162 v210 v211 v212 v230 v231 v232
    cases ok with
    | false =>
      have e : G = hh := by rw [HG.out]; exact setAt_no HK.out.symm
      rw [show setU false = ⟨#[105, 110, 100, 101, 120]⟩ from rfl]
      subst e
      have v70 := cell_of_row _ _ 0 _ _ _ v7.out
      have v71 := cell_of_row _ _ 1 _ _ _ v7.out
      simp only [List.getElem?_toArray, List.getElem?_cons_zero, List.getElem?_cons_succ] at v70 v71
      have v30 := cell_of_row _ _ 0 _ _ _ v3.out
      have v31 := cell_of_row _ _ 1 _ _ _ v3.out
      simp only [List.getElem?_toArray, List.getElem?_cons_zero, List.getElem?_cons_succ] at v30 v31
      go_wp2_with fail
      refine (sameH_same _ qa va pa ua qc vc pc uc _ _ _ _ _ (Nat.le_refl _) (Nat.le_refl _) (Nat.le_trans HGP.out.2.1 (by decide)) T2.1 T2.2 T1.1 T1.2).mono ?_
      rintro e w' ⟨rfl, hb⟩
      go_wp2_with fail
      go_ret
      exact ⟨rfl, BW.trans (hb.mono BW.size)⟩
    | true =>
      have hs : setOk hh tk tn ⟨kk, kn, ks⟩ ⟨vk, vn, vs⟩ = true := HK.out.symm
      have hG := HG.out
      unfold Hp.setAt at hG
      rw [if_pos hs] at hG
      simp only [setOk, Bool.and_eq_true, decide_eq_true_eq, Bool.not_eq_true', decide_eq_false_iff_not] at hs
      obtain ⟨htab, hk0, hlen⟩ := hs
      obtain ⟨rfl, I, rfl, hI⟩ : tk = 4 ∧ ∃ I : Nat, tn = I ∧ I < hh.ts.length := by
        simp only [tabB, Bool.and_eq_true, decide_eq_true_eq, beq_iff_eq] at htab
        exact ⟨htab.1, tn.toNat, by omega, by omega⟩
      have HROW : Hid (∀ i, G.ts[i]?.getD [] = if I = i then withF ⟨kk, kn, ks⟩ ⟨vk, vn, vs⟩ (decide (vk = 0)) (hh.ts[i]?.getD []) else hh.ts[i]?.getD []) := fun i => by
        rw [hG]
        show (hh.ts.set (I : Int).toNat (setL hh I ⟨kk, kn, ks⟩ ⟨vk, vn, vs⟩))[i]?.getD [] = _
        rw [Int.toNat_natCast, List.getElem?_set]
        by_cases e : I = i
        · subst e; rw [if_pos rfl, if_pos hI, if_pos rfl]; simp [setL]
        · rw [if_neg e, if_neg e]
      obtain ⟨rk, rn, rs, hR⟩ : ∃ rk rn rs, (findV ⟨kk, kn, ks⟩ (G.ts[I]?.getD [])).getD nilL = ⟨rk, rn, rs⟩ := ⟨_, _, _, rfl⟩
      have hRF : (findV ⟨kk, kn, ks⟩ (G.ts[I]?.getD [])).getD nilL = if vk = 0 then nilL else ⟨vk, vn, vs⟩ := by
        rw [HROW.out I, if_pos rfl, findV_with]
        by_cases e : vk = 0
        · simp [e]
        · simp [e]
      rw [hR] at hRF
      have HBK : Hid (getV G 4 I ts kk kn ks = .tuple #[.agg #[.int .i64 rk, .int .i64 rn, .string rs], .string ⟨#[]⟩]) := by
        show _ = _
        have hb : tabB G.ts.length 4 I = true := by rw [HGP.out.2.2.2]; exact htab
        unfold getV
        rw [if_neg (by decide), if_pos hb, Int.toNat_natCast, hR]
        rfl
      have HRF : Hid ((⟨rk, rn, rs⟩ : Vl) = if vk = 0 then nilL else ⟨vk, vn, vs⟩) := hRF
      rw [show setU true = ⟨#[]⟩ from rfl]
      clear hG hlen hR hRF htab HG HK
      have v70 := cell_of_row _ _ 0 _ _ _ v7.out
      have v71 := cell_of_row _ _ 1 _ _ _ v7.out
      simp only [List.getElem?_toArray, List.getElem?_cons_zero, List.getElem?_cons_succ] at v70 v71
      have v40 := cell_of_row _ _ 0 _ _ _ v4.out
      have v41 := cell_of_row _ _ 1 _ _ _ v4.out
      have v42 := cell_of_row _ _ 2 _ _ _ v4.out
      simp only [List.getElem?_toArray, List.getElem?_cons_zero, List.getElem?_cons_succ] at v40 v41 v42
      have v50 := cell_of_row _ _ 0 _ _ _ v5.out
      have v51 := cell_of_row _ _ 1 _ _ _ v5.out
      have v52 := cell_of_row _ _ 2 _ _ _ v5.out
      simp only [List.getElem?_toArray, List.getElem?_cons_zero, List.getElem?_cons_succ] at v50 v51 v52
      go_wp2_with fail
      refine (get_impl G qa va qc vc _ _ 4 I ts kk kn ks _ (Nat.le_refl _) T2.1 hts HGP.out.2.2.1).mono ?_
      rw [HBK.out]
      rintro e u11 ⟨rfl, hb⟩
      clear v70 v71 v40 v41 v42 v50 v51 v52 v14 v16 v21 v23 v140 v141 v142 v160 v161 v162 v210 v211 v212 v230 v231 v232 HX HZ HN hC hVa hVb hF hVe
      replace v3 := (hb.block _ (row_lt v3.out)).trans v3.out
      replace v4 := (hb.block _ (row_lt v4.out)).trans v4.out
      replace v5 := (hb.block _ (row_lt v5.out)).trans v5.out
      replace v6 := (hb.block _ (row_lt v6.out)).trans v6.out
      replace v7 := (hb.block _ (row_lt v7.out)).trans v7.out
      replace T1 := tv_b T1 hb
      replace T2 := tv_b T2 hb
      replace BW := BW.trans (hb.mono BW.size)
      obtain ⟨WL, hWL⟩ : ∃ WL, WL = u11.alloc (Obj.cells #[.int .i64 rk, .int .i64 rn, .string rs] 32) := ⟨_, rfl⟩
      obtain ⟨rA, hs0, BA⟩ := rows1 u11 (Obj.cells #[.int .i64 rk, .int .i64 rn, .string rs] 32)
      rw [← hWL] at rA hs0 BA
      have v30 := cell_of_row _ _ 0 _ _ _ v3
      have v31 := cell_of_row _ _ 1 _ _ _ v3
      simp only [List.getElem?_toArray, List.getElem?_cons_zero, List.getElem?_cons_succ] at v30 v31
      have v60 := cell_of_row _ _ 0 _ _ _ v6
      have v61 := cell_of_row _ _ 1 _ _ _ v6
      have v62 := cell_of_row _ _ 2 _ _ _ v6
      simp only [List.getElem?_toArray, List.getElem?_cons_zero, List.getElem?_cons_succ] at v60 v61 v62
      have v70 := cell_of_row _ _ 0 _ _ _ v7
      have v71 := cell_of_row _ _ 1 _ _ _ v7
      simp only [List.getElem?_toArray, List.getElem?_cons_zero, List.getElem?_cons_succ] at v70 v71
      have l3 := row_lt v3
      have l6 := row_lt v6
      have l7 := row_lt v7
      have HV3 : Hid (WL.heap[u1.heap.size]? = some (Obj.cells #[.slice pa hh.ts.length pc, .slice ua hh.vs.length uc] 30)) := (BA.block _ l3).trans v3
      have HV4 : Hid (WL.heap[u1.heap.size + 1]? = some (Obj.cells #[.int .i64 4, .int .i64 (I : Int), .string ts] 32)) := (BA.block _ (row_lt v4)).trans v4
      have HV5 : Hid (WL.heap[u1.heap.size + 1 + 1]? = some (Obj.cells #[.int .i64 kk, .int .i64 kn, .string ks] 32)) := (BA.block _ (row_lt v5)).trans v5
      have HV7 : Hid (WL.heap[u2.heap.size]? = some (Obj.cells #[.slice qa G.ts.length qc, .slice va G.vs.length vc] 30)) := (BA.block _ l7).trans v7
      have T1 := tv_b T1 BA
      have T2 := tv_b T2 BA
      have HBW : Hid (Below w.heap.size w WL) := BW.trans (BA.mono BW.size)
      have r0 := cell_of_row _ _ 0 _ _ _ rA
      have r1 := cell_of_row _ _ 1 _ _ _ rA
      have r2 := cell_of_row _ _ 2 _ _ _ rA
      simp only [List.getElem?_toArray, List.getElem?_cons_zero, List.getElem?_cons_succ] at r0 r1 r2
      rw [HGP.out.2.2.2] at v70
      clear hb BW v3 v4 v5 v6 v7 BA rA hs0
      by_cases hv0 : vk = 0
      · have hr := HRF.out
        rw [if_pos hv0] at hr
        obtain ⟨rfl, rfl, rfl⟩ : rk = 0 ∧ rn = 0 ∧ rs = ⟨#[]⟩ := by
          simp only [nilL, Vl.mk.injEq] at hr; exact hr
        subst hv0
        clear hr HRF
        obtain rfl : vs = ⟨#[]⟩ := hVv.s0 (by decide)
        by_cases hvn : vn = 0
        · subst hvn
          go_wp2_with fail
          all_goals
            rw [← hWL]
            clear hWL
            have hts6 : hh.ts.length ≤ 600 := hD.ts
            go_loopw [27] (fun x wr => ∃ i : Nat, x = .int .i64 i ∧ i ≤ hh.ts.length ∧ Below WL.heap.size WL wr) (fun x _ => hh.ts.length - (intOf x).toNat)
            case atStart => exact ⟨0, rfl, Nat.zero_le _, Below.refl _ _⟩
            case round =>
              clear v30 v31 v60 v61 v62 v70 v71 l3 l6 l7 r0 r1 r2
              obtain ⟨i, rfl, hil, hbl⟩ := hrel
              have hzl := hbl.size
              have v3r := (hbl.block _ (row_lt HV3.out)).trans HV3.out
              have p0 := cell_of_row _ _ 0 _ _ _ v3r
              have p1 := cell_of_row _ _ 1 _ _ _ v3r
              simp only [List.getElem?_toArray, List.getElem?_cons_zero, List.getElem?_cons_succ] at p0 p1
              have HBL : Hid (Below WL.heap.size WL wr) := hbl
              clear v3r hbl
              by_cases hlt : i < hh.ts.length
              · obtain ⟨hl, g, o, d0, e0, rfl, _, hg, hc, hP⟩ := T1.1 i hlt
                obtain ⟨row, hrow⟩ : ∃ row, row = hh.ts[i] := ⟨_, rfl⟩
                have HROWI : Hid (hh.ts[i]?.getD [] = row) := by show _ = _; rw [List.getElem?_eq_getElem hlt, hrow]; rfl
                have hr2 : row.length ≤ 201 := by rw [hrow]; exact hD.good.t i hlt
                rw [← hrow] at hl hc hP
                clear hrow
                go_wp2_with fail
                go_loopw [28] (fun y wx => ∃ j : Nat, y = .int .i64 j ∧ j ≤ row.length ∧ Below WL.heap.size WL wx) (fun y _ => row.length - (intOf y).toNat)
                case atStart => exact ⟨0, rfl, Nat.zero_le _, HBL.out⟩
                case round =>
                  rename World => wx
                  clear p0 p1
                  obtain ⟨j, rfl, hjl, hbx⟩ := hrel
                  have hzx := hbx.size
                  have v3r := (hbx.block _ (row_lt HV3.out)).trans HV3.out
                  have l3 := row_lt v3r
                  have p0 := cell_of_row _ _ 0 _ _ _ v3r
                  have p1 := cell_of_row _ _ 1 _ _ _ v3r
                  simp only [List.getElem?_toArray, List.getElem?_cons_zero, List.getElem?_cons_succ] at p0 p1
                  have hcx := (hbx.cell (p := ⟨g, o + i, none⟩) (by show g < _; omega)).trans hc
                  have HBX : Hid (Below WL.heap.size WL wx) := hbx
                  have hgx : g < wx.heap.size := by omega
                  clear v3r
                  by_cases hjt : j < row.length
                  · obtain ⟨hok, g2, o2, rfl, _, hg2, hc2⟩ := hP j hjt
                    have x0 := (hbx.cell (p := ⟨g2, o2 + 6 * j + 0, none⟩) (by show g2 < _; omega)).trans (hc2 0 (by decide))
                    have x1 := (hbx.cell (p := ⟨g2, o2 + 6 * j + 1, none⟩) (by show g2 < _; omega)).trans (hc2 1 (by decide))
                    have x2 := (hbx.cell (p := ⟨g2, o2 + 6 * j + 2, none⟩) (by show g2 < _; omega)).trans (hc2 2 (by decide))
                    simp only [Pr.cs, List.getElem?_cons_zero, List.getElem?_cons_succ, Nat.add_zero] at x0 x1 x2
                    have mj : j * 6 = 6 * j := Nat.mul_comm _ _
                    have hg2x : g2 < wx.heap.size := by omega
                    obtain ⟨qk, qn, qs, hq⟩ : ∃ qk qn qs, row[j].key = ⟨qk, qn, qs⟩ := ⟨_, _, _, rfl⟩
                    rw [hq] at x0 x1 x2
                    dsimp only at x0 x1 x2
                    clear hq hc2 hok
                    obtain ⟨a0, a1, a2, hA⟩ : ∃ a0 a1 a2, (findV ⟨qk, qn, qs⟩ row).getD nilL = ⟨a0, a1, a2⟩ := ⟨_, _, _, rfl⟩
                    obtain ⟨b0, b1, b2, hB⟩ : ∃ b0 b1 b2, (findV ⟨qk, qn, qs⟩ (G.ts[i]?.getD [])).getD nilL = ⟨b0, b1, b2⟩ := ⟨_, _, _, rfl⟩
                    have HA : Hid (getV hh 4 i ⟨#[]⟩ qk qn qs = .tuple #[.agg #[.int .i64 a0, .int .i64 a1, .string a2], .string ⟨#[]⟩]) := by
                      show _ = _
                      have hb : tabB hh.ts.length 4 i = true := by simp [tabB]; omega
                      unfold getV
                      rw [if_neg (by decide), if_pos hb, Int.toNat_natCast, HROWI.out, hA]
                      rfl
                    have HB : Hid (getV G 4 i ⟨#[]⟩ qk qn qs = .tuple #[.agg #[.int .i64 b0, .int .i64 b1, .string b2], .string ⟨#[]⟩]) := by
                      show _ = _
                      have hb : tabB G.ts.length 4 i = true := by rw [HGP.out.2.2.2]; simp [tabB]; omega
                      unfold getV
                      rw [if_neg (by decide), if_pos hb, Int.toNat_natCast, hB]
                      rfl
                    have HS : Hid (¬ (i = I ∧ (⟨qk, qn, qs⟩ : Vl) = ⟨kk, kn, ks⟩) → b0 = a0 ∧ b1 = a1 ∧ b2 = a2) := fun hn => by
                      have e : findV ⟨qk, qn, qs⟩ (G.ts[i]?.getD []) = findV ⟨qk, qn, qs⟩ row := by
                        rw [HROW.out i, HROWI.out]
                        by_cases hi : I = i
                        · rw [if_pos hi]
                          exact findV_other _ _ _ (fun e => hn ⟨hi.symm, e⟩) _ _
                        · rw [if_neg hi]
                      rw [e, hA] at hB
                      simp only [Vl.mk.injEq] at hB
                      exact ⟨hB.1.symm, hB.2.1.symm, hB.2.2.symm⟩
                    clear hA hB
                    obtain ⟨W1x, hW1x⟩ : ∃ W, W = wx.alloc (Obj.cells #[.int .i64 qk, .int .i64 qn, .string qs] 32) := ⟨_, rfl⟩
                    have bq1 : Below wx.heap.size wx W1x := hW1x ▸ bel_alloc _ _
                    have rq1 : W1x.heap[wx.heap.size]? = some (Obj.cells #[.int .i64 qk, .int .i64 qn, .string qs] 32) := by rw [hW1x]; exact heap_alloc_new _ _
                    have B1 := hbx.trans (bq1.mono hzx)
                    go_wp2_with fail
                    rw [← hW1x]
                    clear hW1x
                    refine (get_impl hh (some ⟨g, o, none⟩) ua pc uc _ _ 4 i ⟨#[]⟩ qk qn qs _ (Nat.le_refl _) (tv_b T1 B1).1 (by decide) hD.good.sm).mono ?_
                    rw [HA.out]
                    rintro e x1w ⟨rfl, hb1⟩
                    have B2 := B1.trans (hb1.mono B1.size)
                    have rq2 := (hb1.block _ (row_lt rq1)).trans rq1
                    have v7r := (B2.block _ (row_lt HV7.out)).trans HV7.out
                    have l7 := row_lt v7r
                    have lq := row_lt rq2
                    have g70 := cell_of_row _ _ 0 _ _ _ v7r
                    have g71 := cell_of_row _ _ 1 _ _ _ v7r
                    simp only [List.getElem?_toArray, List.getElem?_cons_zero, List.getElem?_cons_succ] at g70 g71
                    have q0 := cell_of_row _ _ 0 _ _ _ rq2
                    have q1 := cell_of_row _ _ 1 _ _ _ rq2
                    have q2 := cell_of_row _ _ 2 _ _ _ rq2
                    simp only [List.getElem?_toArray, List.getElem?_cons_zero, List.getElem?_cons_succ] at q0 q1 q2
                    obtain ⟨W2x, hW2x⟩ : ∃ W, W = x1w.alloc (Obj.cells #[.int .i64 a0, .int .i64 a1, .string a2] 32) := ⟨_, rfl⟩
                    have bq2 : Below x1w.heap.size x1w W2x := hW2x ▸ bel_alloc _ _
                    have ra2 : W2x.heap[x1w.heap.size]? = some (Obj.cells #[.int .i64 a0, .int .i64 a1, .string a2] 32) := by rw [hW2x]; exact heap_alloc_new _ _
                    have B3 := B2.trans (bq2.mono B2.size)
                    clear p0 p1 x0 x1 x2 hcx rq1 hb1 B1 v7r bq1
                    go_wp2_with fail
                    rw [← hW2x]
                    clear hW2x
                    refine (get_impl G qa va qc vc _ _ 4 i ⟨#[]⟩ qk qn qs _ (Nat.le_refl _) (tv_b T2 B3).1 (by decide) HGP.out.2.2.1).mono ?_
                    rw [HB.out]
                    rintro e x2w ⟨rfl, hb3⟩
                    have B4 := B3.trans (hb3.mono B3.size)
                    have ra3 := (hb3.block _ (row_lt ra2)).trans ra2
                    have rq3 := (hb3.block _ (by have := row_lt ((bq2.block _ lq).trans rq2); exact this)).trans ((bq2.block _ lq).trans rq2)
                    have v4r := (B4.block _ (row_lt HV4.out)).trans HV4.out
                    have v5r := (B4.block _ (row_lt HV5.out)).trans HV5.out
                    have la := row_lt ra3
                    have lq3 := row_lt rq3
                    have l4 := row_lt v4r
                    have l5 := row_lt v5r
                    clear g70 g71 q0 q1 q2 rq2 ra2 hb3 B3 bq2 B2 l7 lq
                    have y0 := cell_of_row _ _ 0 _ _ _ ra3
                    have y1 := cell_of_row _ _ 1 _ _ _ ra3
                    have y2 := cell_of_row _ _ 2 _ _ _ ra3
                    simp only [List.getElem?_toArray, List.getElem?_cons_zero, List.getElem?_cons_succ] at y0 y1 y2
                    have q0 := cell_of_row _ _ 0 _ _ _ rq3
                    have q1 := cell_of_row _ _ 1 _ _ _ rq3
                    have q2 := cell_of_row _ _ 2 _ _ _ rq3
                    simp only [List.getElem?_toArray, List.getElem?_cons_zero, List.getElem?_cons_succ] at q0 q1 q2
                    have t0 := cell_of_row _ _ 0 _ _ _ v4r
                    have t1 := cell_of_row _ _ 1 _ _ _ v4r
                    have t2 := cell_of_row _ _ 2 _ _ _ v4r
                    simp only [List.getElem?_toArray, List.getElem?_cons_zero, List.getElem?_cons_succ] at t0 t1 t2
                    have k0 := cell_of_row _ _ 0 _ _ _ v5r
                    have k1 := cell_of_row _ _ 1 _ _ _ v5r
                    have k2 := cell_of_row _ _ 2 _ _ _ v5r
                    simp only [List.getElem?_toArray, List.getElem?_cons_zero, List.getElem?_cons_succ] at k0 k1 k2
                    have HB5 : Hid (Below WL.heap.size WL (x2w.alloc (Obj.cells #[.int .i64 b0, .int .i64 b1, .string b2] 32))) := B4.trans ((bel_alloc x2w _).mono B4.size)
                    clear ra3 rq3 v4r v5r B4 HA HB
                    by_cases hsame : i = I ∧ (⟨qk, qn, qs⟩ : Vl) = ⟨kk, kn, ks⟩
                    · obtain ⟨rfl, he⟩ := hsame
                      obtain ⟨rfl, rfl, rfl⟩ : qk = kk ∧ qn = kn ∧ qs = ks := by simp only [Vl.mk.injEq] at he; exact he
                      clear he HS
                      go_wp2_with fail
                      all_goals
                        first
                        | exact ⟨⟨j + 1, by go_num, by omega, HB5.out⟩, by simp [intOf]; omega⟩
                        | (go_roundw; (case rel => exact ⟨j + 1, by go_num, by omega, HB5.out⟩); (case measure => simp [intOf]; omega))
                    · obtain ⟨rfl, rfl, rfl⟩ := HS.out hsame
                      clear hsame HS
                      go_wp2_with fail
                      all_goals
                        first
                        | exact ⟨⟨j + 1, by go_num, by omega, HB5.out⟩, by simp [intOf]; omega⟩
                        | (go_roundw; (case rel => exact ⟨j + 1, by go_num, by omega, HB5.out⟩); (case measure => simp [intOf]; omega))
                  · obtain rfl : j = row.length := by omega
                    clear hP
                    go_wp2_with fail
                    go_roundw
                    case rel => exact ⟨i + 1, by go_num, by omega, HBX.out⟩
                    case measure => simp [intOf]; omega
              · obtain rfl : i = hh.ts.length := by omega
                go_wp2_with fail
                go_ret
                exact ⟨rfl, HBW.out.trans (HBL.out.mono HBW.out.size)⟩
        · have hvn' : ¬ 0 = vn := fun e => hvn e.symm
          go_wp2_with fail
          all_goals
            rw [← hWL]
            clear hWL
            have hts6 : hh.ts.length ≤ 600 := hD.ts
            go_loopw [27] (fun x wr => ∃ i : Nat, x = .int .i64 i ∧ i ≤ hh.ts.length ∧ Below WL.heap.size WL wr) (fun x _ => hh.ts.length - (intOf x).toNat)
            case atStart => exact ⟨0, rfl, Nat.zero_le _, Below.refl _ _⟩
            case round =>
              clear v30 v31 v60 v61 v62 v70 v71 l3 l6 l7 r0 r1 r2
              obtain ⟨i, rfl, hil, hbl⟩ := hrel
              have hzl := hbl.size
              have v3r := (hbl.block _ (row_lt HV3.out)).trans HV3.out
              have p0 := cell_of_row _ _ 0 _ _ _ v3r
              have p1 := cell_of_row _ _ 1 _ _ _ v3r
              simp only [List.getElem?_toArray, List.getElem?_cons_zero, List.getElem?_cons_succ] at p0 p1
              have HBL : Hid (Below WL.heap.size WL wr) := hbl
              clear v3r hbl
              by_cases hlt : i < hh.ts.length
              · obtain ⟨hl, g, o, d0, e0, rfl, _, hg, hc, hP⟩ := T1.1 i hlt
                obtain ⟨row, hrow⟩ : ∃ row, row = hh.ts[i] := ⟨_, rfl⟩
                have HROWI : Hid (hh.ts[i]?.getD [] = row) := by show _ = _; rw [List.getElem?_eq_getElem hlt, hrow]; rfl
                have hr2 : row.length ≤ 201 := by rw [hrow]; exact hD.good.t i hlt
                rw [← hrow] at hl hc hP
                clear hrow
                go_wp2_with fail
                go_loopw [28] (fun y wx => ∃ j : Nat, y = .int .i64 j ∧ j ≤ row.length ∧ Below WL.heap.size WL wx) (fun y _ => row.length - (intOf y).toNat)
                case atStart => exact ⟨0, rfl, Nat.zero_le _, HBL.out⟩
                case round =>
                  rename World => wx
                  clear p0 p1
                  obtain ⟨j, rfl, hjl, hbx⟩ := hrel
                  have hzx := hbx.size
                  have v3r := (hbx.block _ (row_lt HV3.out)).trans HV3.out
                  have l3 := row_lt v3r
                  have p0 := cell_of_row _ _ 0 _ _ _ v3r
                  have p1 := cell_of_row _ _ 1 _ _ _ v3r
                  simp only [List.getElem?_toArray, List.getElem?_cons_zero, List.getElem?_cons_succ] at p0 p1
                  have hcx := (hbx.cell (p := ⟨g, o + i, none⟩) (by show g < _; omega)).trans hc
                  have HBX : Hid (Below WL.heap.size WL wx) := hbx
                  have hgx : g < wx.heap.size := by omega
                  clear v3r
                  by_cases hjt : j < row.length
                  · obtain ⟨hok, g2, o2, rfl, _, hg2, hc2⟩ := hP j hjt
                    have x0 := (hbx.cell (p := ⟨g2, o2 + 6 * j + 0, none⟩) (by show g2 < _; omega)).trans (hc2 0 (by decide))
                    have x1 := (hbx.cell (p := ⟨g2, o2 + 6 * j + 1, none⟩) (by show g2 < _; omega)).trans (hc2 1 (by decide))
                    have x2 := (hbx.cell (p := ⟨g2, o2 + 6 * j + 2, none⟩) (by show g2 < _; omega)).trans (hc2 2 (by decide))
                    simp only [Pr.cs, List.getElem?_cons_zero, List.getElem?_cons_succ, Nat.add_zero] at x0 x1 x2
                    have mj : j * 6 = 6 * j := Nat.mul_comm _ _
                    have hg2x : g2 < wx.heap.size := by omega
                    obtain ⟨qk, qn, qs, hq⟩ : ∃ qk qn qs, row[j].key = ⟨qk, qn, qs⟩ := ⟨_, _, _, rfl⟩
                    rw [hq] at x0 x1 x2
                    dsimp only at x0 x1 x2
                    clear hq hc2 hok
                    obtain ⟨a0, a1, a2, hA⟩ : ∃ a0 a1 a2, (findV ⟨qk, qn, qs⟩ row).getD nilL = ⟨a0, a1, a2⟩ := ⟨_, _, _, rfl⟩
                    obtain ⟨b0, b1, b2, hB⟩ : ∃ b0 b1 b2, (findV ⟨qk, qn, qs⟩ (G.ts[i]?.getD [])).getD nilL = ⟨b0, b1, b2⟩ := ⟨_, _, _, rfl⟩
                    have HA : Hid (getV hh 4 i ⟨#[]⟩ qk qn qs = .tuple #[.agg #[.int .i64 a0, .int .i64 a1, .string a2], .string ⟨#[]⟩]) := by
                      show _ = _
                      have hb : tabB hh.ts.length 4 i = true := by simp [tabB]; omega
                      unfold getV
                      rw [if_neg (by decide), if_pos hb, Int.toNat_natCast, HROWI.out, hA]
                      rfl
                    have HB : Hid (getV G 4 i ⟨#[]⟩ qk qn qs = .tuple #[.agg #[.int .i64 b0, .int .i64 b1, .string b2], .string ⟨#[]⟩]) := by
                      show _ = _
                      have hb : tabB G.ts.length 4 i = true := by rw [HGP.out.2.2.2]; simp [tabB]; omega
                      unfold getV
                      rw [if_neg (by decide), if_pos hb, Int.toNat_natCast, hB]
                      rfl
                    have HS : Hid (¬ (i = I ∧ (⟨qk, qn, qs⟩ : Vl) = ⟨kk, kn, ks⟩) → b0 = a0 ∧ b1 = a1 ∧ b2 = a2) := fun hn => by
                      have e : findV ⟨qk, qn, qs⟩ (G.ts[i]?.getD []) = findV ⟨qk, qn, qs⟩ row := by
                        rw [HROW.out i, HROWI.out]
                        by_cases hi : I = i
                        · rw [if_pos hi]
                          exact findV_other _ _ _ (fun e => hn ⟨hi.symm, e⟩) _ _
                        · rw [if_neg hi]
                      rw [e, hA] at hB
                      simp only [Vl.mk.injEq] at hB
                      exact ⟨hB.1.symm, hB.2.1.symm, hB.2.2.symm⟩
                    clear hA hB
                    obtain ⟨W1x, hW1x⟩ : ∃ W, W = wx.alloc (Obj.cells #[.int .i64 qk, .int .i64 qn, .string qs] 32) := ⟨_, rfl⟩
                    have bq1 : Below wx.heap.size wx W1x := hW1x ▸ bel_alloc _ _
                    have rq1 : W1x.heap[wx.heap.size]? = some (Obj.cells #[.int .i64 qk, .int .i64 qn, .string qs] 32) := by rw [hW1x]; exact heap_alloc_new _ _
                    have B1 := hbx.trans (bq1.mono hzx)
                    go_wp2_with fail
                    rw [← hW1x]
                    clear hW1x
                    refine (get_impl hh (some ⟨g, o, none⟩) ua pc uc _ _ 4 i ⟨#[]⟩ qk qn qs _ (Nat.le_refl _) (tv_b T1 B1).1 (by decide) hD.good.sm).mono ?_
                    rw [HA.out]
                    rintro e x1w ⟨rfl, hb1⟩
                    have B2 := B1.trans (hb1.mono B1.size)
                    have rq2 := (hb1.block _ (row_lt rq1)).trans rq1
                    have v7r := (B2.block _ (row_lt HV7.out)).trans HV7.out
                    have l7 := row_lt v7r
                    have lq := row_lt rq2
                    have g70 := cell_of_row _ _ 0 _ _ _ v7r
                    have g71 := cell_of_row _ _ 1 _ _ _ v7r
                    simp only [List.getElem?_toArray, List.getElem?_cons_zero, List.getElem?_cons_succ] at g70 g71
                    have q0 := cell_of_row _ _ 0 _ _ _ rq2
                    have q1 := cell_of_row _ _ 1 _ _ _ rq2
                    have q2 := cell_of_row _ _ 2 _ _ _ rq2
                    simp only [List.getElem?_toArray, List.getElem?_cons_zero, List.getElem?_cons_succ] at q0 q1 q2
                    obtain ⟨W2x, hW2x⟩ : ∃ W, W = x1w.alloc (Obj.cells #[.int .i64 a0, .int .i64 a1, .string a2] 32) := ⟨_, rfl⟩
                    have bq2 : Below x1w.heap.size x1w W2x := hW2x ▸ bel_alloc _ _
                    have ra2 : W2x.heap[x1w.heap.size]? = some (Obj.cells #[.int .i64 a0, .int .i64 a1, .string a2] 32) := by rw [hW2x]; exact heap_alloc_new _ _
                    have B3 := B2.trans (bq2.mono B2.size)
                    clear p0 p1 x0 x1 x2 hcx rq1 hb1 B1 v7r bq1
                    go_wp2_with fail
                    rw [← hW2x]
                    clear hW2x
                    refine (get_impl G qa va qc vc _ _ 4 i ⟨#[]⟩ qk qn qs _ (Nat.le_refl _) (tv_b T2 B3).1 (by decide) HGP.out.2.2.1).mono ?_
                    rw [HB.out]
                    rintro e x2w ⟨rfl, hb3⟩
                    have B4 := B3.trans (hb3.mono B3.size)
                    have ra3 := (hb3.block _ (row_lt ra2)).trans ra2
                    have rq3 := (hb3.block _ (by have := row_lt ((bq2.block _ lq).trans rq2); exact this)).trans ((bq2.block _ lq).trans rq2)
                    have v4r := (B4.block _ (row_lt HV4.out)).trans HV4.out
                    have v5r := (B4.block _ (row_lt HV5.out)).trans HV5.out
                    have la := row_lt ra3
                    have lq3 := row_lt rq3
                    have l4 := row_lt v4r
                    have l5 := row_lt v5r
                    clear g70 g71 q0 q1 q2 rq2 ra2 hb3 B3 bq2 B2 l7 lq
                    have y0 := cell_of_row _ _ 0 _ _ _ ra3
                    have y1 := cell_of_row _ _ 1 _ _ _ ra3
                    have y2 := cell_of_row _ _ 2 _ _ _ ra3
                    simp only [List.getElem?_toArray, List.getElem?_cons_zero, List.getElem?_cons_succ] at y0 y1 y2
                    have q0 := cell_of_row _ _ 0 _ _ _ rq3
                    have q1 := cell_of_row _ _ 1 _ _ _ rq3
                    have q2 := cell_of_row _ _ 2 _ _ _ rq3
                    simp only [List.getElem?_toArray, List.getElem?_cons_zero, List.getElem?_cons_succ] at q0 q1 q2
                    have t0 := cell_of_row _ _ 0 _ _ _ v4r
                    have t1 := cell_of_row _ _ 1 _ _ _ v4r
                    have t2 := cell_of_row _ _ 2 _ _ _ v4r
                    simp only [List.getElem?_toArray, List.getElem?_cons_zero, List.getElem?_cons_succ] at t0 t1 t2
                    have k0 := cell_of_row _ _ 0 _ _ _ v5r
                    have k1 := cell_of_row _ _ 1 _ _ _ v5r
                    have k2 := cell_of_row _ _ 2 _ _ _ v5r
                    simp only [List.getElem?_toArray, List.getElem?_cons_zero, List.getElem?_cons_succ] at k0 k1 k2
                    have HB5 : Hid (Below WL.heap.size WL (x2w.alloc (Obj.cells #[.int .i64 b0, .int .i64 b1, .string b2] 32))) := B4.trans ((bel_alloc x2w _).mono B4.size)
                    clear ra3 rq3 v4r v5r B4 HA HB
                    by_cases hsame : i = I ∧ (⟨qk, qn, qs⟩ : Vl) = ⟨kk, kn, ks⟩
                    · obtain ⟨rfl, he⟩ := hsame
                      obtain ⟨rfl, rfl, rfl⟩ : qk = kk ∧ qn = kn ∧ qs = ks := by simp only [Vl.mk.injEq] at he; exact he
                      clear he HS
                      go_wp2_with fail
                      all_goals
                        first
                        | exact ⟨⟨j + 1, by go_num, by omega, HB5.out⟩, by simp [intOf]; omega⟩
                        | (go_roundw; (case rel => exact ⟨j + 1, by go_num, by omega, HB5.out⟩); (case measure => simp [intOf]; omega))
                    · obtain ⟨rfl, rfl, rfl⟩ := HS.out hsame
                      clear hsame HS
                      go_wp2_with fail
                      all_goals
                        first
                        | exact ⟨⟨j + 1, by go_num, by omega, HB5.out⟩, by simp [intOf]; omega⟩
                        | (go_roundw; (case rel => exact ⟨j + 1, by go_num, by omega, HB5.out⟩); (case measure => simp [intOf]; omega))
                  · obtain rfl : j = row.length := by omega
                    clear hP
                    go_wp2_with fail
                    go_roundw
                    case rel => exact ⟨i + 1, by go_num, by omega, HBX.out⟩
                    case measure => simp [intOf]; omega
              · obtain rfl : i = hh.ts.length := by omega
                go_wp2_with fail
                go_ret
                exact ⟨rfl, HBW.out.trans (HBL.out.mono HBW.out.size)⟩
      · have hr := HRF.out
        rw [if_neg hv0] at hr
        obtain ⟨rfl, rfl, rfl⟩ : rk = vk ∧ rn = vn ∧ rs = vs := by
          simp only [Vl.mk.injEq] at hr; exact hr
        clear hr HRF
        go_wp2_with fail
        all_goals
          rw [← hWL]
          clear hWL
          have hts6 : hh.ts.length ≤ 600 := hD.ts
          go_loopw [27] (fun x wr => ∃ i : Nat, x = .int .i64 i ∧ i ≤ hh.ts.length ∧ Below WL.heap.size WL wr) (fun x _ => hh.ts.length - (intOf x).toNat)
          case atStart => exact ⟨0, rfl, Nat.zero_le _, Below.refl _ _⟩
          case round =>
            clear v30 v31 v60 v61 v62 v70 v71 l3 l6 l7 r0 r1 r2
            obtain ⟨i, rfl, hil, hbl⟩ := hrel
            have hzl := hbl.size
            have v3r := (hbl.block _ (row_lt HV3.out)).trans HV3.out
            have p0 := cell_of_row _ _ 0 _ _ _ v3r
            have p1 := cell_of_row _ _ 1 _ _ _ v3r
            simp only [List.getElem?_toArray, List.getElem?_cons_zero, List.getElem?_cons_succ] at p0 p1
            have HBL : Hid (Below WL.heap.size WL wr) := hbl
            clear v3r hbl
            by_cases hlt : i < hh.ts.length
            · obtain ⟨hl, g, o, d0, e0, rfl, _, hg, hc, hP⟩ := T1.1 i hlt
              obtain ⟨row, hrow⟩ : ∃ row, row = hh.ts[i] := ⟨_, rfl⟩
              have HROWI : Hid (hh.ts[i]?.getD [] = row) := by show _ = _; rw [List.getElem?_eq_getElem hlt, hrow]; rfl
              have hr2 : row.length ≤ 201 := by rw [hrow]; exact hD.good.t i hlt
              rw [← hrow] at hl hc hP
              clear hrow
              go_wp2_with fail
              go_loopw [28] (fun y wx => ∃ j : Nat, y = .int .i64 j ∧ j ≤ row.length ∧ Below WL.heap.size WL wx) (fun y _ => row.length - (intOf y).toNat)
              case atStart => exact ⟨0, rfl, Nat.zero_le _, HBL.out⟩
              case round =>
                rename World => wx
                clear p0 p1
                obtain ⟨j, rfl, hjl, hbx⟩ := hrel
                have hzx := hbx.size
                have v3r := (hbx.block _ (row_lt HV3.out)).trans HV3.out
                have l3 := row_lt v3r
                have p0 := cell_of_row _ _ 0 _ _ _ v3r
                have p1 := cell_of_row _ _ 1 _ _ _ v3r
                simp only [List.getElem?_toArray, List.getElem?_cons_zero, List.getElem?_cons_succ] at p0 p1
                have hcx := (hbx.cell (p := ⟨g, o + i, none⟩) (by show g < _; omega)).trans hc
                have HBX : Hid (Below WL.heap.size WL wx) := hbx
                have hgx : g < wx.heap.size := by omega
                clear v3r
                by_cases hjt : j < row.length
                · obtain ⟨hok, g2, o2, rfl, _, hg2, hc2⟩ := hP j hjt
                  have x0 := (hbx.cell (p := ⟨g2, o2 + 6 * j + 0, none⟩) (by show g2 < _; omega)).trans (hc2 0 (by decide))
                  have x1 := (hbx.cell (p := ⟨g2, o2 + 6 * j + 1, none⟩) (by show g2 < _; omega)).trans (hc2 1 (by decide))
                  have x2 := (hbx.cell (p := ⟨g2, o2 + 6 * j + 2, none⟩) (by show g2 < _; omega)).trans (hc2 2 (by decide))
                  simp only [Pr.cs, List.getElem?_cons_zero, List.getElem?_cons_succ, Nat.add_zero] at x0 x1 x2
                  have mj : j * 6 = 6 * j := Nat.mul_comm _ _
                  have hg2x : g2 < wx.heap.size := by omega
                  obtain ⟨qk, qn, qs, hq⟩ : ∃ qk qn qs, row[j].key = ⟨qk, qn, qs⟩ := ⟨_, _, _, rfl⟩
                  rw [hq] at x0 x1 x2
                  dsimp only at x0 x1 x2
                  clear hq hc2 hok
                  obtain ⟨a0, a1, a2, hA⟩ : ∃ a0 a1 a2, (findV ⟨qk, qn, qs⟩ row).getD nilL = ⟨a0, a1, a2⟩ := ⟨_, _, _, rfl⟩
                  obtain ⟨b0, b1, b2, hB⟩ : ∃ b0 b1 b2, (findV ⟨qk, qn, qs⟩ (G.ts[i]?.getD [])).getD nilL = ⟨b0, b1, b2⟩ := ⟨_, _, _, rfl⟩
                  have HA : Hid (getV hh 4 i ⟨#[]⟩ qk qn qs = .tuple #[.agg #[.int .i64 a0, .int .i64 a1, .string a2], .string ⟨#[]⟩]) := by
                    show _ = _
                    have hb : tabB hh.ts.length 4 i = true := by simp [tabB]; omega
                    unfold getV
                    rw [if_neg (by decide), if_pos hb, Int.toNat_natCast, HROWI.out, hA]
                    rfl
                  have HB : Hid (getV G 4 i ⟨#[]⟩ qk qn qs = .tuple #[.agg #[.int .i64 b0, .int .i64 b1, .string b2], .string ⟨#[]⟩]) := by
                    show _ = _
                    have hb : tabB G.ts.length 4 i = true := by rw [HGP.out.2.2.2]; simp [tabB]; omega
                    unfold getV
                    rw [if_neg (by decide), if_pos hb, Int.toNat_natCast, hB]
                    rfl
                  have HS : Hid (¬ (i = I ∧ (⟨qk, qn, qs⟩ : Vl) = ⟨kk, kn, ks⟩) → b0 = a0 ∧ b1 = a1 ∧ b2 = a2) := fun hn => by
                    have e : findV ⟨qk, qn, qs⟩ (G.ts[i]?.getD []) = findV ⟨qk, qn, qs⟩ row := by
                      rw [HROW.out i, HROWI.out]
                      by_cases hi : I = i
                      · rw [if_pos hi]
                        exact findV_other _ _ _ (fun e => hn ⟨hi.symm, e⟩) _ _
                      · rw [if_neg hi]
                    rw [e, hA] at hB
                    simp only [Vl.mk.injEq] at hB
                    exact ⟨hB.1.symm, hB.2.1.symm, hB.2.2.symm⟩
                  clear hA hB
                  obtain ⟨W1x, hW1x⟩ : ∃ W, W = wx.alloc (Obj.cells #[.int .i64 qk, .int .i64 qn, .string qs] 32) := ⟨_, rfl⟩
                  have bq1 : Below wx.heap.size wx W1x := hW1x ▸ bel_alloc _ _
                  have rq1 : W1x.heap[wx.heap.size]? = some (Obj.cells #[.int .i64 qk, .int .i64 qn, .string qs] 32) := by rw [hW1x]; exact heap_alloc_new _ _
                  have B1 := hbx.trans (bq1.mono hzx)
                  go_wp2_with fail
                  rw [← hW1x]
                  clear hW1x
                  refine (get_impl hh (some ⟨g, o, none⟩) ua pc uc _ _ 4 i ⟨#[]⟩ qk qn qs _ (Nat.le_refl _) (tv_b T1 B1).1 (by decide) hD.good.sm).mono ?_
                  rw [HA.out]
                  rintro e x1w ⟨rfl, hb1⟩
                  have B2 := B1.trans (hb1.mono B1.size)
                  have rq2 := (hb1.block _ (row_lt rq1)).trans rq1
                  have v7r := (B2.block _ (row_lt HV7.out)).trans HV7.out
                  have l7 := row_lt v7r
                  have lq := row_lt rq2
                  have g70 := cell_of_row _ _ 0 _ _ _ v7r
                  have g71 := cell_of_row _ _ 1 _ _ _ v7r
                  simp only [List.getElem?_toArray, List.getElem?_cons_zero, List.getElem?_cons_succ] at g70 g71
                  have q0 := cell_of_row _ _ 0 _ _ _ rq2
                  have q1 := cell_of_row _ _ 1 _ _ _ rq2
                  have q2 := cell_of_row _ _ 2 _ _ _ rq2
                  simp only [List.getElem?_toArray, List.getElem?_cons_zero, List.getElem?_cons_succ] at q0 q1 q2
                  obtain ⟨W2x, hW2x⟩ : ∃ W, W = x1w.alloc (Obj.cells #[.int .i64 a0, .int .i64 a1, .string a2] 32) := ⟨_, rfl⟩
                  have bq2 : Below x1w.heap.size x1w W2x := hW2x ▸ bel_alloc _ _
                  have ra2 : W2x.heap[x1w.heap.size]? = some (Obj.cells #[.int .i64 a0, .int .i64 a1, .string a2] 32) := by rw [hW2x]; exact heap_alloc_new _ _
                  have B3 := B2.trans (bq2.mono B2.size)
                  clear p0 p1 x0 x1 x2 hcx rq1 hb1 B1 v7r bq1
                  go_wp2_with fail
                  rw [← hW2x]
                  clear hW2x
                  refine (get_impl G qa va qc vc _ _ 4 i ⟨#[]⟩ qk qn qs _ (Nat.le_refl _) (tv_b T2 B3).1 (by decide) HGP.out.2.2.1).mono ?_
                  rw [HB.out]
                  rintro e x2w ⟨rfl, hb3⟩
                  have B4 := B3.trans (hb3.mono B3.size)
                  have ra3 := (hb3.block _ (row_lt ra2)).trans ra2
                  have rq3 := (hb3.block _ (by have := row_lt ((bq2.block _ lq).trans rq2); exact this)).trans ((bq2.block _ lq).trans rq2)
                  have v4r := (B4.block _ (row_lt HV4.out)).trans HV4.out
                  have v5r := (B4.block _ (row_lt HV5.out)).trans HV5.out
                  have la := row_lt ra3
                  have lq3 := row_lt rq3
                  have l4 := row_lt v4r
                  have l5 := row_lt v5r
                  clear g70 g71 q0 q1 q2 rq2 ra2 hb3 B3 bq2 B2 l7 lq
                  have y0 := cell_of_row _ _ 0 _ _ _ ra3
                  have y1 := cell_of_row _ _ 1 _ _ _ ra3
                  have y2 := cell_of_row _ _ 2 _ _ _ ra3
                  simp only [List.getElem?_toArray, List.getElem?_cons_zero, List.getElem?_cons_succ] at y0 y1 y2
                  have q0 := cell_of_row _ _ 0 _ _ _ rq3
                  have q1 := cell_of_row _ _ 1 _ _ _ rq3
                  have q2 := cell_of_row _ _ 2 _ _ _ rq3
                  simp only [List.getElem?_toArray, List.getElem?_cons_zero, List.getElem?_cons_succ] at q0 q1 q2
                  have t0 := cell_of_row _ _ 0 _ _ _ v4r
                  have t1 := cell_of_row _ _ 1 _ _ _ v4r
                  have t2 := cell_of_row _ _ 2 _ _ _ v4r
                  simp only [List.getElem?_toArray, List.getElem?_cons_zero, List.getElem?_cons_succ] at t0 t1 t2
                  have k0 := cell_of_row _ _ 0 _ _ _ v5r
                  have k1 := cell_of_row _ _ 1 _ _ _ v5r
                  have k2 := cell_of_row _ _ 2 _ _ _ v5r
                  simp only [List.getElem?_toArray, List.getElem?_cons_zero, List.getElem?_cons_succ] at k0 k1 k2
                  have HB5 : Hid (Below WL.heap.size WL (x2w.alloc (Obj.cells #[.int .i64 b0, .int .i64 b1, .string b2] 32))) := B4.trans ((bel_alloc x2w _).mono B4.size)
                  clear ra3 rq3 v4r v5r B4 HA HB
                  by_cases hsame : i = I ∧ (⟨qk, qn, qs⟩ : Vl) = ⟨kk, kn, ks⟩
                  · obtain ⟨rfl, he⟩ := hsame
                    obtain ⟨rfl, rfl, rfl⟩ : qk = kk ∧ qn = kn ∧ qs = ks := by simp only [Vl.mk.injEq] at he; exact he
                    clear he HS
                    go_wp2_with fail
                    all_goals
                      first
                      | exact ⟨⟨j + 1, by go_num, by omega, HB5.out⟩, by simp [intOf]; omega⟩
                      | (go_roundw; (case rel => exact ⟨j + 1, by go_num, by omega, HB5.out⟩); (case measure => simp [intOf]; omega))
                  · obtain ⟨rfl, rfl, rfl⟩ := HS.out hsame
                    clear hsame HS
                    go_wp2_with fail
                    all_goals
                      first
                      | exact ⟨⟨j + 1, by go_num, by omega, HB5.out⟩, by simp [intOf]; omega⟩
                      | (go_roundw; (case rel => exact ⟨j + 1, by go_num, by omega, HB5.out⟩); (case measure => simp [intOf]; omega))
                · obtain rfl : j = row.length := by omega
                  clear hP
                  go_wp2_with fail
                  go_roundw
                  case rel => exact ⟨i + 1, by go_num, by omega, HBX.out⟩
                  case measure => simp [intOf]; omega
            · obtain rfl : i = hh.ts.length := by omega
              go_wp2_with fail
              go_ret
              exact ⟨rfl, HBW.out.trans (HBL.out.mono HBW.out.size)⟩
end Go.Proofs.Ytbdpfmkpjeleaaa
