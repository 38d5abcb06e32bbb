/- Pairs with a key put anew: the program. -/
import Derived.Test.YtbdpfmkpjeleaaaPutABC
import Derived.Test.YtbdpfmkpjeleaaaSetW
import Derived.Test.YtbdpfmkpjeleaaaHpD
import Derived.Test.YtbdpfmkpjeleaaaHeapH
import Derived.Test.YtbdpfmkpjeleaaaHeapY
import Derived.Deep.RegionHeld3
import Derived.Deep.RegionLaw
import Derived.Deep.Cut
namespace Go.Proofs.Ytbdpfmkpjeleaaa
open Go.RowKit

theorem withF_absent (k v : Vl) : ∀ (ps : List Pr) (put : Bool), (∀ p ∈ ps, p.key.beq k = false) → withF k v put ps = ps ++ (if put then [] else [⟨k, v⟩]) := by
  intro ps
  induction ps with
  | nil => intro put _; cases put <;> rfl
  | cons p ps ih =>
    intro put h
    unfold withF
    rw [if_neg (by rw [h p (by simp)]; decide), ih put fun q hq => h q (by simp [hq])]
    rfl
theorem withF_true (k v : Vl) : ∀ (ps : List Pr), withF k v true ps = ps.filter (fun p => !p.key.beq k) := by
  intro ps
  induction ps with
  | nil => rfl
  | cons p ps ih =>
    unfold withF
    cases hb : p.key.beq k with
    | true => rw [if_pos rfl, if_pos rfl, List.filter_cons_of_neg (by simp [hb]), ih]
    | false => rw [if_neg (by decide), List.filter_cons_of_pos (by simp [hb]), ih]
theorem withF_set (k v : Vl) : ∀ (ps : List Pr) (j : Nat) (hj : j < ps.length), ps.Pairwise (fun p q => p.key ≠ q.key) → ps[j].key.beq k = true → withF k v false ps = ps.set j ⟨k, v⟩ := by
  intro ps
  induction ps with
  | nil => intro j hj; exact absurd hj (Nat.not_lt_zero _)
  | cons p ps ih =>
    intro j hj hd hb
    rw [List.pairwise_cons] at hd
    unfold withF
    cases j with
    | zero =>
      have hb' : p.key.beq k = true := hb
      rw [if_pos hb', if_neg (by decide), List.set_cons_zero]
      congr 1
      rw [withF_absent k v ps true fun q hq => ?_]
      · simp
      · cases hq' : q.key.beq k with
        | false => rfl
        | true => exact absurd ((eq_of_beq' hb').trans (eq_of_beq' hq').symm) (hd.1 q hq)
    | succ j =>
      have hj' : j < ps.length := by simpa using hj
      have hb' : ps[j].key.beq k = true := by simpa using hb
      have hne : p.key.beq k = false := by
        cases hq : p.key.beq k with
        | false => rfl
        | true => exact absurd ((eq_of_beq' hq).trans (eq_of_beq' hb').symm) (hd.1 _ (List.getElem_mem hj'))
      rw [if_neg (by rw [hne]; decide), ih j hj' hd.2 hb', List.set_cons_succ]
set_option maxRecDepth 100000 in
set_option maxHeartbeats 1600000 in
theorem cloneP_impl (ps : List Pr) (a : Option Addr) (ca lo hi : Nat) (w : World) (hh : hi ≤ w.heap.size) (hn : ps.length ≤ 1048576) (hS : PAt w lo hi ps a) :
    Calls Try.prog 88 #[.slice a ps.length ca] w fun e w' => (∃ s : Sl, e = .returned s.v ∧ s.n = ps.length ∧ Row w' w.heap.size w'.heap.size 61 6 s (flatP ps)) ∧ Below w.heap.size w w' := by
  obtain ⟨i1, hi1, hy0, hy1, hy2⟩ := info_parts info_pr
  have hu := Try.underlying59
  cases a with
  | none =>
    have hps : ps = [] := by
      cases ps with
      | nil => rfl
      | cons p ps => obtain ⟨_, g, o, e, _⟩ := hS 0 (by simp); cases e
    subst hps
    have hq : ∀ W : World, (binOp .eql 59 (.slice none 0 ca) (.slice none 0 0)).run Try.prog W = .ok (.bool true) W := fun W => Lib.run_eql_slice_nil W _ _ none _ _ _ _ hu
    clear hS
    simp only [List.length_nil]
    go_enter Try.func88, Try.ntmps88
    go_wp2_with fail
    go_ret
    exact ⟨⟨⟨none, 0, 0⟩, rfl, rfl, ⟨rfl, .inl ⟨rfl, rfl, rfl⟩⟩⟩, Below.refl _ _⟩
  | some x =>
    have own0 := own_lit0 w w.heap.size 61 6 (Nat.le_refl _)
    have hb0 := bel_alloc w (.cells #[] 61)
    have NEWS := news_of_pat (hS.below hb0 hh)
    have L1 : (flatP ps).length = ps.length * 6 := by rw [flatP_len, Nat.mul_comm]
    have hz0 : (w.alloc (.cells #[] 61)).heap.size = w.heap.size + 1 := size_alloc _ _
    have HB0 : Hid (Below w.heap.size w (w.alloc (.cells #[] 61))) := hb0
    have hq : ∀ W : World, (binOp .eql 59 (.slice (some x) ps.length ca) (.slice none 0 0)).run Try.prog W = .ok (.bool false) W := fun W => Lib.run_eql_slice_nil W _ _ (some x) _ _ _ _ hu
    clear hS hb0
    go_enter Try.func88, Try.ntmps88
    go_wp2_with (at_builtin; go_must (refine wpList_append_any _ rfl _ _ 59 rfl w.heap.size 61 i1 _ 6 64 Try.underlying59 hi1 hy0 hy1 hy2 rfl (by decide) _ _ _ rfl own0 (some x) ps.length ca (flatP ps) rfl L1 NEWS (one_flatP _) (by unfold maxLen; omega) (by omega) (by rw [hz0]; omega) _ rfl ?_; intro b1 c1 w1 own1 gr1 at1; simp only [Nat.zero_add, List.nil_append] at own1 ⊢))
    go_ret
    have B1 : Below w.heap.size w w1 := HB0.out.grown gr1 (by rw [hz0]; omega) (fun k hk => by have := Option.some.inj hk; dsimp only at this; omega)
    exact ⟨⟨⟨b1, ps.length, c1⟩, rfl, rfl, row_of_own own1⟩, B1⟩
theorem set3_get (cs : Array Value) (i : Nat) (a b c : Value) (q t : Nat) (ht : t < 6) (hs : 6 * i + 6 ≤ cs.size) : (((cs.setIfInBounds (6 * i + 3) a).setIfInBounds (6 * i + 4) b).setIfInBounds (6 * i + 5) c)[6 * q + t]? = if q = i ∧ 3 ≤ t then [a, b, c][t - 3]? else cs[6 * q + t]? := by
  simp only [Array.getElem?_setIfInBounds, Array.size_setIfInBounds]
  by_cases h : q = i ∧ 3 ≤ t
  · obtain ⟨rfl, h3⟩ := h
    rw [if_pos (show q = q ∧ 3 ≤ t from ⟨rfl, h3⟩)]
    match t, ht, h3 with
    | 3, _, _ => simp; omega
    | 4, _, _ => simp; omega
    | 5, _, _ => simp; omega
  · rw [if_neg h, if_neg (by omega), if_neg (by omega), if_neg (by omega)]
theorem flatP_set (ps : List Pr) (i : Nat) (p : Pr) (q t : Nat) (hq : q < ps.length) (ht : t < 6) : (flatP (ps.set i p))[6 * q + t]? = if i = q then p.cs[t]? else ps[q].cs[t]? := by
  rw [flatP_get (ps.set i p) q (by simpa using hq) t ht, List.getElem_set]
  split <;> rfl
set_option maxRecDepth 100000 in
set_option maxHeartbeats 3200000 in
theorem pairsWith_impl (ps : List Pr) (a : Option Addr) (ca lo hi : Nat) (kk kn : Int) (ks : ByteArray) (vk vn : Int) (vs : ByteArray) (w : World) (hh : hi ≤ w.heap.size) (hn : ps.length ≤ 1048576) (hS : PAt w lo hi ps a) (hd : ps.Pairwise (fun p q => p.key ≠ q.key)) :
    Calls Try.prog 79 #[.slice a ps.length ca, .agg #[.int .i64 kk, .int .i64 kn, .string ks], .agg #[.int .i64 vk, .int .i64 vn, .string vs]] w fun e w' => (∃ s : Sl, e = .returned s.v ∧ s.n = (withF ⟨kk, kn, ks⟩ ⟨vk, vn, vs⟩ (decide (vk = 0)) ps).length ∧ Row w' w.heap.size w'.heap.size 61 6 s (flatP (withF ⟨kk, kn, ks⟩ ⟨vk, vn, vs⟩ (decide (vk = 0)) ps))) ∧ Below w.heap.size w w' := by
  obtain ⟨i1, hi1, hy0, hy1, hy2⟩ := info_parts info_pr
  have hok : ∀ m (hm : m < ps.length), ps[m].Ok := fun m hm => (hS m hm).1
  obtain ⟨rK, rV, hs0, B0⟩ := rows2 w (Obj.cells #[.int .i64 kk, .int .i64 kn, .string ks] 32) (Obj.cells #[.int .i64 vk, .int .i64 vn, .string vs] 32)
  obtain ⟨W0, hW0⟩ : ∃ W0, W0 = (w.alloc (Obj.cells #[.int .i64 kk, .int .i64 kn, .string ks] 32)).alloc (Obj.cells #[.int .i64 vk, .int .i64 vn, .string vs] 32) := ⟨_, rfl⟩
  rw [← hW0] at rK rV hs0 B0
  have hS0 := hS.below B0 hh
  go_enter Try.func79, Try.ntmps79
  go_wp2_with fail
  rw [← hW0]
  clear hW0 hS
  refine (cloneP_impl ps a ca lo hi W0 (by omega) hn hS0).mono ?_
  rintro e w1 ⟨⟨⟨b1, n1, c1⟩, rfl, hn1, hR1⟩, hb1⟩
  dsimp only at hn1
  subst hn1
  have hs1 := hb1.size
  have rK1 := (hb1.block w.heap.size (by omega)).trans rK
  have rV1 := (hb1.block (w.heap.size + 1) (by omega)).trans rV
  have k0 := cell_of_row _ _ 0 _ _ _ rV1
  have k1 := cell_of_row _ _ 1 _ _ _ rV1
  have k2 := cell_of_row _ _ 2 _ _ _ rV1
  simp only [List.getElem?_toArray, List.getElem?_cons_zero, List.getElem?_cons_succ] at k0 k1 k2
  have HR1 : Hid (Row w1 W0.heap.size w1.heap.size 61 6 ⟨b1, ps.length, c1⟩ (flatP ps)) := hR1
  have B1 : Below w.heap.size w w1 := B0.trans (hb1.mono (by omega))
  have hw1 : w.heap.size + 1 < w1.heap.size := by omega
  clear hS0 hR1 rK rV
  dsimp only [Sl.v]
  go_wp2_with fail
  refine (isNil_any vk vn vs w1).mono ?_
  rintro e w2 ⟨rfl, hb2⟩
  have hs2 := hb2.size
  have rK2 := (hb2.block w.heap.size (by omega)).trans rK1
  have rV2 := (hb2.block (w.heap.size + 1) (by omega)).trans rV1
  have HR2 : Hid (Row w2 W0.heap.size w2.heap.size 61 6 ⟨b1, ps.length, c1⟩ (flatP ps)) := (HR1.out.below hb2).wide (Nat.le_refl _) hs2
  have B2 : Below w.heap.size w w2 := B1.trans (hb2.mono (by omega))
  clear HR1 rK1 rV1 k0 k1 k2 hb1 hb2
  by_cases hv : vk = 0
  · have HL : Hid (withF ⟨kk, kn, ks⟩ ⟨vk, vn, vs⟩ (decide (vk = 0)) ps = ps.filter (fun p => !p.key.beq ⟨kk, kn, ks⟩)) := by show _ = _; rw [show decide (vk = 0) = true from decide_eq_true hv]; exact withF_true _ _ _
    have hvb : (vk == 0) = true := by simpa using hv
    have HB2 : Hid (Below w.heap.size w w2) := B2
    have rKh : Hid (w2.heap[w.heap.size]? = some (Obj.cells #[.int .i64 kk, .int .i64 kn, .string ks] 32 (0, 0))) := rK2
    have hlo : w.heap.size < W0.heap.size := by omega
    have hl2 : W0.heap.size ≤ w2.heap.size := by omega
    clear hv rK2 rV2 B2 B1 B0
    go_wp2_with fail
    refine (delete_impl ps ⟨b1, ps.length, c1⟩ W0.heap.size w2.heap.size kk kn ks w.heap.size w2 (Nat.le_refl _) hl2 hn rfl hok HR2.out hlo rKh.out).mono ?_
    rintro e w3 ⟨⟨⟨b3, n3, c3⟩, rfl, hn3, hR3⟩, hb3⟩
    dsimp only at hn3
    have HR3 : Hid (Row w3 W0.heap.size w2.heap.size 61 6 ⟨b3, n3, c3⟩ (flatP (ps.filter (fun p => !p.key.beq ⟨kk, kn, ks⟩)))) := hR3
    have HN3 : Hid (n3 = (ps.filter (fun p => !p.key.beq ⟨kk, kn, ks⟩)).length) := hn3
    clear hR3 hn3
    dsimp only [Sl.v]
    go_wp2_with fail
    go_ret
    exact ⟨⟨⟨b3, n3, c3⟩, rfl, by rw [HL.out]; exact HN3.out, by rw [HL.out]; exact HR3.out.wide (by omega) hb3.size⟩, HB2.out.trans (hb3.mono (by omega))⟩
  · have hdv : decide (vk = 0) = false := decide_eq_false hv
    have hvb : (vk == 0) = false := by simpa using hv
    have HDV : Hid (decide (vk = 0) = false) := hdv
    have HB2 : Hid (Below w.heap.size w w2) := B2
    have rKh : Hid (w2.heap[w.heap.size]? = some (Obj.cells #[.int .i64 kk, .int .i64 kn, .string ks] 32 (0, 0))) := rK2
    have rVh : Hid (w2.heap[w.heap.size + 1]? = some (Obj.cells #[.int .i64 vk, .int .i64 vn, .string vs] 32 (0, 0))) := rV2
    have hl2 : W0.heap.size ≤ w2.heap.size := by omega
    have hw2 : w.heap.size + 1 < w2.heap.size := by omega
    have hPA := pat_of_row' HR2.out hok
    have HIDX := index_impl ps b1 c1 W0.heap.size w2.heap.size kk kn ks w.heap.size w2 (Nat.le_refl _) (by unfold maxLen; omega) hPA rKh.out
    clear hv rK2 rV2 B2 B1 B0 hdv hPA
    go_wp2_with fail
    refine HIDX.mono ?_
    rintro e w3 ⟨⟨r, rfl, hr⟩, hb3⟩
    have hs3 := hb3.size
    have rK3 := (hb3.block w.heap.size (by omega)).trans rKh.out
    have rV3 := (hb3.block (w.heap.size + 1) (by omega)).trans rVh.out
    have HR3 : Hid (Row w3 W0.heap.size w3.heap.size 61 6 ⟨b1, ps.length, c1⟩ (flatP ps)) := (HR2.out.below hb3).wide (Nat.le_refl _) hs3
    have HB3 : Hid (Below w.heap.size w w3) := HB2.out.trans (hb3.mono (by omega))
    have k0 := cell_of_row _ _ 0 _ _ _ rK3
    have k1 := cell_of_row _ _ 1 _ _ _ rK3
    have k2 := cell_of_row _ _ 2 _ _ _ rK3
    have v0 := cell_of_row _ _ 0 _ _ _ rV3
    have v1 := cell_of_row _ _ 1 _ _ _ rV3
    have v2 := cell_of_row _ _ 2 _ _ _ rV3
    simp only [List.getElem?_toArray, List.getElem?_cons_zero, List.getElem?_cons_succ] at k0 k1 k2 v0 v1 v2
    clear HIDX hb3 rKh rVh HR2 HB2 rK3 rV3
    have hw3 : w.heap.size + 1 < w3.heap.size := by omega
    rcases hr with ⟨rfl, hall⟩ | ⟨j, hj, rfl, hbj, hall⟩
    · have HL : Hid (withF ⟨kk, kn, ks⟩ ⟨vk, vn, vs⟩ (decide (vk = 0)) ps = ps ++ [⟨⟨kk, kn, ks⟩, ⟨vk, vn, vs⟩⟩]) := by
        show _ = _
        rw [HDV.out, withF_absent _ _ ps false fun p hp => by obtain ⟨m, hm, rfl⟩ := List.mem_iff_getElem.1 hp; exact hall m hm]
        rfl
      have OWN := own_of_row HR3.out
      have hal := bel_alloc w3 (Obj.cells #[.int .i64 kk, .int .i64 kn, .string ks, .int .i64 vk, .int .i64 vn, .string vs] 61)
      have OWN4 : (w3.alloc (Obj.cells #[.int .i64 kk, .int .i64 kn, .string ks, .int .i64 vk, .int .i64 vn, .string vs] 61)).ownsRow W0.heap.size 61 6 (.slice b1 ps.length c1) ps.length (flatP ps) := own_below OWN hal
      have NB : ∀ j u, (⟨⟨kk, kn, ks⟩, ⟨vk, vn, vs⟩⟩ : Pr).cs[j]? = some u → ∃ ad, some (⟨w3.heap.size, 0, none⟩ : Addr) = some ad ∧ (w3.alloc (Obj.cells #[.int .i64 kk, .int .i64 kn, .string ks, .int .i64 vk, .int .i64 vn, .string vs] 61)).cell? (ad.add j) = some u := fun j u hu => ⟨_, rfl, World.news_of_block (heap_alloc_new w3 _) j u hu⟩
      have hz4 : (w3.alloc (Obj.cells #[.int .i64 kk, .int .i64 kn, .string ks, .int .i64 vk, .int .i64 vn, .string vs] 61)).heap.size = w3.heap.size + 1 := size_alloc _ _
      have HB4 : Hid (Below w.heap.size w (w3.alloc (Obj.cells #[.int .i64 kk, .int .i64 kn, .string ks, .int .i64 vk, .int .i64 vn, .string vs] 61))) := HB3.out.trans (hal.mono (by omega))
      have ONE : ∀ u ∈ (⟨⟨kk, kn, ks⟩, ⟨vk, vn, vs⟩⟩ : Pr).cs, u.oneCell' = true := by simp [Pr.cs, Value.oneCell']
      have HLO : Hid (Value.ownBlock (.slice b1 ps.length c1) = none ∨ ∃ g, Value.ownBlock (.slice b1 ps.length c1) = some g ∧ W0.heap.size ≤ g) := by
        show _ ∨ _
        rcases HR3.out.2 with ⟨e, _⟩ | ⟨g, cs, e, h1, _⟩
        · dsimp only at e; subst e; exact .inl rfl
        · dsimp only at e; subst e; exact .inr ⟨g, rfl, h1⟩
      clear hall OWN hal
      go_wp2_with (at_builtin; go_must (refine wpList_append_any _ rfl _ _ 59 rfl W0.heap.size 61 i1 _ 6 64 Try.underlying59 hi1 hy0 hy1 hy2 rfl (by decide) _ _ _ rfl OWN4 (some ⟨w3.heap.size, 0, none⟩) 1 1 (⟨⟨kk, kn, ks⟩, ⟨vk, vn, vs⟩⟩ : Pr).cs rfl rfl NB ONE (by unfold maxLen; omega) (by omega) (by rw [hz4]; omega) _ rfl ?_; intro b5 c5 w5 own5 gr5 at5))
      go_ret
      have B5 : Below w.heap.size w w5 := HB4.out.grown gr5 (by rw [hz4]; omega) (fun k hk => by
        have hk' : Value.ownBlock (.slice b1 ps.length c1) = some k := hk
        rcases HLO.out with h | ⟨g, h, h2⟩
        · rw [h] at hk'; cases hk'
        · rw [h] at hk'; cases hk'; omega)
      refine ⟨⟨⟨b5, ps.length + 1, c5⟩, rfl, by rw [HL.out, List.length_append]; rfl, ?_⟩, B5⟩
      rw [HL.out, flatP_snoc]
      exact (row_of_own (s := ⟨b5, ps.length + 1, c5⟩) own5).wide (by omega) (Nat.le_refl _)
    · have HL : Hid (withF ⟨kk, kn, ks⟩ ⟨vk, vn, vs⟩ (decide (vk = 0)) ps = ps.set j ⟨⟨kk, kn, ks⟩, ⟨vk, vn, vs⟩⟩) := by
        show _ = _
        rw [HDV.out]
        exact withF_set _ _ ps j hj hd hbj
      have HKJ : Hid (ps[j].key = ⟨kk, kn, ks⟩) := eq_of_beq' hbj
      have hnn : ¬ ((j : Int) < 0) := by omega
      obtain ⟨h1, ⟨e1, e2, e3⟩ | ⟨g, cs, e1, hl1, hh1, hrow, hsc, hcm, hcs, hpre⟩⟩ := HR3.out
      · dsimp only at e2; omega
      · dsimp only at e1 hsc hcm hcs
        subst e1
        have hg1 : g < w3.heap.size := (Array.getElem?_eq_some_iff.1 hrow).1
        have mj : j * 6 = 6 * j := Nat.mul_comm _ _
        have f3 := frozen_of_row w3 g (6 * j + 3) _ _ hrow
        have e3 := (cell_of_row w3 g (6 * j + 3) _ _ (0, 0) hrow).trans (Array.getElem?_eq_getElem (xs := cs) (i := 6 * j + 3) (by omega))
        have f4 := frozen_of_row w3 g (6 * j + 4) _ _ hrow
        have e4 := (cell_of_row w3 g (6 * j + 4) _ _ (0, 0) hrow).trans (Array.getElem?_eq_getElem (xs := cs) (i := 6 * j + 4) (by omega))
        have f5 := frozen_of_row w3 g (6 * j + 5) _ _ hrow
        have e5 := (cell_of_row w3 g (6 * j + 5) _ _ (0, 0) hrow).trans (Array.getElem?_eq_getElem (xs := cs) (i := 6 * j + 5) (by omega))
        have HROW : Hid (w3.heap[g]? = some (.cells cs 61 (0, 0))) := hrow
        have HPRE : Hid (∀ m, m < (flatP ps).length → cs[m]? = (flatP ps)[m]?) := hpre
        clear hall hbj HR3 hpre hrow h1
        go_wp2_with fail
        go_ret
        have hfl := flatP_len ps
        refine ⟨⟨⟨some ⟨g, 0, none⟩, ps.length, c1⟩, rfl, by rw [HL.out, List.length_set], ?_⟩, ?_⟩
        · rw [HL.out]
          refine ⟨by rw [flatP_len, List.length_set], .inr ⟨g, _, rfl, by show _ ≤ _; omega, by simp; omega, heap_setCell_same _ _ _ _ _ _ (heap_setCell_same _ _ _ _ _ _ (heap_setCell_same _ _ _ _ _ _ HROW.out)), hsc, hcm, by simpa using hcs, fun m hm => ?_⟩⟩
          rw [flatP_len, List.length_set] at hm
          obtain ⟨q, t, ht, rfl⟩ : ∃ q t, t < 6 ∧ m = 6 * q + t := ⟨m / 6, m % 6, Nat.mod_lt _ (by decide), by omega⟩
          rw [set3_get cs j _ _ _ q t ht (by omega), flatP_set ps j _ q t (by omega) ht, HPRE.out _ (by omega), flatP_get ps q (by omega) t ht]
          by_cases e : j = q
          · subst e
            rw [if_pos rfl]
            have hk := HKJ.out
            match t, ht with
            | 0, _ => rw [if_neg (by omega)]; simp [Pr.cs, hk]
            | 1, _ => rw [if_neg (by omega)]; simp [Pr.cs, hk]
            | 2, _ => rw [if_neg (by omega)]; simp [Pr.cs, hk]
            | 3, _ => rw [if_pos ⟨rfl, by decide⟩]; rfl
            | 4, _ => rw [if_pos ⟨rfl, by decide⟩]; rfl
            | 5, _ => rw [if_pos ⟨rfl, by decide⟩]; rfl
          · rw [if_neg e, if_neg (by omega)]
        · have HB3' := HB3.out
          repeat (first | (with_reducible exact HB3') | (with_reducible refine Below.setCell ?_ (by show w.heap.size ≤ g; omega) _))
end Go.Proofs.Ytbdpfmkpjeleaaa
namespace Go.Proofs.Ytbdpfmkpjeleaaa
open Go.RowKit

theorem setAt_no {h : Hp} {tk tn : Int} {k v : Vl} (hno : setOk h tk tn k v = false) : h.setAt tk tn k v = h := by rw [Hp.setAt, if_neg (by rw [hno]; decide)]
theorem ownH_below {w w' : World} {B : Nat} {h : Hp} {sp cl : Sl} {ss : List Sl} (hO : OwnH w B h sp cl ss) (hb : Below w.heap.size w w') : OwnH w' B h sp cl ss := ⟨hO.1, hO.2.1, hO.2.2.below hb⟩
set_option maxRecDepth 100000 in
set_option maxHeartbeats 3200000 in
theorem put_impl (h : Hp) (sp cl : Sl) (ss : List Sl) (B : Nat) (tk tn : Int) (tx : ByteArray) (kk kn : Int) (ks : ByteArray) (vk vn : Int) (vs : ByteArray) (w : World) (hO : OwnH w B h sp cl ss) (hB : B ≤ w.heap.size) (hok : h.Ok) (hwt : h.wt ≤ 1048576) (hd : ∀ i (hi : i < h.ts.length), h.ts[i].Pairwise (fun p q => p.key ≠ q.key)) :
    Calls Try.prog 48 #[.agg #[sp.v, cl.v], .agg #[.int .i64 tk, .int .i64 tn, .string tx], .agg #[.int .i64 kk, .int .i64 kn, .string ks], .agg #[.int .i64 vk, .int .i64 vn, .string vs]] w fun e w' => e = .returned (.bool (setOk h tk tn ⟨kk, kn, ks⟩ ⟨vk, vn, vs⟩)) ∧ (∃ ss', OwnH w' B (h.setAt tk tn ⟨kk, kn, ks⟩ ⟨vk, vn, vs⟩) sp cl ss') ∧ (∀ (b : Nat) (cs : Array Value), w.heap[b]? = some (Obj.cells cs 30 (0, 0)) → w'.heap[b]? = w.heap[b]?) ∧ Below B w w' := by
  obtain ⟨sa, sn, sc⟩ := sp
  obtain ⟨ca, cn, cc⟩ := cl
  have e1 : sn = h.ts.length := hO.1
  have e2 : cn = h.vs.length := hO.2.1
  subst e1
  subst e2
  dsimp only [Sl.v]
  have hwt' := hwt
  unfold Hp.wt at hwt'
  have hln := len_wtT h.ts
  obtain ⟨rH, rT, hs1, B1⟩ := rows2 w (Obj.cells #[.slice sa h.ts.length sc, .slice ca h.vs.length cc] 30) (Obj.cells #[.int .i64 tk, .int .i64 tn, .string tx] 32)
  obtain ⟨W1, hW1⟩ : ∃ W1, W1 = (w.alloc (Obj.cells #[.slice sa h.ts.length sc, .slice ca h.vs.length cc] 30)).alloc (Obj.cells #[.int .i64 tk, .int .i64 tn, .string tx] 32) := ⟨_, rfl⟩
  rw [← hW1] at rH rT hs1 B1
  obtain ⟨rK, rV, hs2, B2⟩ := rows2 W1 (Obj.cells #[.int .i64 kk, .int .i64 kn, .string ks] 32) (Obj.cells #[.int .i64 vk, .int .i64 vn, .string vs] 32)
  obtain ⟨W0, hW0⟩ : ∃ W0, W0 = (W1.alloc (Obj.cells #[.int .i64 kk, .int .i64 kn, .string ks] 32)).alloc (Obj.cells #[.int .i64 vk, .int .i64 vn, .string vs] 32) := ⟨_, rfl⟩
  rw [← hW0] at rK rV hs2 B2
  have rH := (B2.block _ (by omega)).trans rH
  have rT := (B2.block _ (by omega)).trans rT
  rw [hs1] at rK rV
  have Bw : Below w.heap.size w W0 := B1.trans (B2.mono (by omega))
  have hz0 : W0.heap.size = w.heap.size + 4 := by omega
  have HVAR : Hid (VarH W0 B w.heap.size ⟨sa, h.ts.length, sc⟩ ⟨ca, h.vs.length, cc⟩ ss h.xss (flatV h.vs)) := ⟨rH, hO.2.2.below Bw⟩
  clear hs1 hs2 B1 B2
  go_enter Try.func48, Try.ntmps48
  go_wp2_with fail
  rw [← hW1, ← hW0]
  clear hW0 hW1
  refine (has_any sa ca h.ts.length sc h.vs.length cc tk tn tx W0).mono ?_
  rintro e w1 ⟨rfl, hb1⟩
  have z1 := hb1.size
  have BB1 := Bw.trans (hb1.mono (by omega))
  have rH1 := (hb1.block _ (by omega)).trans rH
  have rT1 := (hb1.block _ (by omega)).trans rT
  have rK1 := (hb1.block _ (by omega)).trans rK
  have rV1 := (hb1.block _ (by omega)).trans rV
  clear rH rT rK rV
  by_cases htab : tabB h.ts.length tk tn = true
  · rw [htab]
    have k0 := cell_of_row _ _ 0 _ _ _ rK1
    have k1 := cell_of_row _ _ 1 _ _ _ rK1
    have k2 := cell_of_row _ _ 2 _ _ _ rK1
    simp only [List.getElem?_toArray, List.getElem?_cons_zero, List.getElem?_cons_succ] at k0 k1 k2
    go_wp2_with fail
    refine (isNil_any kk kn ks w1).mono ?_
    rintro e w2 ⟨rfl, hb2⟩
    have z2 := hb2.size
    have BB2 := BB1.trans (hb2.mono (by omega))
    have hb02 : Below W0.heap.size W0 w2 := hb1.trans (hb2.mono hb1.size)
    have rH2 := (hb2.block _ (by omega)).trans rH1
    have rT2 := (hb2.block _ (by omega)).trans rT1
    have rK2 := (hb2.block _ (by omega)).trans rK1
    have rV2 := (hb2.block _ (by omega)).trans rV1
    clear rH1 rT1 rK1 rV1 k0 k1 k2
    by_cases hk0 : kk = 0
    · subst hk0
      have HNO : Hid (setOk h tk tn ⟨0, kn, ks⟩ ⟨vk, vn, vs⟩ = false) := by show _ = _; simp [setOk]
      have HEND : Hid ((∃ ss', OwnH w2 B (h.setAt tk tn ⟨0, kn, ks⟩ ⟨vk, vn, vs⟩) ⟨sa, h.ts.length, sc⟩ ⟨ca, h.vs.length, cc⟩ ss') ∧ (∀ (b : Nat) (cs : Array Value), w.heap[b]? = some (Obj.cells cs 30 (0, 0)) → w2.heap[b]? = w.heap[b]?) ∧ Below B w w2) := ⟨⟨ss, by rw [setAt_no HNO.out]; exact ownH_below hO BB2⟩, fun b cs hb => BB2.block b (Array.getElem?_eq_some_iff.1 hb).1, BB2.mono hB⟩
      clear HVAR hO htab rH2 rT2 rK2 rV2 hb02 BB1 BB2 Bw hb1 hb2
      go_wp2_with fail
      go_ret
      exact ⟨ret_bool HNO.out.symm, HEND.out⟩
    · have hkb : (kk == 0) = false := by simpa using hk0
      obtain ⟨rfl, i, rfl, hlt⟩ : tk = 4 ∧ ∃ i : Nat, tn = i ∧ i < h.ts.length := by
        simp only [tabB, Bool.and_eq_true, decide_eq_true_eq, beq_iff_eq] at htab
        exact ⟨htab.1, tn.toNat, by omega, by omega⟩
      have hssl : ss.length = h.ts.length := by have := HVAR.out.own.tabs.1; rw [Hp.xss, List.length_map] at this; exact this
      have HV2 : Hid (VarH w2 B w.heap.size ⟨sa, h.ts.length, sc⟩ ⟨ca, h.vs.length, cc⟩ ss h.xss (flatV h.vs)) := HVAR.out.below hb02
      obtain ⟨hcl1, g, hpa, hcell, hfz, hg⟩ := spine_addr HV2.out.own i (by omega)
      dsimp only at hpa
      subst hpa
      have hrow := HV2.out.own.tabs.get i (by omega) (by rw [Hp.xss, List.length_map]; exact hlt)
      have ex : h.xss[i]'(by rw [Hp.xss, List.length_map]; exact hlt) = flatP h.ts[i] := by simp [Hp.xss]
      rw [ex] at hrow
      have hPi := pat_of_row hrow (hok.1 i hlt).2
      have hli : (ss[i]'(by omega)).n = h.ts[i].length := by have := hrow.1; rw [flatP_len] at this; omega
      have hwm := wtT_mem h.ts i hlt
      have HSL : Hid (setL h i ⟨kk, kn, ks⟩ ⟨vk, vn, vs⟩ = withF ⟨kk, kn, ks⟩ ⟨vk, vn, vs⟩ (decide (vk = 0)) h.ts[i]) := by show _ = _; simp [setL, List.getElem?_eq_getElem hlt]
      have HSI : Hid (i < ss.length) := by show _ < _; omega
      obtain ⟨⟨qa, qn, qc⟩, hsi⟩ : ∃ x : Sl, x = ss[i]'(by omega) := ⟨_, rfl⟩
      rw [← hsi] at hcell hPi hli
      dsimp only [Sl.v] at hcell hPi hli
      subst hli
      have HC : Hid (∀ W, Below w2.heap.size w2 W → Calls Try.prog 79 #[.slice qa h.ts[i].length qc, .agg #[.int .i64 kk, .int .i64 kn, .string ks], .agg #[.int .i64 vk, .int .i64 vn, .string vs]] W fun e w' => (∃ na nn nc, e = .returned (.slice na nn nc) ∧ Hid (nn = (setL h i ⟨kk, kn, ks⟩ ⟨vk, vn, vs⟩).length) ∧ Row w' w2.heap.size w'.heap.size 61 6 ⟨na, nn, nc⟩ (flatP (setL h i ⟨kk, kn, ks⟩ ⟨vk, vn, vs⟩))) ∧ Below W.heap.size W w') := fun W hW => by
        have q := pairsWith_impl h.ts[i] qa qc B w2.heap.size kk kn ks vk vn vs W hW.size (by omega) (PAt.below hPi hW (Nat.le_refl _)) (hd i hlt)
        rw [← HSL.out] at q
        refine q.mono ?_
        rintro e w' ⟨⟨⟨na, nn, nc⟩, he, h1, h2⟩, hb⟩
        exact ⟨⟨na, nn, nc, he, h1, h2.wide hW.size (Nat.le_refl _)⟩, hb⟩
      have HTB : Hid (tabB h.ts.length 4 i = true) := htab
      have p0 := cell_of_row _ _ 0 _ _ _ rH2
      have p1 := cell_of_row _ _ 1 _ _ _ rH2
      have t0 := cell_of_row _ _ 0 _ _ _ rT2
      have t1 := cell_of_row _ _ 1 _ _ _ rT2
      have t2 := cell_of_row _ _ 2 _ _ _ rT2
      simp only [List.getElem?_toArray, List.getElem?_cons_zero, List.getElem?_cons_succ] at p0 p1 t0 t1 t2
      have HB2 : Hid (Below w.heap.size w w2) := BB2
      have hW0 : w.heap.size + 3 < w2.heap.size := by omega
      clear hrow hPi hsi htab hfz hwm ex hcl1 hssl BB1 hO Bw hb1 hb2 hb02 HVAR rH2 BB2
      go_wp2_with fail
      refine (pairs_any g 0 h.ts.length sc h.vs.length cc i ca tx w2 hlt).mono ?_
      rintro e w3 ⟨rfl, hb3⟩
      have z3 := hb3.size
      have hcell3 := (hb3.cell (p := ⟨g, i, none⟩) hg).trans hcell
      have rK3 := (hb3.block _ (by omega)).trans rK2
      have rV3 := (hb3.block _ (by omega)).trans rV2
      have k0 := cell_of_row _ _ 0 _ _ _ rK3
      have k1 := cell_of_row _ _ 1 _ _ _ rK3
      have k2 := cell_of_row _ _ 2 _ _ _ rK3
      have v0 := cell_of_row _ _ 0 _ _ _ rV3
      have v1 := cell_of_row _ _ 1 _ _ _ rV3
      have v2 := cell_of_row _ _ 2 _ _ _ rV3
      simp only [List.getElem?_toArray, List.getElem?_cons_zero, List.getElem?_cons_succ] at k0 k1 k2 v0 v1 v2
      have HB3 : Hid (Below w2.heap.size w2 w3) := hb3
      clear p0 p1 t0 t1 t2 rK2 rV2 rT2 hb3 hcell
      simp only [Nat.zero_add]
      go_wp2_with fail
      have KEEP : Hid (∀ W' : World, Below w3.heap.size w3 W' → (fun w' => Below w3.heap.size w3 w' ∧ w'.cell? ⟨g, i, none⟩ = some (.slice qa h.ts[i].length qc) ∧ w'.cell? ⟨w.heap.size + 1 + 1, 0, none⟩ = some (.int .i64 kk) ∧ w'.cell? ⟨w.heap.size + 1 + 1, 1, none⟩ = some (.int .i64 kn) ∧ w'.cell? ⟨w.heap.size + 1 + 1, 2, none⟩ = some (.string ks) ∧ w'.cell? ⟨w.heap.size + 1 + 1 + 1, 0, none⟩ = some (.int .i64 vk) ∧ w'.cell? ⟨w.heap.size + 1 + 1 + 1, 1, none⟩ = some (.int .i64 vn) ∧ w'.cell? ⟨w.heap.size + 1 + 1 + 1, 2, none⟩ = some (.string vs)) W') := fun W' hB => ⟨hB, (hB.cell (p := ⟨g, i, none⟩) (by show g < _; omega)).trans hcell3, (hB.cell (p := ⟨w.heap.size + 1 + 1, 0, none⟩) (by show w.heap.size + 1 + 1 < _; omega)).trans k0, (hB.cell (p := ⟨w.heap.size + 1 + 1, 1, none⟩) (by show w.heap.size + 1 + 1 < _; omega)).trans k1, (hB.cell (p := ⟨w.heap.size + 1 + 1, 2, none⟩) (by show w.heap.size + 1 + 1 < _; omega)).trans k2, (hB.cell (p := ⟨w.heap.size + 1 + 1 + 1, 0, none⟩) (by show w.heap.size + 1 + 1 + 1 < _; omega)).trans v0, (hB.cell (p := ⟨w.heap.size + 1 + 1 + 1, 1, none⟩) (by show w.heap.size + 1 + 1 + 1 < _; omega)).trans v1, (hB.cell (p := ⟨w.heap.size + 1 + 1 + 1, 2, none⟩) (by show w.heap.size + 1 + 1 + 1 < _; omega)).trans v2⟩
      have HC3 : Hid (∀ W, Below w3.heap.size w3 W → Calls Try.prog 79 #[.slice qa h.ts[i].length qc, .agg #[.int .i64 kk, .int .i64 kn, .string ks], .agg #[.int .i64 vk, .int .i64 vn, .string vs]] W fun e w' => (∃ na nn nc, e = .returned (.slice na nn nc) ∧ Hid (nn = (setL h i ⟨kk, kn, ks⟩ ⟨vk, vn, vs⟩).length) ∧ Row w' w2.heap.size w'.heap.size 61 6 ⟨na, nn, nc⟩ (flatP (setL h i ⟨kk, kn, ks⟩ ⟨vk, vn, vs⟩))) ∧ Below W.heap.size W w') := fun W hW => HC.out W (HB3.out.trans (hW.mono HB3.out.size))
      have hq0 : Below w3.heap.size w3 w3.drew := (Below.refl _ _).drew
      clear hcell3 k0 k1 k2 v0 v1 v2 rK3 rV3
      go_region_held3 (fun w' => Below w3.heap.size w3 w' ∧ w'.cell? ⟨g, i, none⟩ = some (.slice qa h.ts[i].length qc) ∧ w'.cell? ⟨w.heap.size + 1 + 1, 0, none⟩ = some (.int .i64 kk) ∧ w'.cell? ⟨w.heap.size + 1 + 1, 1, none⟩ = some (.int .i64 kn) ∧ w'.cell? ⟨w.heap.size + 1 + 1, 2, none⟩ = some (.string ks) ∧ w'.cell? ⟨w.heap.size + 1 + 1 + 1, 0, none⟩ = some (.int .i64 vk) ∧ w'.cell? ⟨w.heap.size + 1 + 1 + 1, 1, none⟩ = some (.int .i64 vn) ∧ w'.cell? ⟨w.heap.size + 1 + 1 + 1, 2, none⟩ = some (.string vs)) (first | (with_reducible assumption) | exact KEEP.out _ (by with_reducible assumption)) (first | (go_at_call 79; refine (HC3.out _ (bel_of (by assumption))).mono ?_; rintro e w5 ⟨⟨na, nn, nc, rfl, hnn, hR⟩, hb5⟩; have hq5 := bel_step (by assumption) hb5))
      have HNN : Hid (nn = (setL h i ⟨kk, kn, ks⟩ ⟨vk, vn, vs⟩).length) := hnn
      clear hnn hq0
      have hq25 : Below w2.heap.size w2 w5 := HB3.out.trans (hq5.mono z3)
      have z5 := hq25.size
      have HR5 : Hid (Row w5 w2.heap.size w5.heap.size 61 6 ⟨na, nn, nc⟩ (flatP (setL h i ⟨kk, kn, ks⟩ ⟨vk, vn, vs⟩))) := hR
      have B5 : Below w.heap.size w w5 := HB2.out.trans (hq25.mono HB2.out.size)
      clear hR
      by_cases hlen : nn ≤ 200
      · have HYES : Hid (setOk h 4 i ⟨kk, kn, ks⟩ ⟨vk, vn, vs⟩ = true) := by
          show _ = _
          have := HNN.out
          have := HTB.out
          simp [setOk, *]
          omega
        have hlen' : ¬ (200 < (nn : Int)) := by omega
        have hlenN : ¬ 200 < nn := by omega
        have hv5 := HV2.out.below hq25
        obtain ⟨hcl5, g5, e5, hcell5, hfz5, hg5⟩ := spine_addr hv5.own i HSI.out
        obtain rfl : g = g5 := by simpa using e5
        obtain ⟨hvF, hfarF, hbF⟩ := HV2.out.setTable hq25 HR5.out rfl HSI.out (by have := HB2.out.size; omega)
        have HSA : Hid (h.setAt 4 i ⟨kk, kn, ks⟩ ⟨vk, vn, vs⟩ = ⟨h.ts.set i (setL h i ⟨kk, kn, ks⟩ ⟨vk, vn, vs⟩), h.vs⟩) := by
          show _ = _
          rw [Hp.setAt, if_pos HYES.out, Int.toNat_natCast]
        have HEND : Hid ((∃ ss', OwnH (w5.setCell ⟨g, i, none⟩ (.slice na nn nc)) B (h.setAt 4 i ⟨kk, kn, ks⟩ ⟨vk, vn, vs⟩) ⟨some ⟨g, 0, none⟩, h.ts.length, sc⟩ ⟨ca, h.vs.length, cc⟩ ss') ∧ (∀ (b : Nat) (cs : Array Value), w.heap[b]? = some (Obj.cells cs 30 (0, 0)) → (w5.setCell ⟨g, i, none⟩ (.slice na nn nc)).heap[b]? = w.heap[b]?) ∧ Below B w (w5.setCell ⟨g, i, none⟩ (.slice na nn nc))) := by
          refine ⟨⟨ss.set i ⟨na, nn, nc⟩, ?_⟩, fun b cs hb => ?_, (HB2.out.mono hB).trans hbF⟩
          · rw [HSA.out]
            refine ⟨by simp, rfl, ?_⟩
            rw [set_xss]
            exact hvF.own
          · have hb2 := (HB2.out.block b (Array.getElem?_eq_some_iff.1 hb).1).trans hb
            exact (hfarF b cs hb2).trans (hb2.trans hb.symm)
        clear hv5 hcl5 hvF hfarF hbF hq25 hq5 hb5 e5 B5 HR5 HV2 HSA
        go_wp2_with fail
        go_ret
        exact ⟨ret_bool HYES.out.symm, HEND.out⟩
      · have HNO : Hid (setOk h 4 i ⟨kk, kn, ks⟩ ⟨vk, vn, vs⟩ = false) := by
          show _ = _
          have := HNN.out
          simp [setOk]
          omega
        have hlen' : 200 < (nn : Int) := by omega
        have hlenN : 200 < nn := by omega
        have HEND : Hid ((∃ ss', OwnH w5 B (h.setAt 4 i ⟨kk, kn, ks⟩ ⟨vk, vn, vs⟩) ⟨some ⟨g, 0, none⟩, h.ts.length, sc⟩ ⟨ca, h.vs.length, cc⟩ ss') ∧ (∀ (b : Nat) (cs : Array Value), w.heap[b]? = some (Obj.cells cs 30 (0, 0)) → w5.heap[b]? = w.heap[b]?) ∧ Below B w w5) := ⟨⟨ss, by rw [setAt_no HNO.out]; exact ⟨rfl, rfl, (HV2.out.below hq25).own⟩⟩, fun b cs hb => B5.block b (Array.getElem?_eq_some_iff.1 hb).1, B5.mono hB⟩
        clear hq25 hq5 hb5 B5 HR5 HV2
        go_wp2_with fail
        go_ret
        exact ⟨ret_bool HNO.out.symm, HEND.out⟩
  · have htab' : tabB h.ts.length tk tn = false := by simpa using htab
    rw [htab']
    have HNO : Hid (setOk h tk tn ⟨kk, kn, ks⟩ ⟨vk, vn, vs⟩ = false) := by show _ = _; simp [setOk, htab']
    have HEND : Hid ((∃ ss', OwnH w1 B (h.setAt tk tn ⟨kk, kn, ks⟩ ⟨vk, vn, vs⟩) ⟨sa, h.ts.length, sc⟩ ⟨ca, h.vs.length, cc⟩ ss') ∧ (∀ (b : Nat) (cs : Array Value), w.heap[b]? = some (Obj.cells cs 30 (0, 0)) → w1.heap[b]? = w.heap[b]?) ∧ Below B w w1) := ⟨⟨ss, by rw [setAt_no HNO.out]; exact ownH_below hO BB1⟩, fun b cs hb => BB1.block b (Array.getElem?_eq_some_iff.1 hb).1, BB1.mono hB⟩
    clear HVAR hO htab htab' rH1 rT1 rK1 rV1 BB1 Bw hb1
    go_wp2_with fail
    go_ret
    exact ⟨ret_bool HNO.out.symm, HEND.out⟩
end Go.Proofs.Ytbdpfmkpjeleaaa
namespace Go.Proofs.Ytbdpfmkpjeleaaa
open Go.RowKit

set_option maxRecDepth 100000 in
set_option maxHeartbeats 3200000 in
theorem setAt_impl (h : Hp) (a b : Option Addr) (ca cb lo hi : Nat) (tk tn : Int) (tx : ByteArray) (kk kn : Int) (ks : ByteArray) (vk vn : Int) (vs : ByteArray) (w : World) (hh : hi ≤ w.heap.size) (hwt : h.wt ≤ 1048576) (hsm : h.Sm) (hd : ∀ i (hi : i < h.ts.length), h.ts[i].Pairwise (fun p q => p.key ≠ q.key)) (hT : TAt w lo hi h.ts a) (hV : VAt w lo hi h.vs b) (hks : ks.size ≤ 1048576) (hvs : vs.size ≤ 1048576) :
    Calls Try.prog 20 #[.agg #[.slice a h.ts.length ca, .slice b h.vs.length cb], .agg #[.int .i64 tk, .int .i64 tn, .string tx], .agg #[.int .i64 kk, .int .i64 kn, .string ks], .agg #[.int .i64 vk, .int .i64 vn, .string vs]] w fun e w' => (∃ (sp cl : Sl) (ss : List Sl), e = .returned (.tuple #[.agg #[sp.v, cl.v], .string (setU (setOk h tk tn ⟨kk, kn, ks⟩ ⟨vk, vn, vs⟩))]) ∧ OwnH w' w.heap.size (h.setAt tk tn ⟨kk, kn, ks⟩ ⟨vk, vn, vs⟩) sp cl ss) ∧ Below w.heap.size w w' := by
  have hok := ok_of_tv hT hV
  obtain ⟨rA, rT, rK, hs1, B1⟩ := rows3 w (Obj.cells #[.slice a h.ts.length ca, .slice b h.vs.length cb] 30) (Obj.cells #[.int .i64 tk, .int .i64 tn, .string tx] 32) (Obj.cells #[.int .i64 kk, .int .i64 kn, .string ks] 32)
  obtain ⟨V0, hV0⟩ : ∃ V0, V0 = ((w.alloc (Obj.cells #[.slice a h.ts.length ca, .slice b h.vs.length cb] 30)).alloc (Obj.cells #[.int .i64 tk, .int .i64 tn, .string tx] 32)).alloc (Obj.cells #[.int .i64 kk, .int .i64 kn, .string ks] 32) := ⟨_, rfl⟩
  rw [← hV0] at rA rT rK hs1 B1
  obtain ⟨rV, rZ, hs2, B2⟩ := rows2 V0 (Obj.cells #[.int .i64 vk, .int .i64 vn, .string vs] 32) (Obj.cells #[.slice none 0 0, .slice none 0 0] 30)
  obtain ⟨W0, hW0⟩ : ∃ W0, W0 = (V0.alloc (Obj.cells #[.int .i64 vk, .int .i64 vn, .string vs] 32)).alloc (Obj.cells #[.slice none 0 0, .slice none 0 0] 30) := ⟨_, rfl⟩
  rw [← hW0] at rV rZ hs2 B2
  have rT := (B2.block _ (by omega)).trans rT
  have rK := (B2.block _ (by omega)).trans rK
  rw [hs1] at rV rZ
  have Bw : Below w.heap.size w W0 := B1.trans (B2.mono (by omega))
  have hz0 : W0.heap.size = w.heap.size + 5 := by omega
  clear hs1 hs2 B1 B2 rA
  go_enter Try.func20, Try.ntmps20
  go_wp2_with fail
  rw [← hV0, ← hW0]
  clear hW0 hV0
  refine (copy_impl h a b ca cb lo hi W0 (by omega) hwt hsm (hT.below Bw hh) (hV.below Bw hh)).mono ?_
  rintro e w1 ⟨⟨⟨pa, pn, pc⟩, ⟨ua, un, uc⟩, ss, rfl, hpn, hun, hO⟩, hb1⟩
  dsimp only at hpn hun
  subst hpn
  subst hun
  have z1 := hb1.size
  obtain ⟨W2, hW2⟩ : ∃ W2, W2 = w1.alloc (Obj.cells #[.slice pa h.ts.length pc, .slice ua h.vs.length uc] 30) := ⟨_, rfl⟩
  have hal : Below w1.heap.size w1 W2 := by rw [hW2]; exact bel_alloc _ _
  have rX2 : W2.heap[w1.heap.size]? = some (Obj.cells #[.slice pa h.ts.length pc, .slice ua h.vs.length uc] 30) := by rw [hW2]; exact heap_alloc_new _ _
  have z2 : W2.heap.size = w1.heap.size + 1 := by rw [hW2]; exact size_alloc _ _
  have HO : Hid (OwnH W2 W0.heap.size h ⟨pa, h.ts.length, pc⟩ ⟨ua, h.vs.length, uc⟩ ss) := ⟨rfl, rfl, hO.below hal⟩
  have rT2 := (hal.block _ (by omega)).trans ((hb1.block _ (by omega)).trans rT)
  have rK2 := (hal.block _ (by omega)).trans ((hb1.block _ (by omega)).trans rK)
  have rV2 := (hal.block _ (by omega)).trans ((hb1.block _ (by omega)).trans rV)
  have rZ2 := (hal.block _ (by omega)).trans ((hb1.block _ (by omega)).trans rZ)
  have B2 : Below W0.heap.size W0 W2 := hb1.trans (hal.mono z1)
  have HK : Hid (∀ W, Below W2.heap.size W2 W → W.cell? ⟨w.heap.size + 1, 0, none⟩ = some (.int .i64 tk) ∧ W.cell? ⟨w.heap.size + 1, 1, none⟩ = some (.int .i64 tn) ∧ W.cell? ⟨w.heap.size + 1, 2, none⟩ = some (.string tx) ∧ W.cell? ⟨w.heap.size + 1 + 1, 0, none⟩ = some (.int .i64 kk) ∧ W.cell? ⟨w.heap.size + 1 + 1, 1, none⟩ = some (.int .i64 kn) ∧ W.cell? ⟨w.heap.size + 1 + 1, 2, none⟩ = some (.string ks) ∧ W.cell? ⟨w.heap.size + 1 + 1 + 1, 0, none⟩ = some (.int .i64 vk) ∧ W.cell? ⟨w.heap.size + 1 + 1 + 1, 1, none⟩ = some (.int .i64 vn) ∧ W.cell? ⟨w.heap.size + 1 + 1 + 1, 2, none⟩ = some (.string vs) ∧ W.cell? ⟨w1.heap.size, 0, none⟩ = some (.slice pa h.ts.length pc) ∧ W.cell? ⟨w1.heap.size, 1, none⟩ = some (.slice ua h.vs.length uc)) := fun W hW => ⟨(hW.cell (p := ⟨w.heap.size + 1, 0, none⟩) (by show w.heap.size + 1 < _; omega)).trans (cell_of_row _ _ 0 _ _ _ rT2), (hW.cell (p := ⟨w.heap.size + 1, 1, none⟩) (by show w.heap.size + 1 < _; omega)).trans (cell_of_row _ _ 1 _ _ _ rT2), (hW.cell (p := ⟨w.heap.size + 1, 2, none⟩) (by show w.heap.size + 1 < _; omega)).trans (cell_of_row _ _ 2 _ _ _ rT2), (hW.cell (p := ⟨w.heap.size + 1 + 1, 0, none⟩) (by show w.heap.size + 1 + 1 < _; omega)).trans (cell_of_row _ _ 0 _ _ _ rK2), (hW.cell (p := ⟨w.heap.size + 1 + 1, 1, none⟩) (by show w.heap.size + 1 + 1 < _; omega)).trans (cell_of_row _ _ 1 _ _ _ rK2), (hW.cell (p := ⟨w.heap.size + 1 + 1, 2, none⟩) (by show w.heap.size + 1 + 1 < _; omega)).trans (cell_of_row _ _ 2 _ _ _ rK2), (hW.cell (p := ⟨w.heap.size + 1 + 1 + 1, 0, none⟩) (by show w.heap.size + 1 + 1 + 1 < _; omega)).trans (cell_of_row _ _ 0 _ _ _ rV2), (hW.cell (p := ⟨w.heap.size + 1 + 1 + 1, 1, none⟩) (by show w.heap.size + 1 + 1 + 1 < _; omega)).trans (cell_of_row _ _ 1 _ _ _ rV2), (hW.cell (p := ⟨w.heap.size + 1 + 1 + 1, 2, none⟩) (by show w.heap.size + 1 + 1 + 1 < _; omega)).trans (cell_of_row _ _ 2 _ _ _ rV2), (hW.cell (p := ⟨w1.heap.size, 0, none⟩) (by show w1.heap.size < _; omega)).trans (cell_of_row _ _ 0 _ _ _ rX2), (hW.cell (p := ⟨w1.heap.size, 1, none⟩) (by show w1.heap.size < _; omega)).trans (cell_of_row _ _ 1 _ _ _ rX2)⟩
  have X : Below W2.heap.size W2 W2.drew := (Below.refl _ _).drew
  have HZ2 : Hid (W2.heap[w.heap.size + 3 + 1]? = some (Obj.cells #[.slice none 0 0, .slice none 0 0] 30)) := rZ2
  have HX2 : Hid (W2.heap[w1.heap.size]? = some (Obj.cells #[.slice pa h.ts.length pc, .slice ua h.vs.length uc] 30)) := rX2
  have HB2 : Hid (Below W0.heap.size W0 W2) := B2
  have HBw : Hid (Below w.heap.size w W0) := Bw
  clear hT hV hO hb1 rT2 rK2 rV2 rZ2 rX2 rT rK rV rZ B2 Bw hal
  dsimp only [Sl.v]
  go_wp2_with fail
  rw [← hW2]
  clear hW2
  obtain ⟨t0, t1, t2, k0, k1, k2, v0, v1, v2, x0, x1⟩ := HK.out _ X
  go_cut [20] from 11 (fun u wx => u = .bool (!setOk h tk tn ⟨kk, kn, ks⟩ ⟨vk, vn, vs⟩) ∧ (∃ ss', OwnH wx W0.heap.size (h.setAt tk tn ⟨kk, kn, ks⟩ ⟨vk, vn, vs⟩) ⟨pa, h.ts.length, pc⟩ ⟨ua, h.vs.length, uc⟩ ss') ∧ wx.heap[w1.heap.size]? = some (Obj.cells #[.slice pa h.ts.length pc, .slice ua h.vs.length uc] 30) ∧ wx.heap[w.heap.size + 3 + 1]? = some (Obj.cells #[.slice none 0 0, .slice none 0 0] 30) ∧ Below W0.heap.size W0 wx)
  case first =>
    go_region_law (first | (go_simp; go_at_call 43; with_reducible refine (copied_any kk kn ks _ hks).mono ?_; rintro e w' ⟨rfl, hb'⟩; have X := X.trans (hb'.mono X.size); obtain ⟨t0, t1, t2, k0, k1, k2, v0, v1, v2, x0, x1⟩ := HK.out _ X) | (go_simp; go_at_call 43; with_reducible refine (copied_any vk vn vs _ hvs).mono ?_; rintro e w' ⟨rfl, hb'⟩; have X := X.trans (hb'.mono X.size); obtain ⟨t0, t1, t2, k0, k1, k2, v0, v1, v2, x0, x1⟩ := HK.out _ X) | (go_simp; go_at_call 48; refine (put_impl h ⟨pa, h.ts.length, pc⟩ ⟨ua, h.vs.length, uc⟩ ss W0.heap.size tk tn tx kk kn ks vk vn vs _ (ownH_below HO.out X) (by have := X.size; omega) hok hwt hd).mono ?_; rintro e w' ⟨rfl, hO', hE', hB'⟩; have qX := (X.block _ (by omega)).trans HX2.out; have qX' := (hE' _ _ qX).trans qX; have qZ := (X.block _ (by omega)).trans HZ2.out; have qZ' := (hE' _ _ qZ).trans qZ; have qB := (HB2.out.trans (X.mono (by omega))).trans hB'; clear hE' qX qZ X))
    all_goals
      go_wp2_with fail
      go_meet
      case rel => exact ⟨rfl, hO', qX', qZ', qB⟩
  case rest =>
    rename World => wx
    obtain ⟨rfl, ⟨ss', hO'⟩, qX, qZ, qB⟩ := hcut
    have c0 := cell_of_row _ _ 0 _ _ _ qX
    have c1 := cell_of_row _ _ 1 _ _ _ qX
    have e0 := cell_of_row _ _ 0 _ _ _ qZ
    have e1 := cell_of_row _ _ 1 _ _ _ qZ
    have g0 := frozen_of_row _ _ 0 _ _ qZ
    have g1 := frozen_of_row _ _ 1 _ _ qZ
    simp only [List.getElem?_toArray, List.getElem?_cons_zero, List.getElem?_cons_succ] at c0 c1 e0 e1
    have nx := (Array.getElem?_eq_some_iff.1 qX).1
    have nz := (Array.getElem?_eq_some_iff.1 qZ).1
    have HOF : Hid (∀ x y : Value, OwnH ((wx.setCell ⟨w.heap.size + 3 + 1, 0, none⟩ x).setCell ⟨w.heap.size + 3 + 1, 1, none⟩ y) w.heap.size (h.setAt tk tn ⟨kk, kn, ks⟩ ⟨vk, vn, vs⟩) ⟨pa, h.ts.length, pc⟩ ⟨ua, h.vs.length, uc⟩ ss') := fun x y => ⟨hO'.1, hO'.2.1, (hO'.2.2.under (fun b hb => by rw [heap_setCell_other _ _ _ _ (by show b ≠ w.heap.size + 3 + 1; omega), heap_setCell_other _ _ _ _ (by show b ≠ w.heap.size + 3 + 1; omega)]) (by simp)).base (by omega)⟩
    have HBF : Hid (Below w.heap.size w wx) := HBw.out.trans (qB.mono (by omega))
    clear qX qZ qB hO'
    cases hs : setOk h tk tn ⟨kk, kn, ks⟩ ⟨vk, vn, vs⟩ with
    | true =>
      go_wp2_with fail
      refine bodyPost_ret (v := .tuple #[.agg #[.slice pa h.ts.length pc, .slice ua h.vs.length uc], .string ⟨#[]⟩]) (by simp [results, Try.results20, go_sem, *]) rfl ⟨⟨⟨pa, h.ts.length, pc⟩, ⟨ua, h.vs.length, uc⟩, ss', by rw [hs]; rfl, HOF.out _ _⟩, ?_⟩
      have HBF' := HBF.out
      repeat (first | (with_reducible exact HBF') | (with_reducible refine Below.setCell ?_ (by show w.heap.size ≤ w.heap.size + 3 + 1; omega) _) | (with_reducible refine Below.drew ?_))
    | false =>
      go_wp2_with fail
      refine bodyPost_ret (v := .tuple #[.agg #[.slice pa h.ts.length pc, .slice ua h.vs.length uc], .string ⟨#[105, 110, 100, 101, 120]⟩]) (by simp [results, Try.results20, go_sem, *]) rfl ⟨⟨⟨pa, h.ts.length, pc⟩, ⟨ua, h.vs.length, uc⟩, ss', by rw [hs]; rfl, HOF.out _ _⟩, ?_⟩
      have HBF' := HBF.out
      repeat (first | (with_reducible exact HBF') | (with_reducible refine Below.setCell ?_ (by show w.heap.size ≤ w.heap.size + 3 + 1; omega) _) | (with_reducible refine Below.drew ?_))
end Go.Proofs.Ytbdpfmkpjeleaaa
