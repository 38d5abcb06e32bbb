/- The words of an expression. -/
import Derived.Test.YtlmmomffanakiaaJmF
import Derived.Test.YtlmmomffanakiaaJmG
import Derived.Deep.RegionLaw
import Derived.Lib.ItoaLen
namespace Go.Proofs.Ytlmmomffanakiaa
open Go.RowKit

/-- A kid: where it lies, its cells, its words. -/
def KidOk (w : World) (ks : List Nd) (b : Option Addr) (hi : Nat) (z : Int) : Prop := ∀ i (h : i < ks.length),
  ∃ (g o : Nat) (v0 v1 v2 v3 v4 v5 : Value), b = some ⟨g, o, none⟩ ∧ g < hi ∧
    (∃ (k1 : Int) (t1 : ByteArray) (n1 : Int) (a1 : Option Addr) (m1 c1 : Nat) (y1 : Int) (b1 : Option Addr) (q1 d1 : Nat), v0 = .int .i64 k1 ∧ v1 = .string t1 ∧ v2 = .int .i64 n1 ∧ v3 = .slice a1 m1 c1 ∧ v4 = .int .i64 y1 ∧ v5 = .slice b1 q1 d1) ∧
    (∀ W, Below w.heap.size w W → W.cell? ⟨g, o + 6 * i, none⟩ = some v0 ∧ W.cell? ⟨g, o + 6 * i + 1, none⟩ = some v1 ∧ W.cell? ⟨g, o + 6 * i + 2, none⟩ = some v2 ∧ W.cell? ⟨g, o + 6 * i + 3, none⟩ = some v3 ∧ W.cell? ⟨g, o + 6 * i + 4, none⟩ = some v4 ∧ W.cell? ⟨g, o + 6 * i + 5, none⟩ = some v5) ∧
    ∀ W, Below w.heap.size w W → Calls Try.prog 47 #[.agg #[v0, v1, v2, v3, v4, v5], .int .i64 (z - 1)] W fun e w' => Says W (20 + 24 * wt ks[i]) e w'
theorem base_kid {w : World} {v0 v1 v2 v3 v4 v5 : Value} {z : Int} {u : Nat} (hu : u ≤ 8000) (hv : ∃ (k1 : Int) (t1 : ByteArray) (n1 : Int) (a1 : Option Addr) (m1 c1 : Nat) (y1 : Int) (b1 : Option Addr) (q1 d1 : Nat), v0 = .int .i64 k1 ∧ v1 = .string t1 ∧ v2 = .int .i64 n1 ∧ v3 = .slice a1 m1 c1 ∧ v4 = .int .i64 y1 ∧ v5 = .slice b1 q1 d1)
    (hk : ∀ W, Below w.heap.size w W → Calls Try.prog 47 #[.agg #[v0, v1, v2, v3, v4, v5], .int .i64 z] W fun e w' => Says W (20 + 24 * u) e w') (W : World) (hb : Below w.heap.size w W) :
    Calls Try.prog 71 #[.agg #[v0, v1, v2, v3, v4, v5], .int .i64 z] W fun e w' => Says W (20 + 24 * u + 2) e w' := by
  obtain ⟨k1, t1, n1, a1, m1, c1, y1, b1, q1, d1, rfl, rfl, rfl, rfl, rfl, rfl⟩ := hv
  exact base_any (20 + 24 * u) (by omega) k1 n1 y1 z t1 a1 b1 m1 c1 q1 d1 W (fun W2 h2 => hk W2 (hb.trans (h2.mono hb.size)))
theorem wtL1 {ks : List Nd} (h : 0 < ks.length) : 1 + wt ks[0] ≤ wtL ks := wt_mem (List.getElem_mem h)
theorem wtL2 {ks : List Nd} (h : 1 < ks.length) : wt (ks[0]'(by omega)) + wt ks[1] + 2 ≤ wtL ks := by
  match ks, h with
  | a :: b :: l, _ => simp only [List.getElem_cons_zero, List.getElem_cons_succ, wtL]; omega
theorem wtL3 {ks : List Nd} (h : 2 < ks.length) : wt (ks[0]'(by omega)) + wt (ks[1]'(by omega)) + wt ks[2] + 3 ≤ wtL ks := by
  match ks, h with
  | a :: b :: c :: l, _ => simp only [List.getElem_cons_zero, List.getElem_cons_succ, wtL]; omega
theorem wtL_len (ks : List Nd) : ks.length ≤ wtL ks := by
  induction ks with
  | nil => simp
  | cons k ks ih => simp only [List.length_cons, wtL]; omega
theorem wtL_take0 {ks : List Nd} (i : Nat) : wtL (ks.take i) ≤ wtL ks := by
  induction ks generalizing i with
  | nil => simp
  | cons k ks ih =>
    cases i with
    | zero => simp [wtL]
    | succ i => simp only [List.take_succ_cons, wtL]; have := ih i; omega

set_option maxRecDepth 100000 in
set_option maxHeartbeats 3200000 in
theorem exp_nil (tx : ByteArray) (n y z : Int) (ns : List ByteArray) (ks : List Nd) (a b : Option Addr) (ca cb : Nat) (w : World)   :
    Calls Try.prog 60 #[.agg #[.int .i64 9, .string tx, .int .i64 n, .slice a ns.length ca, .int .i64 y, .slice b ks.length cb], .int .i64 z] w fun e w' => Says w (20 + 24 * (ns.length + wtL ks)) e w' := by
  go_enter Try.func60, Try.ntmps60
  go_wp2_with fail
  go_ret
  have R := rw_lit1 (w := w) (W := (w.alloc (.cells #[.int .i64 9, .string tx, .int .i64 n, .slice a ns.length ca, .int .i64 y, .slice b ks.length cb] 27)).alloc (.cells #[.string ⟨#[110, 105, 108]⟩, .string ⟨#[116, 114, 117, 101]⟩, .string ⟨#[102, 97, 108, 115, 101]⟩] 9)) ⟨#[110, 105, 108]⟩ ((bel_alloc w _).trans ((bel_alloc _ _).mono (by simp))) (by decide)
  simp only [size_alloc] at R
  exact (R.more (n' := 20 + 24 * (ns.length + wtL ks)) (by omega)).says (Below.refl _ _)
set_option maxRecDepth 100000 in
set_option maxHeartbeats 3200000 in
theorem exp_true (tx : ByteArray) (n y z : Int) (ns : List ByteArray) (ks : List Nd) (a b : Option Addr) (ca cb : Nat) (w : World)   :
    Calls Try.prog 60 #[.agg #[.int .i64 10, .string tx, .int .i64 n, .slice a ns.length ca, .int .i64 y, .slice b ks.length cb], .int .i64 z] w fun e w' => Says w (20 + 24 * (ns.length + wtL ks)) e w' := by
  go_enter Try.func60, Try.ntmps60
  go_wp2_with fail
  go_ret
  have R := rw_lit1 (w := w) (W := (w.alloc (.cells #[.int .i64 10, .string tx, .int .i64 n, .slice a ns.length ca, .int .i64 y, .slice b ks.length cb] 27)).alloc (.cells #[.string ⟨#[110, 105, 108]⟩, .string ⟨#[116, 114, 117, 101]⟩, .string ⟨#[102, 97, 108, 115, 101]⟩] 9)) ⟨#[116, 114, 117, 101]⟩ ((bel_alloc w _).trans ((bel_alloc _ _).mono (by simp))) (by decide)
  simp only [size_alloc] at R
  exact (R.more (n' := 20 + 24 * (ns.length + wtL ks)) (by omega)).says (Below.refl _ _)
set_option maxRecDepth 100000 in
set_option maxHeartbeats 3200000 in
theorem exp_false (tx : ByteArray) (n y z : Int) (ns : List ByteArray) (ks : List Nd) (a b : Option Addr) (ca cb : Nat) (w : World)   :
    Calls Try.prog 60 #[.agg #[.int .i64 11, .string tx, .int .i64 n, .slice a ns.length ca, .int .i64 y, .slice b ks.length cb], .int .i64 z] w fun e w' => Says w (20 + 24 * (ns.length + wtL ks)) e w' := by
  go_enter Try.func60, Try.ntmps60
  go_wp2_with fail
  go_ret
  have R := rw_lit1 (w := w) (W := (w.alloc (.cells #[.int .i64 11, .string tx, .int .i64 n, .slice a ns.length ca, .int .i64 y, .slice b ks.length cb] 27)).alloc (.cells #[.string ⟨#[110, 105, 108]⟩, .string ⟨#[116, 114, 117, 101]⟩, .string ⟨#[102, 97, 108, 115, 101]⟩] 9)) ⟨#[102, 97, 108, 115, 101]⟩ ((bel_alloc w _).trans ((bel_alloc _ _).mono (by simp))) (by decide)
  simp only [size_alloc] at R
  exact (R.more (n' := 20 + 24 * (ns.length + wtL ks)) (by omega)).says (Below.refl _ _)
set_option maxRecDepth 100000 in
set_option maxHeartbeats 3200000 in
theorem exp_int (tx : ByteArray) (n y z : Int) (ns : List ByteArray) (ks : List Nd) (a b : Option Addr) (ca cb : Nat) (w : World) (hn : -9223372036854775808 ≤ n ∧ n ≤ 9223372036854775807)  :
    Calls Try.prog 60 #[.agg #[.int .i64 12, .string tx, .int .i64 n, .slice a ns.length ca, .int .i64 y, .slice b ks.length cb], .int .i64 z] w fun e w' => Says w (20 + 24 * (ns.length + wtL ks)) e w' := by
  have hl := Go.Lib.itoa_length_le n hn.1 hn.2
  go_enter Try.func60, Try.ntmps60
  go_wp2_with fail
  refine (dec_spec n hn.1 hn.2 _).mono ?_
  rintro e _ ⟨rfl, rfl⟩
  generalize Go.Lib.itoa n = l at *
  have hl9 : (⟨l.toArray⟩ : ByteArray).size ≤ 9000 := by show l.toArray.size ≤ 9000; rw [List.size_toArray]; omega
  go_wp2_with fail
  go_ret
  have R := rw_lit1 (w := w) (W := w.alloc (.cells #[.int .i64 12, .string tx, .int .i64 n, .slice a ns.length ca, .int .i64 y, .slice b ks.length cb] 27)) ⟨l.toArray⟩ (bel_alloc w _) hl9
  simp only [size_alloc] at R
  exact (R.more (n' := 20 + 24 * (ns.length + wtL ks)) (by omega)).says (Below.refl _ _)
set_option maxRecDepth 100000 in
set_option maxHeartbeats 3200000 in
theorem exp_text (tx : ByteArray) (n y z : Int) (ns : List ByteArray) (ks : List Nd) (a b : Option Addr) (ca cb : Nat) (w : World) (htx : tx.size ≤ 4000)  :
    Calls Try.prog 60 #[.agg #[.int .i64 13, .string tx, .int .i64 n, .slice a ns.length ca, .int .i64 y, .slice b ks.length cb], .int .i64 z] w fun e w' => Says w (20 + 24 * (ns.length + wtL ks)) e w' := by
  have hl := qb_len tx.data.toList
  have hl2 : tx.data.toList.length = tx.size := Array.length_toList
  go_enter Try.func60, Try.ntmps60
  go_wp2_with fail
  refine (quote_spec tx _ (by omega)).mono ?_
  rintro e w1 ⟨rfl, hb1⟩
  have hB : Below w.heap.size w w1 := (bel_alloc w _).trans (hb1.mono (by simp))
  generalize hq : qb tx.data.toList ++ [34] = l at *
  have hl9 : (⟨l.toArray⟩ : ByteArray).size ≤ 9000 := by show l.toArray.size ≤ 9000; rw [List.size_toArray, ← hq, List.length_append, List.length_singleton]; omega
  clear hq hl hl2 hb1
  go_wp2_with fail
  go_ret
  exact ((rw_lit1 (w := w) ⟨l.toArray⟩ hB hl9).more (n' := 20 + 24 * (ns.length + wtL ks)) (by omega)).says (Below.refl _ _)
set_option maxRecDepth 100000 in
set_option maxHeartbeats 3200000 in
theorem exp_name (tx : ByteArray) (n y z : Int) (ns : List ByteArray) (ks : List Nd) (a b : Option Addr) (ca cb : Nat) (w : World) (htx : tx.size ≤ 4000)  :
    Calls Try.prog 60 #[.agg #[.int .i64 14, .string tx, .int .i64 n, .slice a ns.length ca, .int .i64 y, .slice b ks.length cb], .int .i64 z] w fun e w' => Says w (20 + 24 * (ns.length + wtL ks)) e w' := by
  go_enter Try.func60, Try.ntmps60
  go_wp2_with fail
  go_ret
  have R := rw_lit1 (w := w) (W := w.alloc (.cells #[.int .i64 14, .string tx, .int .i64 n, .slice a ns.length ca, .int .i64 y, .slice b ks.length cb] 27)) tx (bel_alloc w _) (by omega)
  simp only [size_alloc] at R
  exact (R.more (n' := 20 + 24 * (ns.length + wtL ks)) (by omega)).says (Below.refl _ _)
set_option maxRecDepth 100000 in
set_option maxHeartbeats 3200000 in
theorem exp_table (tx : ByteArray) (n y z : Int) (ns : List ByteArray) (ks : List Nd) (a b : Option Addr) (ca cb : Nat) (w : World)   :
    Calls Try.prog 60 #[.agg #[.int .i64 15, .string tx, .int .i64 n, .slice a ns.length ca, .int .i64 y, .slice b ks.length cb], .int .i64 z] w fun e w' => Says w (20 + 24 * (ns.length + wtL ks)) e w' := by
  go_enter Try.func60, Try.ntmps60
  go_wp2_with fail
  go_ret
  have R := rw_lit2 (w := w) (W := w.alloc (.cells #[.int .i64 15, .string tx, .int .i64 n, .slice a ns.length ca, .int .i64 y, .slice b ks.length cb] 27)) ⟨#[123]⟩ ⟨#[125]⟩ (bel_alloc w _) (by decide) (by decide)
  simp only [size_alloc] at R
  exact (R.more (n' := 20 + 24 * (ns.length + wtL ks)) (by omega)).says (Below.refl _ _)
set_option maxRecDepth 100000 in
set_option maxHeartbeats 3200000 in
theorem exp_none (tx : ByteArray) (n y z : Int) (ns : List ByteArray) (ks : List Nd) (a b : Option Addr) (ca cb : Nat) (w : World)  (k : Int) (hk : ∀ j : Int, 9 ≤ j → j ≤ 20 → ¬ k = j) :
    Calls Try.prog 60 #[.agg #[.int .i64 k, .string tx, .int .i64 n, .slice a ns.length ca, .int .i64 y, .slice b ks.length cb], .int .i64 z] w fun e w' => Says w (20 + 24 * (ns.length + wtL ks)) e w' := by
  have e9 := hk 9 (by decide) (by decide)
  have e10 := hk 10 (by decide) (by decide)
  have e11 := hk 11 (by decide) (by decide)
  have e12 := hk 12 (by decide) (by decide)
  have e13 := hk 13 (by decide) (by decide)
  have e14 := hk 14 (by decide) (by decide)
  have e15 := hk 15 (by decide) (by decide)
  have e16 := hk 16 (by decide) (by decide)
  have e17 := hk 17 (by decide) (by decide)
  have e18 := hk 18 (by decide) (by decide)
  have e19 := hk 19 (by decide) (by decide)
  have e20 := hk 20 (by decide) (by decide)
  clear hk
  go_enter Try.func60, Try.ntmps60
  go_wp2_with fail
  go_ret
  have R := rw_lit0 (w := w) (W := w.alloc (.cells #[.int .i64 k, .string tx, .int .i64 n, .slice a ns.length ca, .int .i64 y, .slice b ks.length cb] 27)) (bel_alloc w _)
  simp only [size_alloc] at R
  exact (R.more (n' := 20 + 24 * (ns.length + wtL ks)) (by omega)).says (Below.refl _ _)
set_option maxRecDepth 100000 in
set_option maxHeartbeats 3200000 in
theorem exp_func (tx : ByteArray) (n y z : Int) (ns : List ByteArray) (ks : List Nd) (a b : Option Addr) (ca cb hi : Nat) (w : World) (hz : 1 ≤ z ∧ z ≤ 1000) (hnl : ns.length ≤ 8000) (hw : wtL ks ≤ 8000) (hl : 1 ≤ ks.length) (HK : KidOk w ks b hi z) (HN : ∀ W, Below w.heap.size w W → Calls Try.prog 59 #[.slice a ns.length ca] W fun e w' => Says W (2 * ns.length + 2) e w') :
    Calls Try.prog 60 #[.agg #[.int .i64 16, .string tx, .int .i64 n, .slice a ns.length ca, .int .i64 y, .slice b ks.length cb], .int .i64 z] w fun e w' => Says w (20 + 24 * (ns.length + wtL ks)) e w' := by
  have w1z : IntKind.i64.wrap (z - 1) = z - 1 := by rw [IntKind.wrap_i64]; omega
  have hm := wtL1 hl
  have hln : 1 ≤ ks.length := by omega
  have hj0 : 0 < ks.length := by omega
  have hi0 : (0 : Int) < (ks.length : Int) := by omega
  obtain ⟨g, o, v00, v01, v02, v03, v04, v05, e0, hg0, hv0, hc0, hk0⟩ := HK 0 (by omega)
  subst e0
  simp only [Nat.mul_zero, Nat.add_zero] at hc0
  generalize wt ks[0] = u0 at *
  clear HK
  go_enter Try.func60, Try.ntmps60
  go_wp2_with fail
  refine (HN _ ((bel_alloc w _).trans ((bel_alloc _ _).mono (by simp)))).mono ?_
  rintro e w1 hS
  obtain ⟨a1, k1, c1, rfl, R1, N1, b1⟩ := says_row (w := w) ((bel_alloc w _).trans ((bel_alloc _ _).mono (by simp))) hS
  clear hS
  have R0 := (rw_lit1 (w := w) (W := w.alloc (.cells #[.int .i64 16, .string tx, .int .i64 n, .slice a ns.length ca, .int .i64 y, .slice (some ⟨g, o, none⟩) ks.length cb] 27)) ⟨#[102, 117, 110, 99, 116, 105, 111, 110]⟩ (bel_alloc w _) (by decide)).below b1
  simp only [size_alloc] at R0
  go_wp2_with (at_builtin; go_must (refine wpList_rw rfl _ _ rfl rfl R0 _ _ _ rfl N1 (by omega) ?_))
  intro b2 c2 w2 R2 g2
  obtain ⟨x00, x01, x02, x03, x04, x05⟩ := hc0 w2 R2.bel
  go_wp2_with fail
  refine (hk0 _ R2.bel).mono ?_
  rintro e w3 hS
  obtain ⟨a3, k3, c3, rfl, R3, N3, b3⟩ := says_row (w := w) R2.bel hS
  clear hS
  go_wp2_with (at_builtin; go_must (refine wpList_rw rfl _ _ rfl rfl (R2.below b3) _ _ _ rfl N3 (by omega) ?_))
  intro b4 c4 w4 R4 g4
  go_wp2_with (at_builtin; go_must (refine wpList_rw rfl _ _ rfl rfl (R4.alloc _) _ _ _ rfl (nw_lit1 w4 ⟨#[101, 110, 100]⟩ (by decide) (Nat.le_refl _)) (by omega) ?_))
  intro b5 c5 w5 R5 g5
  go_wp2_with fail
  go_ret
  exact (R5.more (n' := 20 + 24 * (ns.length + wtL ks)) (by omega)).says (Below.refl _ _)
set_option maxRecDepth 100000 in
set_option maxHeartbeats 3200000 in
theorem exp_index (tx : ByteArray) (n y z : Int) (ns : List ByteArray) (ks : List Nd) (a b : Option Addr) (ca cb hi : Nat) (w : World) (hz : 1 ≤ z ∧ z ≤ 1000) (hw : wtL ks ≤ 8000) (hl : 2 ≤ ks.length) (HK : KidOk w ks b hi z) :
    Calls Try.prog 60 #[.agg #[.int .i64 17, .string tx, .int .i64 n, .slice a ns.length ca, .int .i64 y, .slice b ks.length cb], .int .i64 z] w fun e w' => Says w (20 + 24 * (ns.length + wtL ks)) e w' := by
  have w1z : IntKind.i64.wrap (z - 1) = z - 1 := by rw [IntKind.wrap_i64]; omega
  have hm := wtL2 (show 1 < ks.length by omega)
  have hln : 2 ≤ ks.length := by omega
  have hj0 : 0 < ks.length := by omega
  have hi0 : (0 : Int) < (ks.length : Int) := by omega
  have hj1 : 1 < ks.length := by omega
  have hi1 : (1 : Int) < (ks.length : Int) := by omega
  obtain ⟨g, o, v00, v01, v02, v03, v04, v05, e0, hg0, hv0, hc0, hk0⟩ := HK 0 (by omega)
  subst e0
  simp only [Nat.mul_zero, Nat.add_zero] at hc0
  obtain ⟨g', o', v10, v11, v12, v13, v14, v15, e1, hg1, hv1, hc1, hk1⟩ := HK 1 (by omega)
  simp only [Option.some.injEq, Addr.mk.injEq, and_true] at e1
  obtain ⟨rfl, rfl⟩ := e1
  simp only [Nat.mul_one] at hc1
  generalize wt ks[0] = u0 at *
  generalize wt ks[1] = u1 at *
  have hbs := base_kid (by omega) hv0 hk0
  have q0 := fun O => (hc0 (w.alloc O) (bel_alloc w O)).1
  have q1 := fun O => (hc0 (w.alloc O) (bel_alloc w O)).2.1
  have q2 := fun O => (hc0 (w.alloc O) (bel_alloc w O)).2.2.1
  have q3 := fun O => (hc0 (w.alloc O) (bel_alloc w O)).2.2.2.1
  have q4 := fun O => (hc0 (w.alloc O) (bel_alloc w O)).2.2.2.2.1
  have q5 := fun O => (hc0 (w.alloc O) (bel_alloc w O)).2.2.2.2.2
  clear HK hk0 hc0 hv1
  go_enter Try.func60, Try.ntmps60
  go_wp2_with fail
  refine (hbs _ (bel_alloc w _)).mono ?_
  rintro e w1 hS
  obtain ⟨a1, k1, c1, rfl, R1, N1, b1⟩ := says_row (w := w) (bel_alloc w _) hS
  clear hS
  go_wp2_with (at_builtin; go_must (refine wpList_rw rfl _ _ rfl rfl (R1.alloc _) _ _ _ rfl (nw_lit1 w1 ⟨#[91]⟩ (by decide) (Nat.le_refl _)) (by omega) ?_))
  intro b2 c2 w2 R2 g2
  obtain ⟨x10, x11, x12, x13, x14, x15⟩ := hc1 w2 R2.bel
  go_wp2_with fail
  refine (hk1 _ R2.bel).mono ?_
  rintro e w3 hS
  obtain ⟨a3, k3, c3, rfl, R3, N3, b3⟩ := says_row (w := w) R2.bel hS
  clear hS
  go_wp2_with (at_builtin; go_must (refine wpList_rw rfl _ _ rfl rfl (R2.below b3) _ _ _ rfl N3 (by omega) ?_))
  intro b4 c4 w4 R4 g4
  go_wp2_with (at_builtin; go_must (refine wpList_rw rfl _ _ rfl rfl (R4.alloc _) _ _ _ rfl (nw_lit1 w4 ⟨#[93]⟩ (by decide) (Nat.le_refl _)) (by omega) ?_))
  intro b5 c5 w5 R5 g5
  go_wp2_with fail
  go_ret
  exact (R5.more (n' := 20 + 24 * (ns.length + wtL ks)) (by omega)).says (Below.refl _ _)
set_option maxRecDepth 100000 in
set_option maxHeartbeats 3200000 in
theorem exp_call (tx : ByteArray) (n y z : Int) (ns : List ByteArray) (ks : List Nd) (a b : Option Addr) (ca cb hi : Nat) (w : World) (hz : 1 ≤ z ∧ z ≤ 1000) (hw : wtL ks ≤ 8000) (hl : 1 ≤ ks.length) (HK : KidOk w ks b hi z) :
    Calls Try.prog 60 #[.agg #[.int .i64 18, .string tx, .int .i64 n, .slice a ns.length ca, .int .i64 y, .slice b ks.length cb], .int .i64 z] w fun e w' => Says w (20 + 24 * (ns.length + wtL ks)) e w' := by
  have w1z : IntKind.i64.wrap (z - 1) = z - 1 := by rw [IntKind.wrap_i64]; omega
  have hm := wtL1 hl
  have hkl := wtL_len ks
  have ht1 := wtL_take ks 0 hl
  simp only [Nat.zero_add, List.take_zero, wtL] at ht1
  have hln : 1 ≤ ks.length := by omega
  have hj0 : 0 < ks.length := by omega
  have hi0 : (0 : Int) < (ks.length : Int) := by omega
  obtain ⟨g, o, v00, v01, v02, v03, v04, v05, e0, hg0, hv0, hc0, hk0⟩ := HK 0 (by omega)
  subst e0
  simp only [Nat.mul_zero, Nat.add_zero] at hc0
  have hbs := base_kid (by omega) hv0 hk0
  have q0 := fun O => (hc0 (w.alloc O) (bel_alloc w O)).1
  have q1 := fun O => (hc0 (w.alloc O) (bel_alloc w O)).2.1
  have q2 := fun O => (hc0 (w.alloc O) (bel_alloc w O)).2.2.1
  have q3 := fun O => (hc0 (w.alloc O) (bel_alloc w O)).2.2.2.1
  have q4 := fun O => (hc0 (w.alloc O) (bel_alloc w O)).2.2.2.2.1
  have q5 := fun O => (hc0 (w.alloc O) (bel_alloc w O)).2.2.2.2.2
  clear hk0 hc0
  go_enter Try.func60, Try.ntmps60
  go_wp2_with fail
  refine (hbs _ (bel_alloc w _)).mono ?_
  rintro e w1 hS
  obtain ⟨a1, k1, c1, rfl, R1, N1, b1⟩ := says_row (w := w) (bel_alloc w _) hS
  clear hS
  go_wp2_with (at_builtin; go_must (refine wpList_rw rfl _ _ rfl rfl (R1.alloc _) _ _ _ rfl (nw_lit1 w1 ⟨#[40]⟩ (by decide) (Nat.le_refl _)) (by omega) ?_))
  intro b2 c2 w2 R2 g2
  clear q0 q1 q2 q3 q4 q5 hbs R1 N1 b1 g2
  have R2' := R2.more (n' := 24 * wtL (ks.take 1) - 1) (by omega)
  clear R2
  go_wp2_with fail
  go_loopw [8, 9] (fun v x wr => ∃ (i k : Nat) (b : Option Addr) (c : Nat), v = .slice b k c ∧ x = .int .i64 i ∧ 1 ≤ i ∧ i ≤ ks.length ∧ Rw w wr (.slice b k c) k (24 * wtL (ks.take i) - 1)) (fun _ x _ => ks.length - (intOf x).toNat)
  case atStart => exact ⟨1, _, _, _, rfl, rfl, Nat.le_refl _, hl, R2'⟩
  case round =>
    obtain ⟨i, k, b9, c9, rfl, rfl, h1, hi, R⟩ := hrel
    clear R2'
    have hT := wtL_take0 (ks := ks) i
    by_cases hlt : i < ks.length
    · obtain ⟨g', o', v0, v1, v2, v3, v4, v5, e, hg, _, hc, hk⟩ := HK i hlt
      simp only [Option.some.injEq, Addr.mk.injEq, and_true] at e
      obtain ⟨rfl, rfl⟩ := e
      have hs := wtL_take ks i hlt
      have hT2 := wtL_take0 (ks := ks) (i + 1)
      have mi : i * 6 = 6 * i := Nat.mul_comm _ _
      generalize wt ks[i] = u at *
      by_cases h2 : 1 < i
      · have h2' : ((1 : Int) < (i : Int)) := by omega
        go_wp2_with (at_builtin; go_must (refine wpList_rw rfl _ _ rfl rfl (R.alloc _) _ _ _ rfl (nw_lit1 wr ⟨#[44]⟩ (by decide) (Nat.le_refl _)) (by omega) ?_))
        intro b3 c3 w3 R3 g3
        obtain ⟨x0, x1, x2, x3, x4, x5⟩ := hc w3 R3.bel
        clear hc
        go_wp2_with fail
        refine (hk _ R3.bel).mono ?_
        rintro e w4 hS
        obtain ⟨a4, k4, c4, rfl, R4, N4, b4⟩ := says_row (w := w) R3.bel hS
        clear hS
        go_wp2_with (at_builtin; go_must (refine wpList_rw rfl _ _ rfl rfl (R3.below b4) _ _ _ rfl N4 (by omega) ?_))
        intro b5 c5 w5 R5 g5
        go_wp2_with fail
        go_roundw
        case rel => exact ⟨i + 1, _, _, _, rfl, by go_num, by omega, by omega, R5.more (by omega)⟩
        case measure => simp [intOf]; omega
      · have h2' : ¬ ((1 : Int) < (i : Int)) := by omega
        obtain ⟨x0, x1, x2, x3, x4, x5⟩ := hc wr R.bel
        clear hc
        go_wp2_with fail
        refine (hk _ R.bel).mono ?_
        rintro e w4 hS
        obtain ⟨a4, k4, c4, rfl, R4, N4, b4⟩ := says_row (w := w) R.bel hS
        clear hS
        go_wp2_with (at_builtin; go_must (refine wpList_rw rfl _ _ rfl rfl (R.below b4) _ _ _ rfl N4 (by omega) ?_))
        intro b5 c5 w5 R5 g5
        go_wp2_with fail
        go_roundw
        case rel => exact ⟨i + 1, _, _, _, rfl, by go_num, by omega, by omega, R5.more (by omega)⟩
        case measure => simp [intOf]; omega
    · obtain rfl : i = ks.length := by omega
      go_wp2_with (at_builtin; go_must (refine wpList_rw rfl _ _ rfl rfl (R.alloc _) _ _ _ rfl (nw_lit1 wr ⟨#[41]⟩ (by decide) (Nat.le_refl _)) (by omega) ?_))
      intro b3 c3 w3 R3 g3
      go_wp2_with fail
      go_ret
      exact (R3.more (n' := 20 + 24 * (ns.length + wtL ks)) (by omega)).says (Below.refl _ _)
end Go.Proofs.Ytlmmomffanakiaa
