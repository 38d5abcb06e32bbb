/- The words of an expression, of a statement, whatever its kind; of every tree. -/
import Derived.Test.YtlmmomffanakiaaWdH
import Derived.Test.YtlmmomffanakiaaJmH
import Derived.Test.YtlmmomffanakiaaWdL
import Derived.Test.YtlmmomffanakiaaWdM
import Derived.Test.YtlmmomffanakiaaWdN
namespace Go.Proofs.Ytlmmomffanakiaa
open Go.RowKit

theorem KidOk.later {w W : World} {ks : List Nd} {b : Option Addr} {hi : Nat} {z : Int} (h : KidOk w ks b hi z) (hb : Below w.heap.size w W) : KidOk W ks b hi z := by
  intro i hi'
  obtain ⟨g, o, v0, v1, v2, v3, v4, v5, e, hg, hv, hc, hk⟩ := h i hi'
  exact ⟨g, o, v0, v1, v2, v3, v4, v5, e, hg, hv, fun W2 h2 => hc W2 (hb.trans (h2.mono hb.size)), fun W2 h2 => hk W2 (hb.trans (h2.mono hb.size))⟩
/-- Names in brackets. -/
def NamesOk (w : World) (n : Nat) (a : Option Addr) (ca : Nat) : Prop := ∀ W, Below w.heap.size w W → Calls Try.prog 59 #[.slice a n ca] W fun e w' => Says W (2 * n + 2) e w'
theorem NamesOk.later {w W : World} {n : Nat} {a : Option Addr} {ca : Nat} (h : NamesOk w n a ca) (hb : Below w.heap.size w W) : NamesOk W n a ca := fun W2 h2 => h W2 (hb.trans (h2.mono hb.size))
theorem exp_all (k : Int) (tx : ByteArray) (n y z : Int) (ns : List ByteArray) (ks : List Nd) (a b : Option Addr) (ca cb hi : Nat) (w : World) (hz : 1 ≤ z ∧ z ≤ 1000) (htx : tx.size ≤ 4000) (hn : -9223372036854775808 ≤ n ∧ n ≤ 9223372036854775807) (hnl : ns.length ≤ 8000) (hw : wtL ks ≤ 8000) (hl : lst k ≤ ks.length) (HK : KidOk w ks b hi z) (HN : NamesOk w ns.length a ca) :
    Calls Try.prog 60 #[.agg #[.int .i64 k, .string tx, .int .i64 n, .slice a ns.length ca, .int .i64 y, .slice b ks.length cb], .int .i64 z] w fun e w' => Says w (20 + 24 * (ns.length + wtL ks)) e w' := by
  by_cases h9 : k = 9
  · subst h9; exact exp_nil tx n y z ns ks a b ca cb w
  by_cases h10 : k = 10
  · subst h10; exact exp_true tx n y z ns ks a b ca cb w
  by_cases h11 : k = 11
  · subst h11; exact exp_false tx n y z ns ks a b ca cb w
  by_cases h12 : k = 12
  · subst h12; exact exp_int tx n y z ns ks a b ca cb w hn
  by_cases h13 : k = 13
  · subst h13; exact exp_text tx n y z ns ks a b ca cb w htx
  by_cases h14 : k = 14
  · subst h14; exact exp_name tx n y z ns ks a b ca cb w htx
  by_cases h15 : k = 15
  · subst h15; exact exp_table tx n y z ns ks a b ca cb w
  by_cases h16 : k = 16
  · subst h16; exact exp_func tx n y z ns ks a b ca cb hi w hz hnl hw hl HK HN
  by_cases h17 : k = 17
  · subst h17; exact exp_index tx n y z ns ks a b ca cb hi w hz hw hl HK
  by_cases h18 : k = 18
  · subst h18; exact exp_call tx n y z ns ks a b ca cb hi w hz hw hl HK
  by_cases h19 : k = 19
  · subst h19; exact exp_bin tx n y z ns ks a b ca cb hi w hz htx hw hl HK
  by_cases h20 : k = 20
  · subst h20; exact exp_un tx n y z ns ks a b ca cb hi w hz htx hw hl HK
  exact exp_none tx n y z ns ks a b ca cb w k (fun j h1 h2 e => by omega)
theorem words_all (k : Int) (tx : ByteArray) (n y z : Int) (ns : List ByteArray) (ks : List Nd) (a b : Option Addr) (ca cb hi : Nat) (w : World) (hz : 2 ≤ z ∧ z ≤ 1000) (htx : tx.size ≤ 4000) (hn : -9223372036854775808 ≤ n ∧ n ≤ 9223372036854775807) (hnl : ns.length ≤ 8000) (hw : wtL ks ≤ 8000) (HK : KidOk w ks b hi z) (HN : NamesOk w ns.length a ca) (HR : RecOk w ks b z) :
    Calls Try.prog 47 #[.agg #[.int .i64 k, .string tx, .int .i64 n, .slice a ns.length ca, .int .i64 y, .slice b ks.length cb], .int .i64 z] w fun e w' => Says w (20 + 24 * (ns.length + wtL ks)) e w' := by
  by_cases hl : ks.length < lst k
  · exact w_few k tx n y z ns ks a b ca cb w hl
  have hl' : lst k ≤ ks.length := by omega
  clear hl
  by_cases h0 : k = 0
  · subst h0; exact w_block tx n y z ns ks a b ca cb hi w hz hw HK
  by_cases h1 : k = 1
  · subst h1
    by_cases h : ks.length < 1
    · exact w_local0 tx n y z ns ks a b ca cb w hz htx h
    · exact w_local1 tx n y z ns ks a b ca cb hi w hz htx hw (by omega) HK
  by_cases h2 : k = 2
  · subst h2; exact w_rec tx n y z ns ks a b ca cb w hz htx hw hl' HR
  by_cases h3 : k = 3
  · subst h3
    by_cases h : ks.length < 3
    · exact w_if2 tx n y z ns ks a b ca cb hi w hz hw hl' h HK
    · exact w_if3 tx n y z ns ks a b ca cb hi w hz hw (by omega) HK
  by_cases h4 : k = 4
  · subst h4; exact w_while tx n y z ns ks a b ca cb hi w hz hw hl' HK
  by_cases h5 : k = 5
  · subst h5
    by_cases h : ks.length < 1
    · exact w_return0 tx n y z ns ks a b ca cb w hz h
    · exact w_return1 tx n y z ns ks a b ca cb hi w hz hw (by omega) HK
  by_cases h6 : k = 6
  · subst h6; exact w_break tx n y z ns ks a b ca cb w hz
  by_cases h7 : k = 7
  · subst h7; exact w_set tx n y z ns ks a b ca cb hi w hz hw hl' HK
  by_cases h8 : k = 8
  · subst h8; exact w_do tx n y z ns ks a b ca cb hi w hz hl' HK
  exact w_exp k tx n y z ns ks a b ca cb w hz (fun j h1 h2 e => by omega) hl' (fun W hb => exp_all k tx n y z ns ks a b ca cb hi W (by omega) htx hn hnl hw hl' (HK.later hb) (HN.later hb))
theorem names_ok {w : World} {lo hi : Nat} {ns : List ByteArray} {a : Option Addr} (ca : Nat) (hS : SAt w lo hi ns a) (hh : hi ≤ w.heap.size) (hl : ns.length ≤ 8000) (hz : ∀ s ∈ ns, s.size ≤ 4000) : NamesOk w ns.length a ca := fun W hb =>
  nameWords_any ns a ca lo hi W (hS.below hb hh) (Nat.le_trans hh hb.size) (by omega) hz
theorem kid_ok {m : Nat} (H : WdOk m) {k n y z : Int} {tx : ByteArray} {ns : List ByteArray} {ks : List Nd} {b : Option Addr} {lo hi : Nat} {w : World} (hz : z = (m : Int) + 31) (hF : Flat (m + 1) (.mk k tx n ns y ks)) (hS : Sm (.mk k tx n ns y ks)) (hK : KAt w lo hi ks b 0) (hh : hi ≤ w.heap.size) (hw : wtL ks ≤ 8000) : KidOk w ks b hi z := by
  intro i hi'
  obtain ⟨g, o, v, e, _, hg, hc, hN⟩ := hK.get i hi'
  rw [Nat.zero_add] at hc
  have hm := wt_mem (List.getElem_mem hi')
  simp only [Flat] at hF
  simp only [Sm] at hS
  obtain ⟨k1, t1, n1, ms, a1, c1, y1, b1, d1, kk, rfl⟩ := nd_cells hN
  refine ⟨g, o, _, _, _, _, _, _, e, hg, ⟨k1, t1, n1, a1, ms, c1, y1, b1, kk, d1, rfl, rfl, rfl, rfl, rfl, rfl⟩, fun W hb => ?_, fun W hb => ?_⟩
  · have key := fun j (hj : j < 6) => (hb.cell (p := ⟨g, o + 6 * i + j, none⟩) (by show g < _; omega)).trans (hc j hj)
    exact ⟨key 0 (by decide), key 1 (by decide), key 2 (by decide), key 3 (by decide), key 4 (by decide), key 5 (by decide)⟩
  · exact H ks[i] lo hi _ (z - 1) W (by omega) (hF _ (List.getElem_mem hi')) ((SmL_iff ks).1 hS.2.2 _ (List.getElem_mem hi')) (hN.below hb hh) (by have := hb.size; omega) (by omega)
theorem flat_kids {m : Nat} {t : Nd} {k n y : Int} {tx : ByteArray} {ns : List ByteArray} {ks : List Nd} (ht : t = .mk k tx n ns y ks) (hF : Flat m t) (h : 0 < ks.length) : ∃ m', m = m' + 1 := by
  subst ht
  cases m with
  | zero => simp only [Flat] at hF; subst hF; simp at h
  | succ m => exact ⟨m, rfl⟩
theorem rec_ok {m : Nat} (H : ∀ m', m' < m → WdOk m') {k n y z : Int} {tx : ByteArray} {ns : List ByteArray} {ks : List Nd} {b : Option Addr} {lo hi : Nat} {w : World} (hz : z = (m : Int) + 30) (hF : Flat m (.mk k tx n ns y ks)) (hS : Sm (.mk k tx n ns y ks)) (hK : KAt w lo hi ks b 0) (hh : hi ≤ w.heap.size) (hw : wtL ks ≤ 8000) : RecOk w ks b z := by
  intro h0
  obtain ⟨m, rfl⟩ := flat_kids rfl hF h0
  obtain ⟨g, o, v, e, _, hg, hc, hN⟩ := hK.get 0 h0
  have hm := wt_mem (List.getElem_mem h0)
  simp only [Flat] at hF
  simp only [Sm] at hS
  have hFk := hF _ (List.getElem_mem h0)
  have hSk := (SmL_iff ks).1 hS.2.2 _ (List.getElem_mem h0)
  generalize ks[0] = t at *
  obtain ⟨k1, t1, n1, ns1, y1, ks1⟩ := t
  simp only [NAt] at hN
  obtain ⟨_, a1, c1, b1, d1, rfl, _, _, hS1, hK1⟩ := hN
  simp only [Sm] at hSk
  simp only [wt] at hm
  simp only [Nat.mul_zero, Nat.add_zero] at hc
  refine ⟨g, o, a1, ns1.length, c1, b1, ks1.length, d1, e, by omega, fun W hb => ?_, names_ok c1 hS1 hh (by omega) hSk.2.1, fun h1 => ?_⟩
  · have key := fun j (hj : j < 6) => (hb.cell (p := ⟨g, o + j, none⟩) (by show g < _; omega)).trans (hc j hj)
    exact ⟨key 3 (by decide), key 5 (by decide)⟩
  · obtain ⟨m, rfl⟩ := flat_kids rfl hFk h1
    obtain ⟨g2, o2, v2, e2, _, hg2, hc2, hN2⟩ := hK1.get 0 h1
    have hm2 := wt_mem (List.getElem_mem h1)
    simp only [Flat] at hFk
    obtain ⟨k2, t2, n2, ms2, a2, c2, y2, b2, d2, kk2, rfl⟩ := nd_cells hN2
    simp only [Nat.mul_zero, Nat.add_zero] at hc2
    refine ⟨g2, o2, .int .i64 k2, .string t2, .int .i64 n2, .slice a2 ms2 c2, .int .i64 y2, .slice b2 kk2 d2, wt ks1[0], e2, by omega, fun W hb => ?_, fun W hb => ?_⟩
    · have key := fun j (hj : j < 6) => (hb.cell (p := ⟨g2, o2 + j, none⟩) (by show g2 < _; omega)).trans (hc2 j hj)
      exact ⟨key 0 (by decide), key 1 (by decide), key 2 (by decide), key 3 (by decide), key 4 (by decide), key 5 (by decide)⟩
    · exact H m (by omega) ks1[0] lo hi _ (z - 2) W (by omega) (hFk _ (List.getElem_mem h1)) ((SmL_iff ks1).1 hSk.2.2 _ (List.getElem_mem h1)) (hN2.below hb hh) (by have := hb.size; omega) (by omega)
theorem wd_ok (m : Nat) (hm : m ≤ 100) : WdOk m := by
  induction m using Nat.strongRecOn with
  | ind m ih =>
    intro t lo hi v z w hz hF hS hN hh hw
    obtain ⟨k, tx, n, ns, y, ks⟩ := t
    have hN' := hN
    simp only [NAt] at hN'
    obtain ⟨_, a, ca, b, cb, rfl, _, _, hSa, hKa⟩ := hN'
    have hS' := hS
    simp only [Sm] at hS'
    simp only [wt] at hw ⊢
    have HR : RecOk w ks b z := rec_ok (fun m' h => ih m' h (by omega)) hz hF hS hKa hh (by omega)
    have HK : KidOk w ks b hi z := by
      intro i hi'
      obtain ⟨m, rfl⟩ := flat_kids rfl hF (by omega)
      exact kid_ok (ih m (by omega) (by omega)) (by omega) hF hS hKa hh (by omega) i hi'
    exact words_all k tx n y z ns ks a b ca cb hi w (by omega) hS'.1.1 hS'.1.2 (by omega) (by omega) HK (names_ok ca hSa hh (by omega) hS'.2.1) HR
end Go.Proofs.Ytlmmomffanakiaa
