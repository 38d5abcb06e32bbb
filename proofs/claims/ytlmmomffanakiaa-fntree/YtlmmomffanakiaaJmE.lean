/- How deep a tree is. -/
import Derived.Test.YtlmmomffanakiaaTreeZ
import Derived.Test.YtlmmomffanakiaaParA
import Derived.Test.YtlmmomffanakiaaJmD
namespace Go.Proofs.Ytlmmomffanakiaa
open Go.RowKit

def mx : List Nat → Nat
  | [] => 0
  | x :: l => max x (mx l)
theorem mx_snoc (l : List Nat) (x : Nat) : mx (l ++ [x]) = max (mx l) x := by
  induction l with
  | nil => simp [mx]
  | cons y l ih => simp only [List.cons_append, mx, ih]; omega
theorem mx_ge {l : List Nat} {x : Nat} (h : x ∈ l) : x ≤ mx l := by
  induction l with
  | nil => simp at h
  | cons y l ih =>
    simp only [mx]
    rcases List.mem_cons.1 h with rfl | h
    · omega
    · have := ih h; omega
/-- How deep a tree is, up to a bound. -/
def dpt : Nat → Nd → Nat
  | 0, _ => 0
  | b + 1, .mk _ _ _ _ _ ks => mx (ks.map fun k => 1 + dpt b k)
theorem dpt_le (b : Nat) (t : Nd) : dpt b t ≤ b := by
  induction b generalizing t with
  | zero => simp [dpt]
  | succ b ih =>
    obtain ⟨k, tx, n, ns, y, ks⟩ := t
    simp only [dpt]
    induction ks with
    | nil => simp [mx]
    | cons x ks ih2 => have := ih x; simp only [List.map_cons, mx]; omega
/-- No node stands deeper than a number. -/
def Flat : Nat → Nd → Prop
  | 0, .mk _ _ _ _ _ ks => ks = []
  | b + 1, .mk _ _ _ _ _ ks => ∀ x ∈ ks, Flat b x
theorem flat_of (b : Nat) (t : Nd) (m : Nat) (h : dpt b t ≤ m) (hm : m < b) : Flat m t := by
  induction b generalizing t m with
  | zero => omega
  | succ b ih =>
    obtain ⟨k, tx, n, ns, y, ks⟩ := t
    simp only [dpt] at h
    have hk : ∀ x ∈ ks, 1 + dpt b x ≤ m := fun x hx => Nat.le_trans (mx_ge (List.mem_map.2 ⟨x, hx, rfl⟩)) h
    cases m with
    | zero =>
      simp only [Flat]
      cases ks with
      | nil => rfl
      | cons x ks => have := hk x (by simp); omega
    | succ m =>
      simp only [Flat]
      exact fun x hx => ih x m (by have := hk x hx; omega) (by omega)
theorem Flat.up {m : Nat} {t : Nd} (h : Flat m t) : Flat (m + 1) t := by
  induction m generalizing t with
  | zero =>
    obtain ⟨k, tx, n, ns, y, ks⟩ := t
    simp only [Flat] at h ⊢
    subst h
    exact fun x hx => absurd hx (by simp)
  | succ m ih =>
    obtain ⟨k, tx, n, ns, y, ks⟩ := t
    simp only [Flat] at h ⊢
    exact fun x hx => ih (h x hx)
def DpOk (b : Nat) : Prop := ∀ (t : Nd) (lo hi : Nat) (v : List Value) (z : Int) (w : World), z = b → NAt w lo hi t v → hi ≤ w.heap.size → wt t ≤ 1048576 →
    Calls Try.prog 46 #[.agg v.toArray, .int .i64 z] w fun e w' => e = .returned (.int .i64 (dpt b t : Nat)) ∧ Below w.heap.size w w'

set_option maxRecDepth 100000 in
set_option maxHeartbeats 800000 in
theorem dp_zero : DpOk 0 := by
  rintro t lo hi v z w rfl hN hh h1
  obtain ⟨k, tx, n, ms, a', ca', y, b', cb', kk, rfl⟩ := nd_cells hN
  go_enter Try.func46, Try.ntmps46
  go_wp2_with fail
  go_loopw [5, 6, 7] (fun s x _ wr => s = .int .i64 0 ∧ x = .int .i64 0 ∧ Below (w.alloc (Obj.cells #[Value.int IntKind.i64 k, Value.string tx, Value.int IntKind.i64 n, Value.slice a' ms ca', Value.int IntKind.i64 y, Value.slice b' kk cb'] 27)).heap.size (w.alloc (Obj.cells #[Value.int IntKind.i64 k, Value.string tx, Value.int IntKind.i64 n, Value.slice a' ms ca', Value.int IntKind.i64 y, Value.slice b' kk cb'] 27)) wr) (fun _ _ _ _ => 0)
  case atStart => exact ⟨rfl, rfl, Below.refl _ _⟩
  case round =>
    obtain ⟨rfl, rfl, hbl⟩ := hrel
    have c5 := st_cell hbl 5
    simp only [List.getElem?_toArray, List.getElem?_cons_zero, List.getElem?_cons_succ] at c5
    have hbw : Below w.heap.size w wr := (bel_alloc w _).trans (hbl.mono (by simp))
    clear hbl
    by_cases hk : 0 < kk
    · go_wp2_with fail
      go_ret
      exact ⟨by simp [dpt], hbw⟩
    · go_wp2_with fail
      go_ret
      exact ⟨by simp [dpt], hbw⟩

set_option maxRecDepth 100000 in
set_option maxHeartbeats 1600000 in
theorem dp_succ (b : Nat) (hb : b < 60) (ih : DpOk b) : DpOk (b + 1) := by
  rintro t lo hi v z w hzb hN hh h1
  have hz0 : 0 < z := by omega
  have hz1 : z ≤ 60 := by omega
  have HZ : Hid (z - 1 = b) := by show z - 1 = (b : Int); omega
  clear hzb
  have hle := dpt_le (b + 1) t
  obtain ⟨k, tx, n, ns, y, ks⟩ := t
  simp only [NAt] at hN
  obtain ⟨hz, a', ca', b', cb', rfl, hn, hk, hS, hK⟩ := hN
  have hwt : wt (.mk k tx n ns y ks) = ns.length + wtL ks := by simp [wt]
  have hln := len_wtL ks
  have hkl : ks.length ≤ 1048576 := by omega
  have hsz : dpt (b + 1) (.mk k tx n ns y ks) = mx (ks.map fun k => 1 + dpt b k) := by simp [dpt]
  rw [hsz] at hle ⊢
  go_enter Try.func46, Try.ntmps46
  go_wp2_with fail
  go_loopw [5, 6, 7] (fun s x _ wr => ∃ i : Nat, s = .int .i64 ((mx ((ks.take i).map fun k => 1 + dpt b k) : Nat) : Int) ∧ x = .int .i64 i ∧ i ≤ ks.length ∧ mx ((ks.take i).map fun k => 1 + dpt b k) ≤ 61 ∧ Below (w.alloc (Obj.cells #[Value.int IntKind.i64 k, Value.string tx, Value.int IntKind.i64 n, Value.slice a' ns.length ca', Value.int IntKind.i64 y, Value.slice b' ks.length cb'] 27)).heap.size (w.alloc (Obj.cells #[Value.int IntKind.i64 k, Value.string tx, Value.int IntKind.i64 n, Value.slice a' ns.length ca', Value.int IntKind.i64 y, Value.slice b' ks.length cb'] 27)) wr) (fun _ x _ _ => ks.length - (intOf x).toNat)
  case atStart => exact ⟨0, rfl, rfl, Nat.zero_le _, by simp [mx], Below.refl _ _⟩
  case round =>
    obtain ⟨i, rfl, rfl, hil, hsm, hbl⟩ := hrel
    have c5 := st_cell hbl 5
    simp only [List.getElem?_toArray, List.getElem?_cons_zero, List.getElem?_cons_succ] at c5
    have hbw : Below w.heap.size w wr := (bel_alloc w _).trans (hbl.mono (by simp))
    have hswr := hbl.size
    by_cases hlt : i < ks.length
    · obtain ⟨g, o, v, rfl, _, hg, hc, hNk⟩ := hK.get i hlt
      rw [Nat.zero_add] at hc
      have hm := wt_mem (List.getElem_mem hlt)
      have hst := dpt_le b ks[i]
      have htk : mx ((ks.take (i + 1)).map fun k => 1 + dpt b k) = max (mx ((ks.take i).map fun k => 1 + dpt b k)) (1 + dpt b ks[i]) := by
        rw [List.take_succ_eq_append_getElem hlt, List.map_append, List.map_singleton, mx_snoc]
      have hok := ih ks[i] lo hi v (z - 1) wr HZ.out (hNk.below hbw hh) (by have := hbw.size; omega) (by omega)
      generalize dpt b ks[i] = q at *
      obtain ⟨k1, t1, n1, ms1, a1, ca1, y1, b1, cb1, kk1, rfl⟩ := nd_cells hNk
      have kg : g < w.heap.size := by omega
      have x0 := (hbw.cell (p := ⟨g, o + 6 * i + 0, none⟩) kg).trans (hc 0 (by decide))
      have x1 := (hbw.cell (p := ⟨g, o + 6 * i + 1, none⟩) kg).trans (hc 1 (by decide))
      have x2 := (hbw.cell (p := ⟨g, o + 6 * i + 2, none⟩) kg).trans (hc 2 (by decide))
      have x3 := (hbw.cell (p := ⟨g, o + 6 * i + 3, none⟩) kg).trans (hc 3 (by decide))
      have x4 := (hbw.cell (p := ⟨g, o + 6 * i + 4, none⟩) kg).trans (hc 4 (by decide))
      have x5 := (hbw.cell (p := ⟨g, o + 6 * i + 5, none⟩) kg).trans (hc 5 (by decide))
      simp only [List.getElem?_cons_zero, List.getElem?_cons_succ, Nat.add_zero] at x0 x1 x2 x3 x4 x5
      have m6 : i * 6 = 6 * i := Nat.mul_comm _ _
      clear hc hK hS hNk
      generalize mx ((ks.take i).map fun k => 1 + dpt b k) = sm at *
      have HN : Hid (mx ((ks.take (i + 1)).map fun k => 1 + dpt b k) = max sm (1 + q)) := htk
      clear hle htk hm hln hwt hsz h1 hn hk
      have hwr1 : IntKind.i64.wrap (1 + (q : Int)) = 1 + (q : Int) := by rw [IntKind.wrap_i64]; omega
      go_wp2_with fail
      refine hok.mono ?_
      rintro e w1 ⟨rfl, hb1⟩
      clear hok x0 x1 x2 x3 x4 x5 ih
      by_cases hgt : (sm : Int) < 1 + (q : Int)
      · go_wp2_with fail
        go_roundw
        case rel => exact ⟨i + 1, by rw [HN.out, show max sm (1 + q) = 1 + q by omega]; go_num, by go_num, by omega, by rw [HN.out]; omega, hbl.trans (hb1.mono hswr)⟩
        case measure => simp [intOf]; omega
      · go_wp2_with fail
        go_roundw
        case rel => exact ⟨i + 1, by rw [HN.out, show max sm (1 + q) = sm by omega], by go_num, by omega, by rw [HN.out]; omega, hbl.trans (hb1.mono hswr)⟩
        case measure => simp [intOf]; omega
    · obtain rfl : i = ks.length := by omega
      go_wp2_with fail
      go_ret
      exact ⟨by simp, hbw⟩
theorem dp_any (b : Nat) (hb : b ≤ 60) : DpOk b := by
  induction b with
  | zero => exact dp_zero
  | succ b ih => exact dp_succ b (by omega) (ih (by omega))
end Go.Proofs.Ytlmmomffanakiaa
namespace Go.Proofs.Ytlmmomffanakiaa
open Go.RowKit

def bgS : List ByteArray := [⟨#[110, 105, 108]⟩, ⟨#[116, 114, 117, 101]⟩, ⟨#[102, 97, 108, 115, 101]⟩, ⟨#[110, 111, 116]⟩, ⟨#[102, 117, 110, 99, 116, 105, 111, 110]⟩, ⟨#[40]⟩, ⟨#[123]⟩, ⟨#[45]⟩, ⟨#[35]⟩]

set_option maxRecDepth 100000 in
set_option maxHeartbeats 1600000 in
theorem begins_any (c : Nat) (la : Option Addr) (cap : Nat) (L : List Tk) (i : Nat) (bad : Bool) (w : World) (h : PS w c la cap L i bad) :
    Calls Try.prog 67 #[.pointer (some ⟨c, 0, none⟩)] w fun e w' => (∃ b, e = .returned (.bool b)) ∧ Below w.heap.size w w' := by
  go_enter Try.func67, Try.ntmps67
  go_wp2_with fail
  refine (kind_any c la cap L i bad 0 _ h).mono ?_
  rintro e w1 ⟨⟨b1, rfl, _⟩, hb1⟩
  have h1 := h.below hb1
  cases b1
  · go_wp2_with fail
    refine (kind_any c la cap L i bad 1 _ h1).mono ?_
    rintro e w2 ⟨⟨b2, rfl, _⟩, hb2'⟩
    have hb2 := hb1.trans (hb2'.mono hb1.size)
    have h2 := h.below hb2
    cases b2
    · go_wp2_with fail
      refine (kind_any c la cap L i bad 2 _ h2).mono ?_
      rintro e w3 ⟨⟨b3, rfl, _⟩, hb3'⟩
      have hb3 := hb2.trans (hb3'.mono hb2.size)
      have h3 := h.below hb3
      cases b3
      · go_wp2_with fail
        go_loopw [4] (fun x wr => ∃ k : Nat, x = .int .i64 k ∧ k ≤ 9 ∧ Below (w3.alloc (.cells (bgS.map Value.string).toArray 9)).heap.size (w3.alloc (.cells (bgS.map Value.string).toArray 9)) wr) (fun x _ => 9 - (intOf x).toNat)
        case atStart => exact ⟨0, rfl, by omega, Below.refl _ _⟩
        case round =>
          obtain ⟨k, rfl, hk, hbw⟩ := hrel
          have hb4 : Below w.heap.size w wr := hb3.trans ((bel_alloc w3 _).trans (hbw.mono (by rw [size_alloc]; omega)) |>.mono hb3.size)
          have h4 := h.below hb4
          by_cases hlt : k < 9
          · obtain ⟨t, ht⟩ : ∃ t, bgS[k]? = some t := ⟨_, List.getElem?_eq_getElem (show k < bgS.length from hlt)⟩
            have hcell : wr.cell? ⟨w3.heap.size, k, none⟩ = some (.string t) := by
              rw [st_cell hbw k]; simp [ht]
            go_wp2_with fail
            refine (is_any c la cap L i bad t _ h4).mono ?_
            rintro e w5 ⟨⟨b5, rfl, _⟩, hb5⟩
            cases b5
            · go_wp2_with fail
              go_roundw
              case rel => exact ⟨k + 1, by go_num, by omega, hbw.trans (hb5.mono hbw.size)⟩
              case measure => simp [intOf]; omega
            · go_wp2_with fail
              go_ret
              exact ⟨⟨_, rfl⟩, hb4.trans (hb5.mono hb4.size)⟩
          · obtain rfl : k = 9 := by omega
            go_wp2_with fail
            go_ret
            exact ⟨⟨_, rfl⟩, hb4⟩
      · go_wp2_with fail
        go_ret
        exact ⟨⟨_, rfl⟩, hb3⟩
    · go_wp2_with fail
      go_ret
      exact ⟨⟨_, rfl⟩, hb2⟩
  · go_wp2_with fail
    go_ret
    exact ⟨⟨_, rfl⟩, hb1⟩

def sgS : Nat → List ByteArray
  | 0 => [⟨#[111, 114]⟩]
  | 1 => [⟨#[97, 110, 100]⟩]
  | 2 => [⟨#[61, 61]⟩, ⟨#[126, 61]⟩, ⟨#[60]⟩, ⟨#[60, 61]⟩, ⟨#[62]⟩, ⟨#[62, 61]⟩]
  | 3 => [⟨#[46, 46]⟩]
  | 4 => [⟨#[43]⟩, ⟨#[45]⟩]
  | _ => [⟨#[42]⟩, ⟨#[47, 47]⟩, ⟨#[37]⟩]
theorem sgS_len (r : Nat) : (sgS r).length ≤ 6 := by
  match r with
  | 0 | 1 | 2 | 3 | 4 => decide
  | r + 5 => show 3 ≤ 6; decide
theorem sgS_ok (r : Nat) (t : ByteArray) (h : t ∈ sgS r) : t.size ≤ 3 ∧ 0 < t.size := by
  match r with
  | 0 => exact (show ∀ t ∈ sgS 0, t.size ≤ 3 ∧ 0 < t.size by decide) t h
  | 1 => exact (show ∀ t ∈ sgS 1, t.size ≤ 3 ∧ 0 < t.size by decide) t h
  | 2 => exact (show ∀ t ∈ sgS 2, t.size ≤ 3 ∧ 0 < t.size by decide) t h
  | 3 => exact (show ∀ t ∈ sgS 3, t.size ≤ 3 ∧ 0 < t.size by decide) t h
  | 4 => exact (show ∀ t ∈ sgS 4, t.size ≤ 3 ∧ 0 < t.size by decide) t h
  | r + 5 => exact (show ∀ t ∈ sgS 5, t.size ≤ 3 ∧ 0 < t.size by decide) t h

set_option maxRecDepth 100000 in
set_option maxHeartbeats 800000 in
theorem rank_any (r : Nat) (w : World) (hr : r ≤ 5) :
    Calls Try.prog 79 #[.int .i64 r] w fun e w' => e = .returned (.slice (some ⟨w.heap.size, 0, none⟩) (sgS r).length (sgS r).length) ∧ w' = w.alloc (.cells ((sgS r).map Value.string).toArray 9) := by
  match r, hr with
  | 0, _ | 1, _ | 2, _ | 3, _ | 4, _ | 5, _ =>
    go_enter Try.func79, Try.ntmps79
    go_wp2_with fail
    go_ret
    exact ⟨rfl, rfl⟩

set_option maxRecDepth 100000 in
set_option maxHeartbeats 1600000 in
theorem opsign_any (c : Nat) (la : Option Addr) (cap : Nat) (L : List Tk) (i : Nat) (bad : Bool) (r : Nat) (hr : r ≤ 5) (w : World) (h : PS w c la cap L i bad) :
    Calls Try.prog 76 #[.pointer (some ⟨c, 0, none⟩), .int .i64 r] w fun e w' => (∃ s : ByteArray, e = .returned (.string s) ∧ s.size ≤ 3 ∧ (s.size = 0 ∨ (bad = false ∧ i < L.length))) ∧ Below w.heap.size w w' := by
  have hln := sgS_len r
  go_enter Try.func76, Try.ntmps76
  go_wp2_with fail
  refine (rank_any r _ hr).mono ?_
  rintro e w3 ⟨rfl, rfl⟩
  go_wp2_with fail
  go_loopw [6] (fun x wr => ∃ k : Nat, x = .int .i64 k ∧ k ≤ (sgS r).length ∧ Below (w.alloc (.cells ((sgS r).map Value.string).toArray 9)).heap.size (w.alloc (.cells ((sgS r).map Value.string).toArray 9)) wr) (fun x _ => (sgS r).length - (intOf x).toNat)
  case atStart => exact ⟨0, rfl, by omega, Below.refl _ _⟩
  case round =>
    obtain ⟨k, rfl, hk, hbw⟩ := hrel
    have hb4 : Below w.heap.size w wr := (bel_alloc w _).trans (hbw.mono (by rw [size_alloc]; omega))
    have h4 := h.below hb4
    by_cases hlt : k < (sgS r).length
    · obtain ⟨t, ht⟩ : ∃ t, (sgS r)[k]? = some t := ⟨_, List.getElem?_eq_getElem hlt⟩
      have hok := sgS_ok r t (List.mem_of_getElem? ht)
      have hcell : wr.cell? ⟨w.heap.size, k, none⟩ = some (.string t) := by
        rw [st_cell hbw k]; simp [ht]
      go_wp2_with fail
      refine (is_any c la cap L i bad t _ h4).mono ?_
      rintro e w5 ⟨⟨b5, rfl, hbb⟩, hb5⟩
      have hcell5 : w5.cell? ⟨w.heap.size, k, none⟩ = some (.string t) := (hb5.cell (p := ⟨w.heap.size, k, none⟩) (by have := hbw.size; rw [size_alloc] at this; show w.heap.size < _; omega)).trans hcell
      cases b5
      · go_wp2_with fail
        go_roundw
        case rel => exact ⟨k + 1, by go_num, by omega, hbw.trans (hb5.mono hbw.size)⟩
        case measure => simp [intOf]; omega
      · have hbx := hbb rfl
        go_wp2_with fail
        go_ret
        exact ⟨⟨_, rfl, hok.1, Or.inr hbx⟩, hb4.trans (hb5.mono hb4.size)⟩
    · obtain rfl : k = (sgS r).length := by omega
      go_wp2_with fail
      go_ret
      exact ⟨⟨_, rfl, by decide, Or.inl rfl⟩, hb4⟩
end Go.Proofs.Ytlmmomffanakiaa
namespace Go.Proofs.Ytlmmomffanakiaa
open Go.RowKit

mutual
/-- Every text of a tree is short. -/
def Sm : Nd → Prop
  | .mk _ t n ns _ ks => (t.size ≤ 4000 ∧ -9223372036854775808 ≤ n ∧ n ≤ 9223372036854775807) ∧ (∀ s ∈ ns, s.size ≤ 4000) ∧ SmL ks
def SmL : List Nd → Prop
  | [] => True
  | k :: ks => Sm k ∧ SmL ks
end
theorem SmL_iff (ks : List Nd) : SmL ks ↔ ∀ x ∈ ks, Sm x := by
  induction ks with
  | nil => simp [SmL]
  | cons k ks ih => simp [SmL, ih]

/-- A tree whose blocks all bear P. -/
def SP (w : World) (P : Nat → Prop) (ns : List ByteArray) (a : Option Addr) : Prop :=
  ∀ i (h : i < ns.length), ns[i].size ≤ maxLen ∧ ∃ g o, a = some ⟨g, o, none⟩ ∧ P g ∧ w.cell? ⟨g, o + i, none⟩ = some (.string ns[i])
mutual
def NP (w : World) (P : Nat → Prop) : Nd → List Value → Prop
  | .mk k t n ns l ks, v => t.size ≤ maxLen ∧ ∃ a ca b cb, v = [.int .i64 k, .string t, .int .i64 n, .slice a ns.length ca, .int .i64 l, .slice b ks.length cb] ∧ ns.length ≤ maxLen ∧ ks.length ≤ maxLen ∧ SP w P ns a ∧ KP w P ks b 0
def KP (w : World) (P : Nat → Prop) : List Nd → Option Addr → Nat → Prop
  | [], _, _ => True
  | k :: ks, b, i => (∃ g o v, b = some ⟨g, o, none⟩ ∧ P g ∧ (∀ j, j < 6 → w.cell? ⟨g, o + 6 * i + j, none⟩ = v[j]?) ∧ NP w P k v) ∧ KP w P ks b (i + 1)
end
theorem KP.get {w : World} {P : Nat → Prop} {ks : List Nd} {b : Option Addr} {i : Nat} (h : KP w P ks b i) (m : Nat) (hm : m < ks.length) :
    ∃ g o v, b = some ⟨g, o, none⟩ ∧ P g ∧ (∀ j, j < 6 → w.cell? ⟨g, o + 6 * (i + m) + j, none⟩ = v[j]?) ∧ NP w P ks[m] v := by
  induction ks generalizing i m with
  | nil => simp at hm
  | cons k ks ih =>
    simp only [KP] at h
    cases m with
    | zero => exact h.1
    | succ m =>
      have := ih h.2 m (by simpa using hm)
      rw [show i + 1 + m = i + (m + 1) by omega] at this
      exact this
theorem KP.mk {w : World} {P : Nat → Prop} {ks : List Nd} {b : Option Addr} {i : Nat}
    (h : ∀ m (hm : m < ks.length), ∃ g o v, b = some ⟨g, o, none⟩ ∧ P g ∧ (∀ j, j < 6 → w.cell? ⟨g, o + 6 * (i + m) + j, none⟩ = v[j]?) ∧ NP w P ks[m] v) : KP w P ks b i := by
  induction ks generalizing i with
  | nil => simp [KP]
  | cons k ks ih =>
    refine ⟨h 0 (by simp), ih fun m hm => ?_⟩
    have := h (m + 1) (by simpa using hm)
    rw [show i + (m + 1) = i + 1 + m by omega] at this
    exact this
theorem SP.later {w w' : World} {P P' : Nat → Prop} {ns : List ByteArray} {a : Option Addr} (hp : ∀ g, P g → P' g) (hc : ∀ p : Addr, P p.block → w'.cell? p = w.cell? p) (h : SP w P ns a) : SP w' P' ns a := by
  intro i hi
  obtain ⟨h0, g, o, h1, h2, h4⟩ := h i hi
  exact ⟨h0, g, o, h1, hp g h2, (hc ⟨g, o + i, none⟩ h2).trans h4⟩
theorem NP.later {w w' : World} {P P' : Nat → Prop} (hp : ∀ g, P g → P' g) (hc : ∀ p : Addr, P p.block → w'.cell? p = w.cell? p) {t : Nd} {v : List Value} (h : NP w P t v) : NP w' P' t v := by
  induction t using nd_ind generalizing v with
  | h k t n ns l ks ih =>
    simp only [NP] at h ⊢
    obtain ⟨h0, a, ca, b, cb, h1, h2, h3, h4, h5⟩ := h
    refine ⟨h0, a, ca, b, cb, h1, h2, h3, h4.later hp hc, KP.mk fun m hm => ?_⟩
    obtain ⟨g, o, v, q1, q2, q3, q4⟩ := h5.get m hm
    exact ⟨g, o, v, q1, hp g q2, fun j hj => (hc ⟨g, _, none⟩ q2).trans (q3 j hj), ih _ (List.getElem_mem hm) q4⟩
theorem NP.nat {w : World} {P : Nat → Prop} {lo hi : Nat} (hp : ∀ g, P g → lo ≤ g ∧ g < hi) {t : Nd} {v : List Value} (h : NP w P t v) : NAt w lo hi t v := by
  induction t using nd_ind generalizing v with
  | h k t n ns l ks ih =>
    simp only [NP] at h
    simp only [NAt]
    obtain ⟨h0, a, ca, b, cb, h1, h2, h3, h4, h5⟩ := h
    refine ⟨h0, a, ca, b, cb, h1, h2, h3, fun i hi => ?_, KAt.mk fun m hm => ?_⟩
    · obtain ⟨q0, g, o, q1, q2, q3⟩ := h4 i hi
      exact ⟨q0, g, o, q1, (hp g q2).1, (hp g q2).2, q3⟩
    · obtain ⟨g, o, v, q1, q2, q3, q4⟩ := h5.get m hm
      exact ⟨g, o, v, q1, (hp g q2).1, (hp g q2).2, q3, ih _ (List.getElem_mem hm) q4⟩
theorem np_cells {w : World} {P : Nat → Prop} {x : Nd} {u : List Value} (hu : NP w P x u) : ∃ k t n ms a' ca' y b' cb' kk, u = [.int .i64 k, .string t, .int .i64 n, .slice a' ms ca', .int .i64 y, .slice b' kk cb'] := by
  obtain ⟨k, t, n, ms, y, kk⟩ := x
  simp only [NP] at hu
  obtain ⟨_, a', ca', b', cb', rfl, _⟩ := hu
  exact ⟨_, _, _, _, _, _, _, _, _, _, rfl⟩
theorem np_len {w : World} {P : Nat → Prop} {t : Nd} {v : List Value} (h : NP w P t v) : v.length = 6 := by
  obtain ⟨k, t, n, ms, a', ca', y, b', cb', kk, rfl⟩ := np_cells h
  rfl

/-- The blocks from lo on, below hi. -/
def Bt (lo hi : Nat) (g : Nat) : Prop := lo ≤ g ∧ g < hi
/-- What a call of the reader leaves: a tree in new blocks, the reader's state, no other block changed. -/
structure Left (w w' : World) (lo c : Nat) (la : Option Addr) (cap : Nat) (L : List Tk) (i : Nat) (bad : Bool) (k d0 : Nat) (t : Nd) (v : List Value) (i' : Nat) (bad' : Bool) : Prop where
  tree : NP w' (Bt lo w'.heap.size) t v
  sm : Sm t
  ps : PS w' c la cap L i' bad'
  le : i ≤ i'
  stay : bad = true → bad' = true ∧ i' = i
  cnt : bad' = false → wt t + k ≤ 2 * (i' - i) + d0
  by' : w.grownBy w' (some c)
def Reads (F : Nat) (xs : Array Value) (w : World) (lo c : Nat) (la : Option Addr) (cap : Nat) (L : List Tk) (i : Nat) (bad : Bool) (k d0 : Nat) : Prop :=
  Calls Try.prog F xs w fun e w' => ∃ t v i' bad', e = .returned (.agg v.toArray) ∧ Left w w' lo c la cap L i bad k d0 t v i' bad'

/-- Kids in a row of the call's own; no kid lies in the row's block, all of them bear Q. -/
structure KRow (w : World) (Q : Nat → Prop) (B lo : Nat) (v : Value) (ks : List Nd) (vs : List (List Value)) : Prop where
  len : vs.length = ks.length
  each : ∀ i (h : i < ks.length) (h' : i < vs.length), vs[i].length = 6 ∧ NP w (fun g => (Bt lo w.heap.size g ∧ Q g) ∧ v.ownBlock ≠ some g) ks[i] vs[i]
  own : w.ownsRow B 27 6 v ks.length vs.flatten
theorem flat_get (vs : List (List Value)) (h6 : ∀ v ∈ vs, v.length = 6) (i j : Nat) (hi : i < vs.length) (hj : j < 6) : vs.flatten[6 * i + j]? = vs[i][j]? := by
  induction vs generalizing i with
  | nil => simp at hi
  | cons v vs ih =>
    have hv : v.length = 6 := h6 v (by simp)
    rw [List.flatten_cons]
    cases i with
    | zero => rw [List.getElem?_append_left (by omega)]; simp
    | succ i =>
      rw [List.getElem?_append_right (by omega), show 6 * (i + 1) + j - v.length = 6 * i + j by omega, ih (fun v hv => h6 v (by simp [hv])) i (by simpa using hi)]
      simp
theorem KRow.kp {w : World} {Q : Nat → Prop} {B lo : Nat} {v : Value} {ks : List Nd} {vs : List (List Value)} (h : KRow w Q B lo v ks vs) (hB : lo ≤ B) (hQ : ∀ b, v.ownBlock = some b → Q b) : ∃ a ca, v = .slice a ks.length ca ∧ ks.length ≤ maxLen ∧ KP w (fun g => Bt lo w.heap.size g ∧ Q g) ks a 0 := by
  have h6 : ∀ v ∈ vs, v.length = 6 := fun v hv => by
    obtain ⟨i, hi, rfl⟩ := List.getElem_of_mem hv
    exact (h.each i (by rw [← h.len]; exact hi) hi).1
  have hcells := fun g hg => h.own.cells (g := g) hg
  rcases h.own.2 with ⟨rfl, h0⟩ | ⟨g, cap, cur, rfl, hg1, hg, hle, hm, hsz, htk⟩
  · exact ⟨none, 0, by rw [h0], by rw [h0]; exact Nat.zero_le _, KP.mk fun m hm => by omega⟩
  · refine ⟨_, cap, rfl, by omega, KP.mk fun m hm => ?_⟩
    have hm' : m < vs.length := by rw [h.len]; exact hm
    refine ⟨g, 0, vs[m], rfl, ⟨⟨by omega, (Array.getElem?_eq_some_iff.1 hg).1⟩, hQ g rfl⟩, fun j hj => ?_, (h.each m hm hm').2.later (fun g h => h.1) (fun _ _ => rfl)⟩
    have hv6 := (h.each m hm hm').1
    have hget := flat_get vs h6 m j hm' hj
    have := hcells g rfl (6 * m + j) (vs[m][j]'(by omega)) (by rw [hget]; exact List.getElem?_eq_getElem _)
    have hadd : (⟨g, 0, none⟩ : Addr).add (6 * m + j) = ⟨g, 0 + 6 * (0 + m) + j, none⟩ := by
      unfold Addr.add
      split
      · rename_i h0
        rw [show 0 + 6 * (0 + m) + j = 0 by omega]
      · simp
    rw [hadd] at this
    rw [this]
    exact (List.getElem?_eq_getElem _).symm
theorem KRow.grown {w w' : World} {Q : Nat → Prop} {B lo c : Nat} {v : Value} {ks : List Nd} {vs : List (List Value)} (h : KRow w Q B lo v ks vs) (hg : w.grownBy w' (some c)) (hc : c < B) (hl : c < lo) : KRow w' Q B lo v ks vs :=
  ⟨h.len, fun i hi hi' => ⟨(h.each i hi hi').1, (h.each i hi hi').2.later (fun g h => ⟨⟨⟨h.1.1.1, Nat.lt_of_lt_of_le h.1.1.2 hg.size⟩, h.1.2⟩, h.2⟩) fun p hp => World.cell?_of_block (hg.block p.block hp.1.1.2 (fun e => by have := Option.some.inj e; have := hp.1.1.1; omega))⟩, own_pg h.own hg hc⟩
theorem KRow.none (w : World) (Q : Nat → Prop) (B lo : Nat) : KRow w Q B lo (.slice none 0 0) [] [] := ⟨rfl, fun i h => absurd h (Nat.not_lt_zero _), ⟨by simp, .inl ⟨rfl, rfl⟩⟩⟩
theorem wtL_snoc (ks : List Nd) (x : Nd) : wtL (ks ++ [x]) = wtL ks + 1 + wt x := by
  induction ks with
  | nil => simp [wtL]
  | cons k ks ih => simp only [List.cons_append, wtL, ih]; omega
/-- The row with a kid more: o is the new kid's own block, which the append takes it from. -/
theorem KRow.snoc {w w' : World} {Q : Nat → Prop} {o : Obj} {B lo : Nat} {v v' : Value} {ks : List Nd} {vs : List (List Value)} {x : Nd} {u : List Value} {lo' : Nat} (h : KRow w Q B lo v ks vs) (hx : NP w (Bt lo' w.heap.size) x u) (hl : lo ≤ lo') (hQ : ∀ g, lo' ≤ g → Q g) (hv : ∀ k, v.ownBlock = some k → k < lo')
    (hown : w'.ownsRow B 27 6 v' (ks.length + 1) (vs.flatten ++ u)) (hg : (w.alloc o).grownBy w' v.ownBlock) (hnew : ∀ k, v'.ownBlock = some k → v.ownBlock = some k ∨ w.heap.size ≤ k) : KRow w' Q B lo v' (ks ++ [x]) (vs ++ [u]) := by
  have hs1 := size_alloc w o
  have hs2 := hg.size
  have hc : ∀ p : Addr, p.block < w.heap.size → v.ownBlock ≠ some p.block → w'.cell? p = w.cell? p := fun p hp hne => by
    refine World.cell?_of_block ?_
    rw [hg.block p.block (by omega) (fun e => hne e.symm), Below.heap_alloc _ _ _ hp]
  have key : ∀ (t : Nd) (z : List Value), NP w (fun g => (Bt lo w.heap.size g ∧ Q g) ∧ v.ownBlock ≠ some g) t z → NP w' (fun g => (Bt lo w'.heap.size g ∧ Q g) ∧ v'.ownBlock ≠ some g) t z := fun t z ht =>
    ht.later (fun g hg => ⟨⟨⟨hg.1.1.1, by have := hg.1.1.2; omega⟩, hg.1.2⟩, fun e => by
      rcases hnew g e with h1 | h1
      · exact hg.2 h1
      · have := hg.1.1.2; omega⟩) fun p hp => hc p hp.1.1.2 hp.2
  have hx' := hx.later (P' := fun g => (Bt lo w.heap.size g ∧ Q g) ∧ v.ownBlock ≠ some g) (fun g hg => ⟨⟨⟨by have := hg.1; omega, hg.2⟩, hQ g hg.1⟩, fun e => by have := hv g e; have := hg.1; omega⟩) (fun _ _ => rfl)
  refine ⟨by simp [h.len], fun i hi hi' => ?_, by rw [List.length_append, List.flatten_append]; simpa using hown⟩
  by_cases hlt : i < ks.length
  · have hlt' : i < vs.length := by rw [h.len]; exact hlt
    rw [List.getElem_append_left hlt, List.getElem_append_left hlt']
    exact ⟨(h.each i hlt hlt').1, key _ _ (h.each i hlt hlt').2⟩
  · have e : i = ks.length := by simp at hi; omega
    subst e
    have e1 : (vs ++ [u])[ks.length] = u := by simp [← h.len]
    have e2 : (ks ++ [x])[ks.length] = x := by simp
    rw [e1, e2]
    exact ⟨np_len hx, key _ _ hx'⟩
/-- Six stores into a variable's block leave what lies elsewhere. -/
theorem six_other (w : World) (b : Nat) (a0 a1 a2 a3 a4 a5 : Value) (p : Addr) (h : p.block ≠ b) :
    ((((((w.setCell ⟨b, 0, none⟩ a0).setCell ⟨b, 1, none⟩ a1).setCell ⟨b, 2, none⟩ a2).setCell ⟨b, 3, none⟩ a3).setCell ⟨b, 4, none⟩ a4).setCell ⟨b, 5, none⟩ a5).cell? p = w.cell? p := by
  refine World.cell?_of_block ?_
  repeat rw [heap_setCell_other _ _ _ _ (by exact h)]
theorem one_grown {w0 w : World} {c : Nat} (hg : w0.grownBy w (some c)) (b j : Nat) (hb : w0.heap.size ≤ b) (v : Value) : w0.grownBy (w.setCell ⟨b, j, none⟩ v) (some c) :=
  ⟨hg.os, hg.tape, hg.output, by simpa using hg.size, fun k hk hne => (heap_setCell_other w ⟨b, j, none⟩ k v (show k ≠ b by omega)).trans (hg.block k hk hne)⟩
theorem one_ps {w : World} {c : Nat} {la : Option Addr} {cap : Nat} {L : List Tk} {i : Nat} {bad : Bool} (h : PS w c la cap L i bad) (b j : Nat) (hb : c < b) (v : Value) : PS (w.setCell ⟨b, j, none⟩ v) c la cap L i bad :=
  ⟨(heap_setCell_other w ⟨b, j, none⟩ c v (show c ≠ b by omega)).trans h.row, fun k hk => by
    obtain ⟨g, e, hg, hc⟩ := h.toks k hk
    exact ⟨g, e, hg, fun m hm => (World.cell?_of_block (w := w) (heap_setCell_other w ⟨b, j, none⟩ g v (show g ≠ b by omega))).trans (hc m hm)⟩, h.le, h.len, h.txt⟩
theorem six_grown {w0 w : World} {c : Nat} (hg : w0.grownBy w (some c)) (b : Nat) (hb : w0.heap.size ≤ b) (a0 a1 a2 a3 a4 a5 : Value) :
    w0.grownBy ((((((w.setCell ⟨b, 0, none⟩ a0).setCell ⟨b, 1, none⟩ a1).setCell ⟨b, 2, none⟩ a2).setCell ⟨b, 3, none⟩ a3).setCell ⟨b, 4, none⟩ a4).setCell ⟨b, 5, none⟩ a5) (some c) :=
  one_grown (one_grown (one_grown (one_grown (one_grown (one_grown hg b 0 hb a0) b 1 hb a1) b 2 hb a2) b 3 hb a3) b 4 hb a4) b 5 hb a5
theorem six_ps {w : World} {c : Nat} {la : Option Addr} {cap : Nat} {L : List Tk} {i : Nat} {bad : Bool} (h : PS w c la cap L i bad) (b : Nat) (hb : c < b) (a0 a1 a2 a3 a4 a5 : Value) :
    PS ((((((w.setCell ⟨b, 0, none⟩ a0).setCell ⟨b, 1, none⟩ a1).setCell ⟨b, 2, none⟩ a2).setCell ⟨b, 3, none⟩ a3).setCell ⟨b, 4, none⟩ a4).setCell ⟨b, 5, none⟩ a5) c la cap L i bad :=
  one_ps (one_ps (one_ps (one_ps (one_ps (one_ps h b 0 hb a0) b 1 hb a1) b 2 hb a2) b 3 hb a3) b 4 hb a4) b 5 hb a5
theorem six_size (w : World) (b : Nat) (a0 a1 a2 a3 a4 a5 : Value) : ((((((w.setCell ⟨b, 0, none⟩ a0).setCell ⟨b, 1, none⟩ a1).setCell ⟨b, 2, none⟩ a2).setCell ⟨b, 3, none⟩ a3).setCell ⟨b, 4, none⟩ a4).setCell ⟨b, 5, none⟩ a5).heap.size = w.heap.size := by simp

theorem krow_set {w : World} {Q : Nat → Prop} {B lo : Nat} {v : Value} {ks : List Nd} {vs : List (List Value)} (h : KRow w Q B lo v ks vs) (b j : Nat) (x : Value) (hv : v.ownBlock ≠ some b) (hQ : ∀ g, Q g → g ≠ b) : KRow (w.setCell ⟨b, j, none⟩ x) Q B lo v ks vs :=
  ⟨h.len, fun i hi hi' => ⟨(h.each i hi hi').1, (h.each i hi hi').2.later (fun g h => ⟨⟨⟨h.1.1.1, by simpa using h.1.1.2⟩, h.1.2⟩, h.2⟩) fun p hp => World.cell?_of_block (heap_setCell_other w ⟨b, j, none⟩ p.block x (show p.block ≠ b from hQ _ hp.1.2))⟩,
   ⟨h.own.1, h.own.2.imp id fun ⟨g, cap, cur, e1, e2, e3, e4⟩ => ⟨g, cap, cur, e1, e2, by
     rw [heap_setCell_other w ⟨b, j, none⟩ g x (show g ≠ b by intro e; subst e; exact hv (by rw [e1]; rfl))]; exact e3, e4⟩⟩⟩
end Go.Proofs.Ytlmmomffanakiaa
