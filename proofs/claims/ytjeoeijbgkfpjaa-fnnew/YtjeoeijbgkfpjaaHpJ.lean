/- What the laws of heaps draw. -/
import Derived.Test.YtjeoeijbgkfpjaaHpG
import Derived.Test.YtjeoeijbgkfpjaaNewF
import Derived.Test.YtjeoeijbgkfpjaaCodeA
import Derived.Deep.RegionWith
namespace Go.Proofs.Ytjeoeijbgkfpjaa
open Go.RowKit

theorem tv_lay {w : World} {lo hi : Nat} {sp cl : Sl} {ss : List Sl} {h : Hp} (hL : HLay w lo hi sp cl ss h.xss (flatV h.vs)) (hok : h.Ok) (hh : hi ≤ w.heap.size) (hw : h.wt ≤ 1048576) : TV w lo h sp.a cl.a := by
  have hl := len_wtT h.ts
  unfold Hp.wt at hw
  obtain ⟨a, ca, b, cb, e, _, _, hT, hV⟩ := hat_of_lay hL hok (by unfold maxLen; omega) (by unfold maxLen; omega)
  simp only [Sl.v, List.cons.injEq, Value.slice.injEq, and_true] at e
  obtain ⟨⟨e1, _⟩, ⟨e2, _⟩⟩ := e
  rw [e1, e2]
  exact ⟨hT.later (Nat.le_refl _) hh fun _ _ _ => rfl, hV.later (Nat.le_refl _) hh fun _ _ _ => rfl⟩
theorem tv_lo {W : World} {lo lo' : Nat} {h : Hp} {a b : Option Addr} (hT : TV W lo h a b) (hl : lo' ≤ lo) : TV W lo' h a b := ⟨hT.1.later hl (Nat.le_refl _) fun _ _ _ => rfl, hT.2.later hl (Nat.le_refl _) fun _ _ _ => rfl⟩
/-- A heap that was drawn. -/
structure HDr (h : Hp) : Prop where
  good : HGood h
  ts : h.ts.length ≤ 600
  vs : h.vs.length ≤ 4000
  wt : h.wt ≤ 1048576
theorem hdr_mk {h : Hp} (hg : HGood h) (h1 : h.ts.length ≤ 600) (h2 : h.vs.length ≤ 4000) : HDr h := ⟨hg, h1, h2, by have := good_wt hg; omega⟩
/-- The heap that a draw has stored into its result. -/
theorem own_tv {w1 W : World} {L r : Nat} {h : Hp} {sp cl : Sl} {ss : List Sl} {x y : Value} (hO : OwnH w1 L h sp cl ss) (hd : HDr h) (hr : r < L) (hW : W = (w1.setCell ⟨r, 0, none⟩ x).setCell ⟨r, 1, none⟩ y) : TV W L h sp.a cl.a := by
  subst hW
  refine tv_lay (hi := w1.heap.size) (hO.2.2.lay.keep fun b h1 _ _ => ?_) hd.good.ok (by simp) hd.wt
  exact (heap_setCell_other _ _ _ _ (by show b ≠ r; omega)).trans (heap_setCell_other _ _ _ _ (by show b ≠ r; omega))
theorem bel_s2 {W0 W : World} {b i j : Nat} {x y : Value} (h : Below W0.heap.size W0 W) (hb : W0.heap.size ≤ b) : Below W0.heap.size W0 ((W.setCell ⟨b, i, none⟩ x).setCell ⟨b, j, none⟩ y) := (h.setCell hb _).setCell hb _
theorem code_up {W : World} {B B' : Nat} {a : Option Addr} {len cap : Nat} (h : IsCode W B a len cap) (hb : B ≤ B') : IsCode W B' a len cap := ⟨h.small, fun j hj => by
  obtain ⟨b, off, x, e, hl, hx, h0, h1⟩ := h.cells j hj
  exact ⟨b, off, x, e, Nat.lt_of_lt_of_le hl hb, hx, h0, h1⟩⟩
theorem code_later {W W' : World} {B : Nat} {a : Option Addr} {len cap : Nat} (h : IsCode W B a len cap) (hb : Below B W W') : IsCode W' B a len cap := ⟨h.small, fun j hj => by
  obtain ⟨b, off, x, e, hl, hx, h0, h1⟩ := h.cells j hj
  exact ⟨b, off, x, e, hl, by rw [hb.cell (by exact hl)]; exact hx, h0, h1⟩⟩
set_option maxRecDepth 100000 in
set_option maxHeartbeats 800000 in
theorem drawNewTable_any (a : Option Addr) (len cap B : Nat) (w : World) (hcode : IsCode w B a len cap) (hB : B ≤ w.heap.size) :
    Calls Try.prog 30 #[.slice a len cap] w fun e w' => (∃ h pa pc ua uc, e = .returned (.agg #[.slice pa h.ts.length pc, .slice ua h.vs.length uc]) ∧ HDr h ∧ TV w' w.heap.size h pa ua) ∧ Below w.heap.size w w' := by
  go_enter Try.func30, Try.ntmps30
  go_wp2_with fail
  obtain ⟨W0, hW0⟩ : ∃ W0, W0 = w.alloc (Obj.cells #[.slice none 0 0, .slice none 0 0] 30) := ⟨_, rfl⟩
  have hB0 : Below w.heap.size w W0 := hW0 ▸ bel_alloc w _
  have hs0 : W0.heap.size = w.heap.size + 1 := by rw [hW0]; simp
  have r0 : W0.heap[w.heap.size]? = some (.cells #[.slice none 0 0, .slice none 0 0] 30 (0, 0)) := by rw [hW0]; exact heap_alloc_new _ _
  have hcode0 : IsCode W0 w.heap.size a len cap := code_later (code_up hcode hB) hB0
  rw [← hW0]
  clear hW0
  refine (new_any w.heap.size a len cap W0 hcode0 (by omega)).mono ?_
  rw [hs0]
  rintro e w1 ⟨rfl, hC1, hb1⟩
  have hs1 := hb1.size
  have r1 := (hb1.block _ (by omega)).trans r0
  have hq1 : Below w.heap.size w w1 := hB0.trans (hb1.mono (by omega))
  have hz1 : w.heap.size < w1.heap.size := by omega
  clear hb1 r0 hs0 hs1
  go_wp2_with fail
  refine (heap_draw w.heap.size _ w1 hC1).mono ?_
  rintro e w2 ⟨⟨h, sp, cl, ss, rfl, hg, h1, h2, hO⟩, hd⟩
  have rr := (hd.by'.block w.heap.size hz1 (by simp)).trans r1
  have c0 := cell_of_row _ _ 0 _ _ _ rr
  have c1 := cell_of_row _ _ 1 _ _ _ rr
  have f0 := frozen_of_row _ _ 0 _ _ rr
  have f1 := frozen_of_row _ _ 1 _ _ rr
  simp only [List.getElem?_toArray, List.getElem?_cons_zero, List.getElem?_cons_succ] at c0 c1
  obtain ⟨pa, pn, pc⟩ := sp
  obtain ⟨ua, un, uc⟩ := cl
  have hpn := hO.1
  have hun := hO.2.1
  dsimp only at hpn hun
  subst hpn
  subst hun
  have hD := hdr_mk hg h1 h2
  have hq2 : Below w.heap.size w w2 := hq1.trans (hd.below hq1.size)
  have T := own_tv (W := (w2.setCell ⟨w.heap.size, 0, none⟩ (.slice pa h.ts.length pc)).setCell ⟨w.heap.size, 1, none⟩ (.slice ua h.vs.length uc)) hO hD hz1 rfl
  clear rr hO hg h1 h2 hd
  dsimp only [Sl.v]
  go_wp2_with fail
  refine bodyPost_ret (v := .agg #[.slice pa h.ts.length pc, .slice ua h.vs.length uc]) (by simp [results, Try.results30, go_sem, *]) rfl ⟨⟨h, pa, pc, ua, ⟨uc, rfl⟩, hD, tv_lo T (Nat.le_of_lt hz1)⟩, bel_s2 hq2 (Nat.le_refl _)⟩
theorem cur_put' {W : World} {B c b j : Nat} {v : Value} (h : Cur W B c) (hb : B ≤ b) (hc : c ≠ b) : Cur (W.setCell ⟨b, j, none⟩ v) B c := by
  refine ⟨h.up, ?_⟩
  obtain ⟨a, len, cap, i, x, hh, hcd, hi⟩ := h.holds
  exact ⟨a, len, cap, i, x, (heap_setCell_other _ _ _ _ (by show c ≠ b; omega)).trans hh, ⟨hcd.small, fun j' hj => by
    obtain ⟨b', off, y, e, hbb, hx, h0, h1⟩ := hcd.cells j' hj
    exact ⟨b', off, y, e, hbb, (World.cell?_of_block (w := W) (heap_setCell_other _ _ _ _ (by show b' ≠ b; omega))).trans hx, h0, h1⟩⟩, hi⟩
theorem tv_far {W W' : World} {lo : Nat} {h : Hp} {a b : Option Addr} (hT : TV W lo h a b) (hz : W.heap.size ≤ W'.heap.size) (hf : ∀ k, lo ≤ k → k < W.heap.size → W'.heap[k]? = W.heap[k]?) : TV W' lo h a b :=
  ⟨hT.1.later (Nat.le_refl _) hz fun _ h1 h2 => World.cell?_of_block (w := W) (hf _ h1 h2), hT.2.later (Nat.le_refl _) hz fun _ h1 h2 => World.cell?_of_block (w := W) (hf _ h1 h2)⟩
theorem tv_set {W : World} {lo b j : Nat} {h : Hp} {x y : Option Addr} {v : Value} (hT : TV W lo h x y) (hb : b < lo) : TV (W.setCell ⟨b, j, none⟩ v) lo h x y :=
  tv_far hT (by simp) fun k hk _ => heap_setCell_other _ _ _ _ (by show k ≠ b; omega)
/-- A heap that was drawn, its variable at v, its result at the first of two blocks, the cursor behind them. -/
structure NC (w : World) (L v : Nat) (h : Hp) (pa : Option Addr) (pc : Nat) (ua : Option Addr) (uc : Nat) (ra rb : Value) (W : World) : Prop where
  x0 : W.cell? ⟨v, 0, none⟩ = some (.slice pa h.ts.length pc)
  x1 : W.cell? ⟨v, 1, none⟩ = some (.slice ua h.vs.length uc)
  cur : Cur W w.heap.size (w.heap.size + 1 + 1)
  ra : W.heap[w.heap.size]? = some (.cells #[ra, rb] 30 (0, 0))
  rb : W.heap[w.heap.size + 1]? = some (.cells #[.int .i64 0, .int .i64 0, .string ⟨#[]⟩] 32 (0, 0))
  tv : TV W L h pa ua
  be : Below w.heap.size w W
  v0 : w.heap.size + 2 < v
  v1 : v < W.heap.size
  l0 : w.heap.size + 2 < L
  l1 : L ≤ v
theorem NC.far {w W W' : World} {L v : Nat} {h : Hp} {pa ua : Option Addr} {pc uc : Nat} {ra rb : Value} (n : NC w L v h pa pc ua uc ra rb W) (hc : Cur W' w.heap.size (w.heap.size + 1 + 1)) (hb : Below w.heap.size W W') (hf : ∀ k, k < W.heap.size → k ≠ w.heap.size + 1 + 1 → W'.heap[k]? = W.heap[k]?) : NC w L v h pa pc ua uc ra rb W' := by
  have h1 := n.v0
  have h2 := n.v1
  have h3 := n.l0
  have h4 := hb.size
  exact ⟨(World.cell?_of_block (w := W) (hf v h2 (by omega))).trans n.x0, (World.cell?_of_block (w := W) (hf v h2 (by omega))).trans n.x1, hc, (hf _ (by omega) (by omega)).trans n.ra, (hf _ (by omega) (by omega)).trans n.rb,
    tv_far n.tv h4 fun k k1 k2 => hf k k2 (by omega), n.be.trans hb, h1, by omega, h3, n.l1⟩
theorem NC.drawn {w W W' : World} {L v : Nat} {h : Hp} {pa ua : Option Addr} {pc uc : Nat} {ra rb : Value} (n : NC w L v h pa pc ua uc ra rb W) (hd : Drawn w.heap.size (w.heap.size + 1 + 1) W W') : NC w L v h pa pc ua uc ra rb W' :=
  n.far hd.cur (hd.below n.be.size) fun k h1 h2 => hd.by'.block k h1 (by simpa using h2)
theorem NC.drew {w W : World} {L v : Nat} {h : Hp} {pa ua : Option Addr} {pc uc : Nat} {ra rb : Value} (n : NC w L v h pa pc ua uc ra rb W) : NC w L v h pa pc ua uc ra rb W.drew := n.drawn (Drawn.refl n.cur).drew
theorem NC.put {w W : World} {L v : Nat} {h : Hp} {pa ua : Option Addr} {pc uc : Nat} {ra rb : Value} (n : NC w L v h pa pc ua uc ra rb W) (x y : Value) : NC w L v h pa pc ua uc x y ((W.setCell ⟨w.heap.size, 0, none⟩ x).setCell ⟨w.heap.size, 1, none⟩ y) := by
  have h1 := n.v0
  have h3 := n.l0
  have hf : ∀ k, k ≠ w.heap.size → ((W.setCell ⟨w.heap.size, 0, none⟩ x).setCell ⟨w.heap.size, 1, none⟩ y).heap[k]? = W.heap[k]? := fun k hk => (heap_setCell_other _ _ _ _ (by exact hk)).trans (heap_setCell_other _ _ _ _ (by exact hk))
  refine ⟨(World.cell?_of_block (w := W) (hf v (by omega))).trans n.x0, (World.cell?_of_block (w := W) (hf v (by omega))).trans n.x1, cur_put' (cur_put' n.cur (Nat.le_refl _) (by omega)) (Nat.le_refl _) (by omega), ?_, (hf _ (by omega)).trans n.rb,
    tv_far n.tv (by simp) fun k k1 _ => hf k (by omega), (n.be.setCell (Nat.le_refl _) _).setCell (Nat.le_refl _) _, h1, by simpa using n.v1, h3, n.l1⟩
  rw [heap_setCell_same _ _ _ _ _ _ (heap_setCell_same _ _ _ _ _ _ n.ra)]
  simp
set_option maxRecDepth 100000 in
set_option maxHeartbeats 1600000 in
theorem drawNewCell_any (a : Option Addr) (len cap B : Nat) (w : World) (hcode : IsCode w B a len cap) (hB : B ≤ w.heap.size) :
    Calls Try.prog 31 #[.slice a len cap] w fun e w' => (∃ h pa pc ua uc k n s, e = .returned (.tuple #[.agg #[.slice pa h.ts.length pc, .slice ua h.vs.length uc], .agg #[.int .i64 k, .int .i64 n, .string s]]) ∧ HDr h ∧ TV w' w.heap.size h pa ua ∧ VDraw k n s) ∧ Below w.heap.size w w' := by
  obtain ⟨rA, rB, hs0, hB0⟩ := rows2 w (Obj.cells #[.slice none 0 0, .slice none 0 0] 30) (Obj.cells #[.int .i64 0, .int .i64 0, .string ⟨#[]⟩] 32)
  obtain ⟨W0, hW0⟩ : ∃ W0, W0 = (w.alloc (Obj.cells #[.slice none 0 0, .slice none 0 0] 30)).alloc (Obj.cells #[.int .i64 0, .int .i64 0, .string ⟨#[]⟩] 32) := ⟨_, rfl⟩
  go_enter Try.func31, Try.ntmps31
  go_wp2_with fail
  rw [← hW0] at rA rB hs0 hB0 ⊢
  have hcode0 : IsCode W0 w.heap.size a len cap := code_later (code_up hcode hB) hB0
  clear hW0
  refine (new_any w.heap.size a len cap W0 hcode0 (by omega)).mono ?_
  rw [hs0]
  rintro e w1 ⟨rfl, hC1, hb1⟩
  have hs1 := hb1.size
  have r1 := (hb1.block _ (by omega)).trans rA
  have q1 := (hb1.block _ (by omega)).trans rB
  have hq1 : Below w.heap.size w w1 := hB0.trans (hb1.mono (by omega))
  have hz1 : w.heap.size + 1 < w1.heap.size := by omega
  have hz1' := cur_lt hC1
  clear hb1 rA rB hs0 hs1
  go_wp2_with fail
  refine (heap_draw w.heap.size _ w1 hC1).mono ?_
  rintro e w2 ⟨⟨h, sp, cl, ss, rfl, hg, h1, h2, hO⟩, hd⟩
  have hs2 := hd.by'.size
  have r2 := (hd.by'.block w.heap.size (by omega) (by simp)).trans r1
  have q2 := (hd.by'.block (w.heap.size + 1) (by omega) (by simp)).trans q1
  obtain ⟨pa, pn, pc⟩ := sp
  obtain ⟨ua, un, uc⟩ := cl
  have hpn := hO.1
  have hun := hO.2.1
  dsimp only at hpn hun
  subst hpn
  subst hun
  have hD := hdr_mk hg h1 h2
  have hq2 : Below w.heap.size w w2 := hq1.trans (hd.below hq1.size)
  have hC2 := hd.cur
  have T2 := tv_lay hO.2.2.lay hD.good.ok (Nat.le_refl _) hD.wt
  clear hO hg h1 h2 hd r1 q1
  dsimp only [Sl.v]
  obtain ⟨W3, hW3⟩ : ∃ W3, W3 = w2.alloc (Obj.cells #[.slice pa h.ts.length pc, .slice ua h.vs.length uc] 30) := ⟨_, rfl⟩
  have hb3 : Below w2.heap.size w2 W3 := hW3 ▸ bel_alloc w2 _
  have r3 : W3.heap[w2.heap.size]? = some (.cells #[.slice pa h.ts.length pc, .slice ua h.vs.length uc] 30 (0, 0)) := by rw [hW3]; exact heap_alloc_new _ _
  have hC3 : Cur W3 w.heap.size (w.heap.size + 1 + 1) := by rw [hW3]; exact cur_alloc hC2 _
  have hs3 : w2.heap.size < W3.heap.size := (Array.getElem?_eq_some_iff.1 r3).1
  have hc2 := cur_lt hC2
  have T3 : TV W3 w1.heap.size h pa ua := tv_b T2 hb3
  have hq3 : Below w.heap.size w W3 := hq2.trans (hb3.mono hq2.size)
  have rx := (hb3.block _ (by omega)).trans r2
  have qx := (hb3.block _ (by omega)).trans q2
  go_wp2_with fail
  rw [← hW3]
  clear hW3 hb3 T2 r2 q2 hq2 hq1 hC2 hC1
  have n0 : NC w w1.heap.size w2.heap.size h pa pc ua uc (.slice none 0 0) (.slice none 0 0) W3 := ⟨cell_of_row _ _ 0 _ _ _ r3, cell_of_row _ _ 1 _ _ _ r3, hC3, rx, qx, T3, hq3, hc2, hs3, by omega, hs2⟩
  clear r3 T3 hq3 rx qx
  have N0 : Hid (NC w w1.heap.size w2.heap.size h pa pc ua uc (.slice none 0 0) (.slice none 0 0) W3.drew) := n0.drew
  have x0 := n0.x0
  have x1 := n0.x1
  have a0 := cell_of_row _ _ 0 _ _ _ n0.ra
  have a1 := cell_of_row _ _ 1 _ _ _ n0.ra
  have b0 := cell_of_row _ _ 0 _ _ _ n0.rb
  have b1 := cell_of_row _ _ 1 _ _ _ n0.rb
  have b2 := cell_of_row _ _ 2 _ _ _ n0.rb
  have f0 := frozen_of_row _ _ 0 _ _ n0.ra
  have f1 := frozen_of_row _ _ 1 _ _ n0.ra
  have g0 := frozen_of_row _ _ 0 _ _ n0.rb
  have g1 := frozen_of_row _ _ 1 _ _ n0.rb
  have g2 := frozen_of_row _ _ 2 _ _ n0.rb
  simp only [List.getElem?_toArray, List.getElem?_cons_zero, List.getElem?_cons_succ] at a0 a1 b0 b1 b2
  have v0 := n0.v0
  have v1 := n0.v1
  clear n0
  go_region_with (first | (go_at_call 49; (first | refine (value_any w.heap.size _ _ N0.out.cur).mono ?_ | refine (value_any w.heap.size _ _ (N0.out.put (.slice pa h.ts.length pc) (.slice ua h.vs.length uc)).cur).mono ?_); rintro e w' ⟨k, n, s, rfl, hV, hd⟩; (first | have N1 := N0.out.drawn hd | have N1 := (N0.out.put (.slice pa h.ts.length pc) (.slice ua h.vs.length uc)).drawn hd); have x0 := N1.x0; have x1 := N1.x1; have a0 := cell_of_row _ _ 0 _ _ _ N1.ra; have a1 := cell_of_row _ _ 1 _ _ _ N1.ra; have b0 := cell_of_row _ _ 0 _ _ _ N1.rb; have b1 := cell_of_row _ _ 1 _ _ _ N1.rb; have b2 := cell_of_row _ _ 2 _ _ _ N1.rb; have f0 := frozen_of_row _ _ 0 _ _ N1.ra; have f1 := frozen_of_row _ _ 1 _ _ N1.ra; have g0 := frozen_of_row _ _ 0 _ _ N1.rb; have g1 := frozen_of_row _ _ 1 _ _ N1.rb; have g2 := frozen_of_row _ _ 2 _ _ N1.rb; simp only [List.getElem?_toArray, List.getElem?_cons_zero, List.getElem?_cons_succ] at a0 a1 b0 b1 b2; have v1 := N1.v1))
  all_goals
    have l0 := N1.l0
    go_wp2_with fail
    refine bodyPost_ret (v := .tuple #[.agg #[.slice pa h.ts.length pc, .slice ua h.vs.length uc], .agg #[.int .i64 k, .int .i64 n, .string s]]) (by simp [results, Try.results31, go_sem, *]) rfl ⟨⟨h, pa, pc, ua, uc, k, n, s, rfl, hD, tv_lo (lo := w1.heap.size) ?_ (by omega), hV⟩, ?_⟩
    · repeat (first | (with_reducible exact N1.tv) | (with_reducible refine tv_set ?_ (by omega)))
    · repeat (first | (with_reducible exact N1.be) | (with_reducible refine Below.setCell ?_ (by first | exact Nat.le_refl _ | exact Nat.le_succ _) _))
end Go.Proofs.Ytjeoeijbgkfpjaa
