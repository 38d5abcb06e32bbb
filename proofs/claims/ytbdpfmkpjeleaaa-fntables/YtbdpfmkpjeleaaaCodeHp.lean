/- The one argument of a law on draws: a slice of bytes that came in. -/
import Derived.Test.YtbdpfmkpjeleaaaDrawK
import Derived.OpenShut
import Derived.Test.YtbdpfmkpjeleaaaHpG
import Derived.Test.YtbdpfmkpjeleaaaNewF
namespace Go.Proofs.Ytbdpfmkpjeleaaa
open Go.RowKit Go.WideShapes
theorem cells_u8 : Try.prog.cellsOf 5 = 1 := by kernel_rfl
theorem is_code_of {W : World} {a : Addr} {len cap : Nat} {zs : List Int}
    (hl : len ≤ cap) (hm : cap ≤ maxLen) (hz : zs.length = cap) (hcell : ∀ j, j < zs.length → W.cell? (a.add j) = some (.int .u8 (zs.getD j 0))) (hwz : ∀ n ∈ zs, (Lit.int .u8 n).wf = true) : IsCode W W.heap.size (some a) len cap := by
  obtain ⟨b, off, spot⟩ := a
  refine ⟨by unfold maxLen at hm; omega, fun j hj => ?_⟩
  have hspot : spot = none := by simpa [Addr.add] using World.cell?_spot (hcell 0 (by omega))
  subst hspot
  have hc := hcell j (by omega)
  rw [add_plain] at hc
  have hw : (Lit.int .u8 (zs.getD j 0)).wf = true := by
    have hj' : j < zs.length := by omega
    rw [List.getD_eq_getElem?_getD, List.getElem?_eq_getElem hj']
    exact hwz _ (List.getElem_mem hj')
  have hb := bounds_u8 hw
  exact ⟨b, off, _, rfl, World.block_lt_of_cell? W _ hc, hc, hb.1, by omega⟩
end Go.Proofs.Ytbdpfmkpjeleaaa
namespace Go.Proofs.Ytbdpfmkpjeleaaa
open Go.RowKit

theorem tv_lay {w : World} {lo hi : Nat} {sp cl : Sl} {ss : List Sl} {h : Hp} (hL : HLay w lo hi sp cl ss h.xss (flatV h.vs)) (hok : h.Ok) (hh : hi ≤ w.heap.size) (hw : h.wt ≤ 1048576) : TV w lo h sp.a cl.a := by
  have hl := len_wtT h.ts
  unfold Hp.wt at hw
  obtain ⟨a, ca, b, cb, e, _, _, hT, hV⟩ := hat_of_lay hL hok (by unfold maxLen; omega) (by unfold maxLen; omega)
  simp only [Sl.v, List.cons.injEq, Value.slice.injEq, and_true] at e
  obtain ⟨⟨e1, _⟩, ⟨e2, _⟩⟩ := e
  rw [e1, e2]
  exact ⟨hT.later (Nat.le_refl _) hh fun _ _ _ => rfl, hV.later (Nat.le_refl _) hh fun _ _ _ => rfl⟩
theorem tv_lo {W : World} {lo lo' : Nat} {h : Hp} {a b : Option Addr} (hT : TV W lo h a b) (hl : lo' ≤ lo) : TV W lo' h a b := ⟨hT.1.later hl (Nat.le_refl _) fun _ _ _ => rfl, hT.2.later hl (Nat.le_refl _) fun _ _ _ => rfl⟩
/-- A heap that was drawn. -/
structure HDr (h : Hp) : Prop where
  good : HGood h
  ts : h.ts.length ≤ 600
  vs : h.vs.length ≤ 4000
  wt : h.wt ≤ 1048576
theorem hdr_mk {h : Hp} (hg : HGood h) (h1 : h.ts.length ≤ 600) (h2 : h.vs.length ≤ 4000) : HDr h := ⟨hg, h1, h2, by have := good_wt hg; omega⟩
/-- The heap that a draw has stored into its result. -/
theorem own_tv {w1 W : World} {L r : Nat} {h : Hp} {sp cl : Sl} {ss : List Sl} {x y : Value} (hO : OwnH w1 L h sp cl ss) (hd : HDr h) (hr : r < L) (hW : W = (w1.setCell ⟨r, 0, none⟩ x).setCell ⟨r, 1, none⟩ y) : TV W L h sp.a cl.a := by
  subst hW
  refine tv_lay (hi := w1.heap.size) (hO.2.2.lay.keep fun b h1 _ _ => ?_) hd.good.ok (by simp) hd.wt
  exact (heap_setCell_other _ _ _ _ (by show b ≠ r; omega)).trans (heap_setCell_other _ _ _ _ (by show b ≠ r; omega))
theorem bel_s2 {W0 W : World} {b i j : Nat} {x y : Value} (h : Below W0.heap.size W0 W) (hb : W0.heap.size ≤ b) : Below W0.heap.size W0 ((W.setCell ⟨b, i, none⟩ x).setCell ⟨b, j, none⟩ y) := (h.setCell hb _).setCell hb _
theorem code_up {W : World} {B B' : Nat} {a : Option Addr} {len cap : Nat} (h : IsCode W B a len cap) (hb : B ≤ B') : IsCode W B' a len cap := ⟨h.small, fun j hj => by
  obtain ⟨b, off, x, e, hl, hx, h0, h1⟩ := h.cells j hj
  exact ⟨b, off, x, e, Nat.lt_of_lt_of_le hl hb, hx, h0, h1⟩⟩
theorem code_later {W W' : World} {B : Nat} {a : Option Addr} {len cap : Nat} (h : IsCode W B a len cap) (hb : Below B W W') : IsCode W' B a len cap := ⟨h.small, fun j hj => by
  obtain ⟨b, off, x, e, hl, hx, h0, h1⟩ := h.cells j hj
  exact ⟨b, off, x, e, hl, by rw [hb.cell (by exact hl)]; exact hx, h0, h1⟩⟩
theorem cur_put' {W : World} {B c b j : Nat} {v : Value} (h : Cur W B c) (hb : B ≤ b) (hc : c ≠ b) : Cur (W.setCell ⟨b, j, none⟩ v) B c := by
  refine ⟨h.up, ?_⟩
  obtain ⟨a, len, cap, i, x, hh, hcd, hi⟩ := h.holds
  exact ⟨a, len, cap, i, x, (heap_setCell_other _ _ _ _ (by show c ≠ b; omega)).trans hh, ⟨hcd.small, fun j' hj => by
    obtain ⟨b', off, y, e, hbb, hx, h0, h1⟩ := hcd.cells j' hj
    exact ⟨b', off, y, e, hbb, (World.cell?_of_block (w := W) (heap_setCell_other _ _ _ _ (by show b' ≠ b; omega))).trans hx, h0, h1⟩⟩, hi⟩
theorem tv_far {W W' : World} {lo : Nat} {h : Hp} {a b : Option Addr} (hT : TV W lo h a b) (hz : W.heap.size ≤ W'.heap.size) (hf : ∀ k, lo ≤ k → k < W.heap.size → W'.heap[k]? = W.heap[k]?) : TV W' lo h a b :=
  ⟨hT.1.later (Nat.le_refl _) hz fun _ h1 h2 => World.cell?_of_block (w := W) (hf _ h1 h2), hT.2.later (Nat.le_refl _) hz fun _ h1 h2 => World.cell?_of_block (w := W) (hf _ h1 h2)⟩
theorem tv_set {W : World} {lo b j : Nat} {h : Hp} {x y : Option Addr} {v : Value} (hT : TV W lo h x y) (hb : b < lo) : TV (W.setCell ⟨b, j, none⟩ v) lo h x y :=
  tv_far hT (by simp) fun k hk _ => heap_setCell_other _ _ _ _ (by show k ≠ b; omega)
end Go.Proofs.Ytbdpfmkpjeleaaa
