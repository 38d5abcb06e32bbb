/- A variable that holds a heap of one's own, between two bounds: kept, marked, found marked. -/
import Derived.Test.YtbdpfmkpjeleaaaNewE
import Derived.Test.YtbdpfmkpjeleaaaMarkL
import Derived.Test.YtbdpfmkpjeleaaaHeapO
namespace Go.Proofs.Ytbdpfmkpjeleaaa
open Go.RowKit

theorem ok_of_hat {w : World} {lo hi : Nat} {h : Hp} {v : List Value} (hN : HAt w lo hi h v) : h.Ok := by
  obtain ⟨a, ca, b, cb, rfl, _, _, hT, hV⟩ := hN
  refine ⟨fun i hi' => ?_, fun i hi' => (hV i hi').1⟩
  obtain ⟨hl, _, _, _, _, _, _, _, _, hP⟩ := hT i hi'
  exact ⟨hl, fun j hj => (hP j hj).1⟩
theorem cell_ok {h : Hp} {v : Vl} (hk : h.Ok) (hv : v.Ok) : (h.cell v).Ok := by
  refine ⟨hk.1, fun i hi => ?_⟩
  unfold Hp.cell at hi ⊢
  by_cases hf : 3000 ≤ h.vs.length
  · simp only [if_pos hf] at hi ⊢; exact hk.2 i hi
  · simp only [if_neg hf] at hi ⊢
    by_cases hl : i < h.vs.length
    · rw [List.getElem_append_left hl]; exact hk.2 i hl
    · rw [List.getElem_append_right (by omega)]; simpa using hv
theorem cell_wt (h : Hp) (v : Vl) : (h.cell v).wt ≤ h.wt + 1 := by
  unfold Hp.wt Hp.cell
  by_cases hf : 3000 ≤ h.vs.length
  · simp only [if_pos hf]; omega
  · simp only [if_neg hf, List.length_append, List.length_singleton]; omega

theorem sum_lens : ∀ (ss : List Sl) (ts : List (List Pr)), ss.length = ts.length → (∀ i (h1 : i < ss.length) (h2 : i < ts.length), ss[i].n = ts[i].length) → (ss.map Sl.n).sum ≤ wtT ts := by
  intro ss
  induction ss with
  | nil => intro ts _ _; simp
  | cons s ss ih =>
    intro ts hl hn
    cases ts with
    | nil => simp at hl
    | cons t ts =>
      have h0 := hn 0 (by simp) (by simp)
      have hr := ih ts (by simpa using hl) fun i h1 h2 => by have := hn (i + 1) (by simpa using h1) (by simpa using h2); simpa using this
      simp only [List.getElem_cons_zero] at h0
      unfold wtT at hr ⊢
      simp only [List.map_cons, List.sum_cons]
      omega

/-- A variable at block b holds the heap h; all that it holds lies from lo on, below hi. -/
structure Keep (W : World) (b lo hi : Nat) (h : Hp) (sp cl : Sl) (ss : List Sl) : Prop where
  var : W.heap[b]? = some (.cells #[sp.v, cl.v] 30 (0, 0))
  lob : lo ≤ b
  hib : b < hi
  hiw : hi ≤ W.heap.size
  lay : HLay W lo hi sp cl ss h.xss (flatV h.vs)
theorem Keep.below {W W' : World} {b lo hi : Nat} {h : Hp} {sp cl : Sl} {ss : List Sl} (k : Keep W b lo hi h sp cl ss) (hb : Below W.heap.size W W') : Keep W' b lo hi h sp cl ss :=
  ⟨(hb.block b (by have := k.hib; have := k.hiw; omega)).trans k.var, k.lob, k.hib, Nat.le_trans k.hiw hb.size, k.lay.below hb⟩
theorem Keep.out {W W' : World} {b lo hi l u : Nat} {h : Hp} {sp cl : Sl} {ss : List Sl} (k : Keep W b lo hi h sp cl ss) (ho : Out W W' l u) (hd : hi ≤ l ∨ u ≤ lo) : Keep W' b lo hi h sp cl ss := by
  have h1 := k.lob
  have h2 := k.hib
  have h3 := k.hiw
  have h4 := ho.size
  exact ⟨(ho.block b (by omega) (by omega)).trans k.var, k.lob, k.hib, by omega, k.lay.keep fun x hx hx' hz => ho.block x hz (by omega)⟩
theorem Keep.lens {W : World} {b lo hi : Nat} {h : Hp} {sp cl : Sl} {ss : List Sl} (k : Keep W b lo hi h sp cl ss) : ss.length = h.ts.length ∧ cl.n = h.vs.length ∧ off ss ss.length ≤ wtT h.ts := by
  have hl : ss.length = h.ts.length := by have := k.lay.tabs.1; rw [Hp.xss, List.length_map] at this; exact this
  refine ⟨hl, by have := k.lay.cells.1; rw [flatV_len] at this; omega, ?_⟩
  unfold off
  rw [List.take_length]
  refine sum_lens ss h.ts hl fun i h1 h2 => ?_
  have hr := (k.lay.tabs.get i h1 (by rw [Hp.xss, List.length_map]; exact h2)).1
  have ex : h.xss[i]'(by rw [Hp.xss, List.length_map]; exact h2) = flatP h.ts[i] := by simp [Hp.xss]
  rw [ex, flatP_len] at hr
  omega
theorem Keep.hat {W : World} {b lo hi : Nat} {h : Hp} {sp cl : Sl} {ss : List Sl} (k : Keep W b lo hi h sp cl ss) (hok : h.Ok) (hw : h.wt ≤ 2097152) : HAt W lo hi h [sp.v, cl.v] := by
  have hl := len_wtT h.ts
  unfold Hp.wt at hw
  exact hat_of_lay k.lay hok (by unfold maxLen; omega) (by unfold maxLen; omega)
theorem Keep.marks {W : World} {b lo hi : Nat} {h : Hp} {sp cl : Sl} {ss : List Sl} (k : Keep W b lo hi h sp cl ss) (hw : h.wt ≤ 2097152) : markN 1 ss cl ≤ 1099511627776 ∧ ss.length ≤ maxLen := by
  obtain ⟨h1, h2, h3⟩ := k.lens
  have hl := len_wtT h.ts
  unfold Hp.wt at hw
  unfold markN maxLen
  omega
/-- The same, marked. -/
structure Marked (W : World) (b lo hi : Nat) (sp cl : Sl) (ss : List Sl) : Prop where
  var : W.heap[b]? = some (.cells #[sp.v, cl.v] 30 (0, 0))
  hib : b < hi
  hiw : hi ≤ W.heap.size
  lay : HLay W lo hi sp cl ss (markL 1 ss) (markC 1 ss cl)
  bound : markN 1 ss cl ≤ 1099511627776 ∧ ss.length ≤ maxLen
theorem Marked.below {W W' : World} {b lo hi : Nat} {sp cl : Sl} {ss : List Sl} (k : Marked W b lo hi sp cl ss) (hb : Below W.heap.size W W') : Marked W' b lo hi sp cl ss :=
  ⟨(hb.block b (by have := k.hib; have := k.hiw; omega)).trans k.var, k.hib, Nat.le_trans k.hiw hb.size, k.lay.below hb, k.bound⟩
theorem eqK_same {W : World} {b lo hi b' lo' hi' : Nat} {h : Hp} {sp cl sp' cl' : Sl} {ss ss' : List Sl} (k : Keep W b lo hi h sp cl ss) (k' : Keep W b' lo' hi' h sp' cl' ss') (hok : h.Ok) (hw : h.wt ≤ 2097152) :
    Calls Try.prog 10 #[.agg #[sp.v, cl.v], .agg #[sp'.v, cl'.v]] W fun e w' => e = .returned (.bool true) ∧ Below W.heap.size W w' :=
  eqH_wide h [sp.v, cl.v] [sp'.v, cl'.v] lo hi lo' hi' W (k.hat hok hw) (k'.hat hok hw) k.hiw k'.hiw hw
theorem markK_any {W : World} {b lo hi : Nat} {h : Hp} {sp cl : Sl} {ss : List Sl} (k : Keep W b lo hi h sp cl ss) (hw : h.wt ≤ 2097152) :
    Calls Try.prog 12 #[.agg #[sp.v, cl.v], .int .i64 1] W fun e w' => e = .returned (.int .i64 ((markN 1 ss cl : Nat) : Int)) ∧ Marked w' b lo hi sp cl ss ∧ Out W w' lo hi ∧ ∀ (x : Nat) (cs : Array Value), W.heap[x]? = some (Obj.cells cs 30 (0, 0)) → w'.heap[x]? = W.heap[x]? := by
  obtain ⟨h1, h2⟩ := k.marks hw
  refine (mkH_any sp cl ss 1 lo hi _ _ W k.lay k.hiw (by decide) h1 h2).mono ?_
  rintro e w' ⟨rfl, hL, hO, hv⟩
  exact ⟨rfl, ⟨(hv b _ k.var).trans k.var, k.hib, Nat.le_trans k.hiw hO.size, hL, h1, h2⟩, hO, hv⟩
theorem heldK_any {W : World} {b lo hi : Nat} {sp cl : Sl} {ss : List Sl} (k : Marked W b lo hi sp cl ss) :
    Calls Try.prog 13 #[.agg #[sp.v, cl.v], .int .i64 1] W fun e w' => e = .returned (.int .i64 ((markN 1 ss cl : Nat) : Int)) ∧ Below W.heap.size W w' :=
  hdH_any sp cl ss 1 lo hi W k.lay (by decide) k.bound.1 k.bound.2

/- A variable of a heap's shape: nothing has been put into it yet; something has been. -/
def Zh (W : World) (b : Nat) : Prop := W.heap[b]? = some (.cells #[.slice none 0 0, .slice none 0 0] 30 (0, 0))
theorem zh_lt {W : World} {b : Nat} (h : Zh W b) : b < W.heap.size := (Array.getElem?_eq_some_iff.1 h).1
theorem zh_b {W W' : World} {b : Nat} (h : Zh W b) (hb : Below W.heap.size W W') : Zh W' b := (hb.block b (zh_lt h)).trans h
theorem zh_first {W W' : World} (hb : Below (W.alloc (.cells #[.slice none 0 0, .slice none 0 0] 30)).heap.size (W.alloc (.cells #[.slice none 0 0, .slice none 0 0] 30)) W') : Zh W' W.heap.size :=
  zh_b (W := W.alloc (.cells #[.slice none 0 0, .slice none 0 0] 30)) (heap_alloc_new _ _) hb
theorem zh_first' {W W' : World} (hb : Below (W.alloc (.cells #[.slice none 0 0, .slice none 0 0] 30)).drew.heap.size (W.alloc (.cells #[.slice none 0 0, .slice none 0 0] 30)).drew W') : Zh W' W.heap.size :=
  zh_first ((Below.refl _ _).drew.trans hb)
theorem keep_al {W : World} {B L : Nat} {h : Hp} {sp cl : Sl} {ss : List Sl} (ho : OwnH W B h sp cl ss) (hL : L ≤ B) (hW : L ≤ W.heap.size) : Keep (W.alloc (.cells #[sp.v, cl.v] 30)) W.heap.size L (W.alloc (.cells #[sp.v, cl.v] 30)).heap.size h sp cl ss :=
  ⟨heap_alloc_new _ _, hW, by simp, Nat.le_refl _, ((ho.2.2.below (bel_alloc _ _)).base hL).lay⟩
theorem keep_set {W : World} {b B L : Nat} {h : Hp} {sp cl : Sl} {ss : List Sl} (ho : OwnH W B h sp cl ss) (hz : Zh W b) (hL : L ≤ B) (hb : L ≤ b) : Keep ((W.setCell ⟨b, 0, none⟩ sp.v).setCell ⟨b, 1, none⟩ cl.v) b L ((W.setCell ⟨b, 0, none⟩ sp.v).setCell ⟨b, 1, none⟩ cl.v).heap.size h sp cl ss := by
  refine ⟨?_, hb, by simpa using zh_lt hz, Nat.le_refl _, ?_⟩
  · have := heap_setCell_same _ b 1 _ _ cl.v (heap_setCell_same _ b 0 _ _ sp.v hz)
    simpa using this
  · refine ((ho.2.2.stored hz (by decide) (fun x hx => ?_) (by simp)).base hL).lay
    rw [heap_setCell_other _ _ _ _ (by show x ≠ b; exact hx), heap_setCell_other _ _ _ _ (by show x ≠ b; exact hx)]
/-- What the law's copy of the argument gives. -/
def TV (W : World) (lo : Nat) (h : Hp) (a b : Option Addr) : Prop := TAt W lo W.heap.size h.ts a ∧ VAt W lo W.heap.size h.vs b
theorem tv_b {W W' : World} {lo : Nat} {h : Hp} {a b : Option Addr} (hT : TV W lo h a b) (hb : Below W.heap.size W W') : TV W' lo h a b :=
  ⟨hT.1.later (Nat.le_refl _) hb.size fun _ _ hp => hb.cell hp, hT.2.later (Nat.le_refl _) hb.size fun _ _ hp => hb.cell hp⟩
end Go.Proofs.Ytbdpfmkpjeleaaa
