/- Machines in a row are marked. -/
import Derived.Test.YtgibejgemokljaaOwQ
import Derived.Test.YtgibejgemokljaaTrW
namespace Go.Proofs.Ytgibejgemokljaa
open Go.RowKit

theorem parts_flat {V V' : Nat → Nat → Prop} {S : Nat → Prop} (h : Parts V S) (h' : Parts V' (V 0)) : Parts (V5 (V' 0) (V' 1) (V 1) (V 2) (V 3)) S :=
  ⟨fun i b hb => by
    match i, hb with
    | 0, hb => exact h.within 0 b (h'.within 0 b hb)
    | 1, hb => exact h.within 0 b (h'.within 1 b hb)
    | 2, hb => exact h.within 1 b hb
    | 3, hb => exact h.within 2 b hb
    | 4, hb => exact h.within 3 b hb
    | n + 5, hb => exact hb.elim,
   fun i j b hb hc => by
    match i, hb, j, hc with
    | 0, _, 0, _ => rfl
    | 0, hb, 1, hc => exact absurd (h'.apart 0 1 b hb hc) (by decide)
    | 0, hb, 2, hc => exact absurd (h.apart 0 1 b (h'.within 0 b hb) hc) (by decide)
    | 0, hb, 3, hc => exact absurd (h.apart 0 2 b (h'.within 0 b hb) hc) (by decide)
    | 0, hb, 4, hc => exact absurd (h.apart 0 3 b (h'.within 0 b hb) hc) (by decide)
    | 1, hb, 0, hc => exact absurd (h'.apart 1 0 b hb hc) (by decide)
    | 1, _, 1, _ => rfl
    | 1, hb, 2, hc => exact absurd (h.apart 0 1 b (h'.within 1 b hb) hc) (by decide)
    | 1, hb, 3, hc => exact absurd (h.apart 0 2 b (h'.within 1 b hb) hc) (by decide)
    | 1, hb, 4, hc => exact absurd (h.apart 0 3 b (h'.within 1 b hb) hc) (by decide)
    | 2, hb, 0, hc => exact absurd (h.apart 1 0 b hb (h'.within 0 b hc)) (by decide)
    | 2, hb, 1, hc => exact absurd (h.apart 1 0 b hb (h'.within 1 b hc)) (by decide)
    | 2, _, 2, _ => rfl
    | 2, hb, 3, hc => exact absurd (h.apart 1 2 b hb hc) (by decide)
    | 2, hb, 4, hc => exact absurd (h.apart 1 3 b hb hc) (by decide)
    | 3, hb, 0, hc => exact absurd (h.apart 2 0 b hb (h'.within 0 b hc)) (by decide)
    | 3, hb, 1, hc => exact absurd (h.apart 2 0 b hb (h'.within 1 b hc)) (by decide)
    | 3, hb, 2, hc => exact absurd (h.apart 2 1 b hb hc) (by decide)
    | 3, _, 3, _ => rfl
    | 3, hb, 4, hc => exact absurd (h.apart 2 3 b hb hc) (by decide)
    | 4, hb, 0, hc => exact absurd (h.apart 3 0 b hb (h'.within 0 b hc)) (by decide)
    | 4, hb, 1, hc => exact absurd (h.apart 3 0 b hb (h'.within 1 b hc)) (by decide)
    | 4, hb, 2, hc => exact absurd (h.apart 3 1 b hb hc) (by decide)
    | 4, hb, 3, hc => exact absurd (h.apart 3 2 b hb hc) (by decide)
    | 4, _, 4, _ => rfl
    | n + 5, hb, _, _ => exact hb.elim
    | 0, _, n + 5, hc => exact hc.elim
    | 1, _, n + 5, hc => exact hc.elim
    | 2, _, n + 5, hc => exact hc.elim
    | 3, _, n + 5, hc => exact hc.elim
    | 4, _, n + 5, hc => exact hc.elim⟩
theorem parts_in {V : Nat → Nat → Prop} {S : Nat → Prop} (h : Parts V S) : Parts (V5 (V 0) (V 1) (fun _ => False) (fun _ => False) (fun _ => False)) (fun b => V 0 b ∨ V 1 b) :=
  ⟨fun i b hb => by
    match i, hb with
    | 0, hb => exact .inl hb
    | 1, hb => exact .inr hb
    | 2, hb => exact hb.elim
    | 3, hb => exact hb.elim
    | 4, hb => exact hb.elim
    | n + 5, hb => exact hb.elim,
   fun i j b hb hc => by
    match i, hb, j, hc with
    | 0, _, 0, _ => rfl
    | 1, _, 1, _ => rfl
    | 0, hb, 1, hc => exact h.apart 0 1 b hb hc
    | 1, hb, 0, hc => exact h.apart 1 0 b hb hc
    | 2, hb, _, _ => exact hb.elim
    | 3, hb, _, _ => exact hb.elim
    | 4, hb, _, _ => exact hb.elim
    | n + 5, hb, _, _ => exact hb.elim
    | 0, _, 2, hc => exact hc.elim
    | 0, _, 3, hc => exact hc.elim
    | 0, _, 4, hc => exact hc.elim
    | 0, _, n + 5, hc => exact hc.elim
    | 1, _, 2, hc => exact hc.elim
    | 1, _, 3, hc => exact hc.elim
    | 1, _, 4, hc => exact hc.elim
    | 1, _, n + 5, hc => exact hc.elim⟩
theorem parts_out {V : Nat → Nat → Prop} {S : Nat → Prop} (h : Parts V S) : Parts (V5 (fun b => V 0 b ∨ V 1 b) (V 2) (V 3) (V 4) (fun _ => False)) S :=
  ⟨fun i b hb => by
    match i, hb with
    | 0, hb => rcases hb with hb | hb; exact h.within 0 b hb; exact h.within 1 b hb
    | 1, hb => exact h.within 2 b hb
    | 2, hb => exact h.within 3 b hb
    | 3, hb => exact h.within 4 b hb
    | 4, hb => exact hb.elim
    | n + 5, hb => exact hb.elim,
   fun i j b hb hc => by
    match i, hb, j, hc with
    | 0, _, 0, _ => rfl
    | 0, hb, 1, hc => rcases hb with hb | hb; exact absurd (h.apart 0 2 b hb hc) (by decide); exact absurd (h.apart 1 2 b hb hc) (by decide)
    | 0, hb, 2, hc => rcases hb with hb | hb; exact absurd (h.apart 0 3 b hb hc) (by decide); exact absurd (h.apart 1 3 b hb hc) (by decide)
    | 0, hb, 3, hc => rcases hb with hb | hb; exact absurd (h.apart 0 4 b hb hc) (by decide); exact absurd (h.apart 1 4 b hb hc) (by decide)
    | 1, hb, 0, hc => rcases hc with hc | hc; exact absurd (h.apart 2 0 b hb hc) (by decide); exact absurd (h.apart 2 1 b hb hc) (by decide)
    | 1, _, 1, _ => rfl
    | 1, hb, 2, hc => exact absurd (h.apart 2 3 b hb hc) (by decide)
    | 1, hb, 3, hc => exact absurd (h.apart 2 4 b hb hc) (by decide)
    | 2, hb, 0, hc => rcases hc with hc | hc; exact absurd (h.apart 3 0 b hb hc) (by decide); exact absurd (h.apart 3 1 b hb hc) (by decide)
    | 2, hb, 1, hc => exact absurd (h.apart 3 2 b hb hc) (by decide)
    | 2, _, 2, _ => rfl
    | 2, hb, 3, hc => exact absurd (h.apart 3 4 b hb hc) (by decide)
    | 3, hb, 0, hc => rcases hc with hc | hc; exact absurd (h.apart 4 0 b hb hc) (by decide); exact absurd (h.apart 4 1 b hb hc) (by decide)
    | 3, hb, 1, hc => exact absurd (h.apart 4 2 b hb hc) (by decide)
    | 3, hb, 2, hc => exact absurd (h.apart 4 3 b hb hc) (by decide)
    | 3, _, 3, _ => rfl
    | 4, hb, _, _ => exact hb.elim
    | n + 5, hb, _, _ => exact hb.elim
    | 0, _, 4, hc => exact hc.elim
    | 0, _, n + 5, hc => exact hc.elim
    | 1, _, 4, hc => exact hc.elim
    | 1, _, n + 5, hc => exact hc.elim
    | 2, _, 4, hc => exact hc.elim
    | 2, _, n + 5, hc => exact hc.elim
    | 3, _, 4, hc => exact hc.elim
    | 3, _, n + 5, hc => exact hc.elim⟩
/-- A machine of one's own, its rows side by side. -/
def VmFl (w : World) (S : Nat → Prop) (x : VmD) (cs : List Value) : Prop :=
  x.Ok ∧ ∃ V, Parts V S ∧ ∃ a_heap_tables c_heap_tables a_heap_cells c_heap_cells a_funs c_funs a_frames c_frames a_out c_out, cs = [.slice a_heap_tables x.heap.tables.length c_heap_tables, .slice a_heap_cells x.heap.cells.length c_heap_cells, .slice a_funs x.funs.length c_funs, .slice a_frames x.frames.length c_frames, .slice a_out x.out.length c_out, .int .i64 x.steps, .int .i64 x.kind, .int .i64 x.value.k, .int .i64 x.value.n, .string x.value.s] ∧ x.heap.tables.length ≤ maxLen ∧ RowD 1 PairSOwn w (V 0) x.heap.tables a_heap_tables ∧ x.heap.cells.length ≤ maxLen ∧ RowD 3 ValOwn w (V 1) x.heap.cells a_heap_cells ∧ x.funs.length ≤ maxLen ∧ RowD 2 ClosureOwn w (V 2) x.funs a_funs ∧ x.frames.length ≤ maxLen ∧ RowD 6 FrameOwn w (V 3) x.frames a_frames ∧ x.out.length ≤ maxLen ∧ RowD 1 StrOwn w (V 4) x.out a_out
theorem VmOwn.fl {w : World} {S : Nat → Prop} {x : VmD} {cs : List Value} (h : VmOwn w S x cs) : VmFl w S x cs := by
  obtain ⟨ok, V, pv, a_heap_tables, c_heap_tables, a_heap_cells, c_heap_cells, a_funs, c_funs, a_frames, c_frames, a_out, c_out, rfl, r_heap, l_funs, r_funs, l_frames, r_frames, l_out, r_out⟩ := h
  obtain ⟨eok, V', pv', e_a_tables, e_c_tables, e_a_cells, e_c_cells, he, e_l_tables, e_r_tables, e_l_cells, e_r_cells⟩ := r_heap
  simp only [List.cons.injEq, Value.slice.injEq, and_true, true_and] at he
  obtain ⟨⟨rfl, rfl⟩, ⟨rfl, rfl⟩⟩ := he
  exact ⟨ok, _, parts_flat pv pv', a_heap_tables, c_heap_tables, a_heap_cells, c_heap_cells, a_funs, c_funs, a_frames, c_frames, a_out, c_out, rfl, e_l_tables, e_r_tables, e_l_cells, e_r_cells, l_funs, r_funs, l_frames, r_frames, l_out, r_out⟩
theorem VmFl.own {w : World} {S : Nat → Prop} {x : VmD} {cs : List Value} (h : VmFl w S x cs) : VmOwn w S x cs := by
  obtain ⟨ok, V, pv, a_heap_tables, c_heap_tables, a_heap_cells, c_heap_cells, a_funs, c_funs, a_frames, c_frames, a_out, c_out, rfl, l_heap_tables, r_heap_tables, l_heap_cells, r_heap_cells, l_funs, r_funs, l_frames, r_frames, l_out, r_out⟩ := h
  exact ⟨ok, _, parts_out pv, a_heap_tables, c_heap_tables, a_heap_cells, c_heap_cells, a_funs, c_funs, a_frames, c_frames, a_out, c_out, rfl, ⟨ok.heap, _, parts_in pv, a_heap_tables, c_heap_tables, a_heap_cells, c_heap_cells, rfl, l_heap_tables, r_heap_tables, l_heap_cells, r_heap_cells⟩, l_funs, r_funs, l_frames, r_frames, l_out, r_out⟩
theorem VmFl_keeps : KeepsD VmFl := fun w w' S S' x l hs hc h => (VmOwn_keeps w w' S S' x l hs hc h.own).fl
theorem RowD.imp {α : Type} {k : Nat} {D D' : World → (Nat → Prop) → α → List Value → Prop} (hD : ∀ w S x l, D w S x l → D' w S x l) {w : World} {S : Nat → Prop} {xs : List α} {a : Option Addr} (h : RowD k D w S xs a) : RowD k D' w S xs a := by
  rcases h with h | ⟨g, cs, T, h1, h2, h3, h4, U, h5, h6⟩
  · exact .inl h
  · exact .inr ⟨g, cs, T, h1, h2, h3, h4, U, h5, fun i hi => by obtain ⟨l, h7, h8, h9⟩ := h6 i hi; exact ⟨l, hD _ _ _ _ h7, h8, h9⟩⟩
def Vmmn (x : VmD) : Nat := mnR PairSmn x.heap.tables + 3 * x.heap.cells.length + mnR Closuremn x.funs + mnR Framemn x.frames + 1 * x.out.length + 1 + 1 + 1 + 1 + 1
def Vmmd (K : Nat) (x : VmD) : VmD := ⟨⟨mkR PairSmd PairSmn (K) x.heap.tables, mkF Valuemk 3 (K + mnR PairSmn x.heap.tables) x.heap.cells.length⟩, mkR Closuremd Closuremn (K + mnR PairSmn x.heap.tables + 3 * x.heap.cells.length) x.funs, mkR Framemd Framemn (K + mnR PairSmn x.heap.tables + 3 * x.heap.cells.length + mnR Closuremn x.funs) x.frames, mkF Stringmk 1 (K + mnR PairSmn x.heap.tables + 3 * x.heap.cells.length + mnR Closuremn x.funs + mnR Framemn x.frames) x.out.length, ((K + mnR PairSmn x.heap.tables + 3 * x.heap.cells.length + mnR Closuremn x.funs + mnR Framemn x.frames + 1 * x.out.length : Nat) : Int), ((K + mnR PairSmn x.heap.tables + 3 * x.heap.cells.length + mnR Closuremn x.funs + mnR Framemn x.frames + 1 * x.out.length + 1 : Nat) : Int), ⟨((K + mnR PairSmn x.heap.tables + 3 * x.heap.cells.length + mnR Closuremn x.funs + mnR Framemn x.frames + 1 * x.out.length + 1 + 1 : Nat) : Int), ((K + mnR PairSmn x.heap.tables + 3 * x.heap.cells.length + mnR Closuremn x.funs + mnR Framemn x.frames + 1 * x.out.length + 1 + 1 + 1 : Nat) : Int), ⟨(markB (K + mnR PairSmn x.heap.tables + 3 * x.heap.cells.length + mnR Closuremn x.funs + mnR Framemn x.frames + 1 * x.out.length + 1 + 1 + 1 + 1)).toArray⟩⟩⟩
theorem Vmmd_fl (x : VmD) (N : Nat) (a_heap_tables : Option Addr) (c_heap_tables : Nat) (a_heap_cells : Option Addr) (c_heap_cells : Nat) (a_funs : Option Addr) (c_funs : Nat) (a_frames : Option Addr) (c_frames : Nat) (a_out : Option Addr) (c_out : Nat) (V : Nat → Nat → Prop) (S : Nat → Prop) (w : World) (pv : Parts V S) (l_heap_tables : x.heap.tables.length ≤ maxLen) (r_heap_tables : RowD 1 PairSOwn w (V 0) (mkR PairSmd PairSmn (N) x.heap.tables) a_heap_tables) (l_heap_cells : x.heap.cells.length ≤ maxLen) (r_heap_cells : RowD 3 ValOwn w (V 1) (mkF Valuemk 3 (N + mnR PairSmn x.heap.tables) x.heap.cells.length) a_heap_cells) (l_funs : x.funs.length ≤ maxLen) (r_funs : RowD 2 ClosureOwn w (V 2) (mkR Closuremd Closuremn (N + mnR PairSmn x.heap.tables + 3 * x.heap.cells.length) x.funs) a_funs) (l_frames : x.frames.length ≤ maxLen) (r_frames : RowD 6 FrameOwn w (V 3) (mkR Framemd Framemn (N + mnR PairSmn x.heap.tables + 3 * x.heap.cells.length + mnR Closuremn x.funs) x.frames) a_frames) (l_out : x.out.length ≤ maxLen) (r_out : RowD 1 StrOwn w (V 4) (mkF Stringmk 1 (N + mnR PairSmn x.heap.tables + 3 * x.heap.cells.length + mnR Closuremn x.funs + mnR Framemn x.frames) x.out.length) a_out) (h : N + Vmmn x ≤ 1099511627776) : VmFl w S (Vmmd N x) [.slice a_heap_tables x.heap.tables.length c_heap_tables, .slice a_heap_cells x.heap.cells.length c_heap_cells, .slice a_funs x.funs.length c_funs, .slice a_frames x.frames.length c_frames, .slice a_out x.out.length c_out, .int .i64 ((N + mnR PairSmn x.heap.tables + 3 * x.heap.cells.length + mnR Closuremn x.funs + mnR Framemn x.frames + 1 * x.out.length : Nat) : Int), .int .i64 ((N + mnR PairSmn x.heap.tables + 3 * x.heap.cells.length + mnR Closuremn x.funs + mnR Framemn x.frames + 1 * x.out.length + 1 : Nat) : Int), .int .i64 ((N + mnR PairSmn x.heap.tables + 3 * x.heap.cells.length + mnR Closuremn x.funs + mnR Framemn x.frames + 1 * x.out.length + 1 + 1 : Nat) : Int), .int .i64 ((N + mnR PairSmn x.heap.tables + 3 * x.heap.cells.length + mnR Closuremn x.funs + mnR Framemn x.frames + 1 * x.out.length + 1 + 1 + 1 : Nat) : Int), .string ⟨(markB (N + mnR PairSmn x.heap.tables + 3 * x.heap.cells.length + mnR Closuremn x.funs + mnR Framemn x.frames + 1 * x.out.length + 1 + 1 + 1 + 1)).toArray⟩] := by
  unfold Vmmn at h
  have h_heap_tables : (Vmmd N x).heap.tables.length = x.heap.tables.length := mkR_len _ _ _ _
  have h_heap_cells : (Vmmd N x).heap.cells.length = x.heap.cells.length := mkF_len _ _ _ _
  have h_funs : (Vmmd N x).funs.length = x.funs.length := mkR_len _ _ _ _
  have h_frames : (Vmmd N x).frames.length = x.frames.length := mkR_len _ _ _ _
  have h_out : (Vmmd N x).out.length = x.out.length := mkF_len _ _ _ _
  exact ⟨⟨⟨(by rw [h_heap_tables]; exact l_heap_tables), (by rw [h_heap_cells]; exact l_heap_cells)⟩, (by rw [h_funs]; exact l_funs), (by rw [h_frames]; exact l_frames), (by rw [h_out]; exact l_out), ⟨by simp only [Vmmd]; omega, by simp only [Vmmd]; omega⟩, ⟨by simp only [Vmmd]; omega, by simp only [Vmmd]; omega⟩, ⟨⟨by simp only [Vmmd]; omega, by simp only [Vmmd]; omega, by simp only [Vmmd]; omega, by simp only [Vmmd]; omega, mark_ok _ (by omega)⟩⟩⟩, V, pv, a_heap_tables, c_heap_tables, a_heap_cells, c_heap_cells, a_funs, c_funs, a_frames, c_frames, a_out, c_out, by rw [h_heap_tables, h_heap_cells, h_funs, h_frames, h_out]; rfl, (by rw [h_heap_tables]; exact l_heap_tables), r_heap_tables, (by rw [h_heap_cells]; exact l_heap_cells), r_heap_cells, (by rw [h_funs]; exact l_funs), r_funs, (by rw [h_frames]; exact l_frames), r_frames, (by rw [h_out]; exact l_out), r_out⟩
set_option maxRecDepth 100000 in
set_option maxHeartbeats 4000000 in
theorem mkVmS_none (b : Option Addr) (cap K : Nat) (w : World) :
    Calls Try.prog 68 #[.slice b 0 cap, .int .i64 (K : Int)] w fun e w' => e = .returned (.int .i64 (K : Int)) ∧ w = w' := by
  go_enter Try.func68, Try.ntmps68
  go_wp2_with fail
  refine wp_loop_rounds 1 ?_
  rw [rounds_succ]
  go_wp2_with fail
  go_ret
  exact ⟨rfl, rfl⟩
set_option maxRecDepth 100000 in
set_option maxHeartbeats 4000000 in
theorem mkVmS_fl (xs : List VmD) (a : Option Addr) (cap K : Nat) (z : Int) (S : Nat → Prop) (w : World) (hS : ∀ b, S b → b < w.heap.size) (hR : RowD 10 VmFl w S xs a) (hz : z = K) (hK : 0 < K) (hn : K + mnR Vmmn xs ≤ 1099511627776) (hl : xs.length ≤ maxLen) :
    Calls Try.prog 68 #[.slice a xs.length cap, .int .i64 z] w fun e w' => e = .returned (.int .i64 ((K + mnR Vmmn xs : Nat) : Int)) ∧ RowD 10 VmFl w' S (mkR Vmmd Vmmn K xs) a ∧ Outs S w w' := by
  subst hz
  rcases hR with rfl | ⟨g, cs0, T, rfl, h2, h3, h4, U, h5, h6⟩
  · refine (mkVmS_none a cap K w).mono ?_
    rintro e w' ⟨rfl, rfl⟩
    exact ⟨by simp [mnR], .inl rfl, Outs.refl _ _⟩
  · unfold maxLen at hl
    have hgS := hS g h2
    go_enter Try.func68, Try.ntmps68
    go_wp2_with fail
    go_loopw [1, 5] (fun kk a wr => ∃ (i : Nat) (cs : Array Value), kk = .int .i64 ((K + mnR Vmmn (xs.take i) : Nat) : Int) ∧ a = .int .i64 i ∧ i ≤ xs.length ∧ Outs S w wr ∧ wr.heap[g]? = some (.cells cs T (0, 0)) ∧ cs.size = cs0.size ∧ (∀ m (h : m < xs.length), m < i → ∃ l, VmFl wr (U m) (Vmmd (K + mnR Vmmn (xs.take m)) xs[m]) l ∧ l.length = 10 ∧ ∀ j, j < 10 → cs[10 * m + j]? = l[j]?) ∧ (∀ m (h : m < xs.length), i ≤ m → ∃ l, VmFl wr (U m) xs[m] l ∧ l.length = 10 ∧ ∀ j, j < 10 → cs[10 * m + j]? = l[j]?)) (fun _ a _ => xs.length - (intOf a).toNat)
    case atStart => exact ⟨0, cs0, by simp [mnR], rfl, Nat.zero_le _, Outs.refl _ _, h3, rfl, fun m _ hm => absurd hm (Nat.not_lt_zero _), fun m h _ => h6 m h⟩
    case round =>
      rename World => wo
      obtain ⟨i, cs, rfl, rfl, hi, hby, hrow, hcs, hd, ht⟩ := hrel
      by_cases hlt : i < xs.length
      · obtain ⟨l, hO, _, hcell⟩ := ht i hlt (Nat.le_refl _)
        have ho := mnR_take Vmmn xs i hlt
        have hol := mnR_take_le Vmmn xs (i + 1)
        have hsz := hby.size
        have HD : Hid (∀ m (h : m < xs.length), m < i → ∃ l, VmFl wo (U m) (Vmmd (K + mnR Vmmn (xs.take m)) xs[m]) l ∧ l.length = 10 ∧ ∀ j, j < 10 → cs[10 * m + j]? = l[j]?) := hd
        have HT : Hid (∀ m (h : m < xs.length), i ≤ m → ∃ l, VmFl wo (U m) xs[m] l ∧ l.length = 10 ∧ ∀ j, j < 10 → cs[10 * m + j]? = l[j]?) := ht
        have HBY : Hid (Outs S w wo) := hby
        have HH5 : Hid (Parts U (fun b => S b ∧ b ≠ g)) := h5
        have HSS : Hid (∀ b, S b → b < w.heap.size) := hS
        have HG : Hid (S g) := h2
        have HU : Hid (∀ b, U i b → S b ∧ b ≠ g) := h5.within i
        clear hd ht hby h5 h6 hS h2
        obtain ⟨x, hx⟩ : ∃ x, x = xs[i] := ⟨_, rfl⟩
        rw [← hx] at hO ho
        have HX : Hid (x = xs[i]) := hx
        obtain ⟨N, hN⟩ : ∃ N, N = K + mnR Vmmn (xs.take i) := ⟨_, rfl⟩
        have HN : Hid (N = K + mnR Vmmn (xs.take i)) := hN
        have HNO : Hid (K + mnR Vmmn (xs.take (i + 1)) = N + Vmmn x) := by show _ = _; omega
        have hN0 : 0 < N := by omega
        have hN1 : N + Vmmn x ≤ 1099511627776 := by omega
        rw [← hN]
        clear hx hN ho hol
        have hN2 := hN1
        unfold Vmmn at hN2
        obtain ⟨ok, V, pv, a_heap_tables, c_heap_tables, a_heap_cells, c_heap_cells, a_funs, c_funs, a_frames, c_frames, a_out, c_out, rfl, l_heap_tables, r_heap_tables, l_heap_cells, r_heap_cells, l_funs, r_funs, l_frames, r_frames, l_out, r_out⟩ := hO
        have c0 := hcell 0 (by decide)
        have c1 := hcell 1 (by decide)
        have c2 := hcell 2 (by decide)
        have c3 := hcell 3 (by decide)
        have c4 := hcell 4 (by decide)
        have c5 := hcell 5 (by decide)
        have c6 := hcell 6 (by decide)
        have c7 := hcell 7 (by decide)
        have c8 := hcell 8 (by decide)
        have c9 := hcell 9 (by decide)
        simp only [List.getElem?_cons_zero, List.getElem?_cons_succ] at c0 c1 c2 c3 c4 c5 c6 c7 c8 c9
        clear hcell
        rw [Nat.add_zero] at c0
        have mW : i * 10 = 10 * i := Nat.mul_comm _ _
        have R0 : Hid (wo.heap[g]? = some (.cells cs T (0, 0))) := hrow
        have z0 := hcs
        have O0 : Outs (fun b => b = g ∨ U i b) wo wo := Outs.refl _ _
        have s0 : wo.heap.size ≤ wo.heap.size := Nat.le_refl _
        have f0 := frozen_of_row wo g (10 * i) _ _ R0.out
        have e0 := (cell_of_row wo g (10 * i) _ _ (0, 0) R0.out).trans c0
        have f1 := frozen_of_row wo g (10 * i + 1) _ _ R0.out
        have e1 := (cell_of_row wo g (10 * i + 1) _ _ (0, 0) R0.out).trans c1
        have f2 := frozen_of_row wo g (10 * i + 2) _ _ R0.out
        have e2 := (cell_of_row wo g (10 * i + 2) _ _ (0, 0) R0.out).trans c2
        have f3 := frozen_of_row wo g (10 * i + 3) _ _ R0.out
        have e3 := (cell_of_row wo g (10 * i + 3) _ _ (0, 0) R0.out).trans c3
        have f4 := frozen_of_row wo g (10 * i + 4) _ _ R0.out
        have e4 := (cell_of_row wo g (10 * i + 4) _ _ (0, 0) R0.out).trans c4
        have f5 := frozen_of_row wo g (10 * i + 5) _ _ R0.out
        have e5 := (cell_of_row wo g (10 * i + 5) _ _ (0, 0) R0.out).trans c5
        have f6 := frozen_of_row wo g (10 * i + 6) _ _ R0.out
        have e6 := (cell_of_row wo g (10 * i + 6) _ _ (0, 0) R0.out).trans c6
        have f7 := frozen_of_row wo g (10 * i + 7) _ _ R0.out
        have e7 := (cell_of_row wo g (10 * i + 7) _ _ (0, 0) R0.out).trans c7
        have f8 := frozen_of_row wo g (10 * i + 8) _ _ R0.out
        have e8 := (cell_of_row wo g (10 * i + 8) _ _ (0, 0) R0.out).trans c8
        have f9 := frozen_of_row wo g (10 * i + 9) _ _ R0.out
        have e9 := (cell_of_row wo g (10 * i + 9) _ _ (0, 0) R0.out).trans c9
        clear hrow
        go_wp2_with fail
        have hgs : g < wo.heap.size := (Array.getElem?_eq_some_iff.1 R0.out).1
        refine (mkPairSS_any x.heap.tables a_heap_tables c_heap_tables (N) _ _ _ (fun b hb => by have := HSS.out b (HU.out b (pv.within 0 b hb)).1; omega) r_heap_tables (by push_cast; omega) (by omega) (by omega) l_heap_tables).mono ?_
        rintro e w1 ⟨rfl, rN, oN⟩
        have hgv : ¬ ((fun b => V 0 b) g) := fun hc => (HU.out g (pv.within 0 g hc)).2 rfl
        have r1 := (oN.block g (by omega) hgv).trans R0.out
        have O1 : Outs (fun b => b = g ∨ U i b) wo w1 := O0.trans (oN.wide fun b hb => .inr (pv.within 0 b hb))
        have s1 : wo.heap.size ≤ w1.heap.size := O1.size
        have r_heap_cells := r_heap_cells.later ValOwn_keeps (fun _ h => h) (fun b hb => oN.block b (by have := HSS.out b (HU.out b (pv.within 1 b hb)).1; omega) (fun hc => by have := pv.apart 1 0 b hb hc; omega))
        have r_funs := r_funs.later ClosureOwn_keeps (fun _ h => h) (fun b hb => oN.block b (by have := HSS.out b (HU.out b (pv.within 2 b hb)).1; omega) (fun hc => by have := pv.apart 2 0 b hb hc; omega))
        have r_frames := r_frames.later FrameOwn_keeps (fun _ h => h) (fun b hb => oN.block b (by have := HSS.out b (HU.out b (pv.within 3 b hb)).1; omega) (fun hc => by have := pv.apart 3 0 b hb hc; omega))
        have r_out := r_out.later StrOwn_keeps (fun _ h => h) (fun b hb => oN.block b (by have := HSS.out b (HU.out b (pv.within 4 b hb)).1; omega) (fun hc => by have := pv.apart 4 0 b hb hc; omega))
        have r_heap_tables := rN
        obtain ⟨cs1, R1, P1, z1, c0, c1, c2, c3, c4, c5, c6, c7, c8, c9⟩ : ∃ y : Array Value, Hid (w1.heap[g]? = some (.cells y T (0, 0))) ∧ Hid (∀ p, (p < 10 * i ∨ 10 * i + 10 ≤ p) → y[p]? = cs[p]?) ∧ y.size = cs0.size ∧ y[10 * i]? = some (.slice a_heap_tables x.heap.tables.length c_heap_tables) ∧ y[10 * i + 1]? = some (.slice a_heap_cells x.heap.cells.length c_heap_cells) ∧ y[10 * i + 2]? = some (.slice a_funs x.funs.length c_funs) ∧ y[10 * i + 3]? = some (.slice a_frames x.frames.length c_frames) ∧ y[10 * i + 4]? = some (.slice a_out x.out.length c_out) ∧ y[10 * i + 5]? = some (.int .i64 x.steps) ∧ y[10 * i + 6]? = some (.int .i64 x.kind) ∧ y[10 * i + 7]? = some (.int .i64 x.value.k) ∧ y[10 * i + 8]? = some (.int .i64 x.value.n) ∧ y[10 * i + 9]? = some (.string x.value.s) := ⟨_, r1, fun p hp => rfl, z0, c0, c1, c2, c3, c4, c5, c6, c7, c8, c9⟩
        clear r1 hgs hgv rN oN e0 f0 e1 f1 e2 f2 e3 f3 e4 f4 e5 f5 e6 f6 e7 f7 e8 f8 e9 f9
        have f0 := frozen_of_row w1 g (10 * i) _ _ R1.out
        have e0 := (cell_of_row w1 g (10 * i) _ _ (0, 0) R1.out).trans c0
        have f1 := frozen_of_row w1 g (10 * i + 1) _ _ R1.out
        have e1 := (cell_of_row w1 g (10 * i + 1) _ _ (0, 0) R1.out).trans c1
        have f2 := frozen_of_row w1 g (10 * i + 2) _ _ R1.out
        have e2 := (cell_of_row w1 g (10 * i + 2) _ _ (0, 0) R1.out).trans c2
        have f3 := frozen_of_row w1 g (10 * i + 3) _ _ R1.out
        have e3 := (cell_of_row w1 g (10 * i + 3) _ _ (0, 0) R1.out).trans c3
        have f4 := frozen_of_row w1 g (10 * i + 4) _ _ R1.out
        have e4 := (cell_of_row w1 g (10 * i + 4) _ _ (0, 0) R1.out).trans c4
        have f5 := frozen_of_row w1 g (10 * i + 5) _ _ R1.out
        have e5 := (cell_of_row w1 g (10 * i + 5) _ _ (0, 0) R1.out).trans c5
        have f6 := frozen_of_row w1 g (10 * i + 6) _ _ R1.out
        have e6 := (cell_of_row w1 g (10 * i + 6) _ _ (0, 0) R1.out).trans c6
        have f7 := frozen_of_row w1 g (10 * i + 7) _ _ R1.out
        have e7 := (cell_of_row w1 g (10 * i + 7) _ _ (0, 0) R1.out).trans c7
        have f8 := frozen_of_row w1 g (10 * i + 8) _ _ R1.out
        have e8 := (cell_of_row w1 g (10 * i + 8) _ _ (0, 0) R1.out).trans c8
        have f9 := frozen_of_row w1 g (10 * i + 9) _ _ R1.out
        have e9 := (cell_of_row w1 g (10 * i + 9) _ _ (0, 0) R1.out).trans c9
        go_wp2_with fail
        have hgs : g < w1.heap.size := (Array.getElem?_eq_some_iff.1 R1.out).1
        refine (mkValueS_any x.heap.cells a_heap_cells c_heap_cells (N + mnR PairSmn x.heap.tables) _ _ _ r_heap_cells (by push_cast; omega) (by omega) (by omega)).mono ?_
        rintro e w2 ⟨rfl, rN, oN⟩
        have hgv : ¬ ((fun b => V 1 b) g) := fun hc => (HU.out g (pv.within 1 g hc)).2 rfl
        have r2 := (oN.block g (by omega) hgv).trans R1.out
        have O2 : Outs (fun b => b = g ∨ U i b) wo w2 := O1.trans (oN.wide fun b hb => .inr (pv.within 1 b hb))
        have s2 : wo.heap.size ≤ w2.heap.size := O2.size
        have r_heap_tables := r_heap_tables.later PairSOwn_keeps (fun _ h => h) (fun b hb => oN.block b (by have := HSS.out b (HU.out b (pv.within 0 b hb)).1; omega) (fun hc => by have := pv.apart 0 1 b hb hc; omega))
        have r_funs := r_funs.later ClosureOwn_keeps (fun _ h => h) (fun b hb => oN.block b (by have := HSS.out b (HU.out b (pv.within 2 b hb)).1; omega) (fun hc => by have := pv.apart 2 1 b hb hc; omega))
        have r_frames := r_frames.later FrameOwn_keeps (fun _ h => h) (fun b hb => oN.block b (by have := HSS.out b (HU.out b (pv.within 3 b hb)).1; omega) (fun hc => by have := pv.apart 3 1 b hb hc; omega))
        have r_out := r_out.later StrOwn_keeps (fun _ h => h) (fun b hb => oN.block b (by have := HSS.out b (HU.out b (pv.within 4 b hb)).1; omega) (fun hc => by have := pv.apart 4 1 b hb hc; omega))
        have r_heap_cells := rN
        obtain ⟨cs2, R2, P2, z2, c0, c1, c2, c3, c4, c5, c6, c7, c8, c9⟩ : ∃ y : Array Value, Hid (w2.heap[g]? = some (.cells y T (0, 0))) ∧ Hid (∀ p, (p < 10 * i ∨ 10 * i + 10 ≤ p) → y[p]? = cs[p]?) ∧ y.size = cs0.size ∧ y[10 * i]? = some (.slice a_heap_tables x.heap.tables.length c_heap_tables) ∧ y[10 * i + 1]? = some (.slice a_heap_cells x.heap.cells.length c_heap_cells) ∧ y[10 * i + 2]? = some (.slice a_funs x.funs.length c_funs) ∧ y[10 * i + 3]? = some (.slice a_frames x.frames.length c_frames) ∧ y[10 * i + 4]? = some (.slice a_out x.out.length c_out) ∧ y[10 * i + 5]? = some (.int .i64 x.steps) ∧ y[10 * i + 6]? = some (.int .i64 x.kind) ∧ y[10 * i + 7]? = some (.int .i64 x.value.k) ∧ y[10 * i + 8]? = some (.int .i64 x.value.n) ∧ y[10 * i + 9]? = some (.string x.value.s) := ⟨_, r2, fun p hp => P1.out p hp, z1, c0, c1, c2, c3, c4, c5, c6, c7, c8, c9⟩
        clear r2 hgs hgv rN oN e0 f0 e1 f1 e2 f2 e3 f3 e4 f4 e5 f5 e6 f6 e7 f7 e8 f8 e9 f9
        have f0 := frozen_of_row w2 g (10 * i) _ _ R2.out
        have e0 := (cell_of_row w2 g (10 * i) _ _ (0, 0) R2.out).trans c0
        have f1 := frozen_of_row w2 g (10 * i + 1) _ _ R2.out
        have e1 := (cell_of_row w2 g (10 * i + 1) _ _ (0, 0) R2.out).trans c1
        have f2 := frozen_of_row w2 g (10 * i + 2) _ _ R2.out
        have e2 := (cell_of_row w2 g (10 * i + 2) _ _ (0, 0) R2.out).trans c2
        have f3 := frozen_of_row w2 g (10 * i + 3) _ _ R2.out
        have e3 := (cell_of_row w2 g (10 * i + 3) _ _ (0, 0) R2.out).trans c3
        have f4 := frozen_of_row w2 g (10 * i + 4) _ _ R2.out
        have e4 := (cell_of_row w2 g (10 * i + 4) _ _ (0, 0) R2.out).trans c4
        have f5 := frozen_of_row w2 g (10 * i + 5) _ _ R2.out
        have e5 := (cell_of_row w2 g (10 * i + 5) _ _ (0, 0) R2.out).trans c5
        have f6 := frozen_of_row w2 g (10 * i + 6) _ _ R2.out
        have e6 := (cell_of_row w2 g (10 * i + 6) _ _ (0, 0) R2.out).trans c6
        have f7 := frozen_of_row w2 g (10 * i + 7) _ _ R2.out
        have e7 := (cell_of_row w2 g (10 * i + 7) _ _ (0, 0) R2.out).trans c7
        have f8 := frozen_of_row w2 g (10 * i + 8) _ _ R2.out
        have e8 := (cell_of_row w2 g (10 * i + 8) _ _ (0, 0) R2.out).trans c8
        have f9 := frozen_of_row w2 g (10 * i + 9) _ _ R2.out
        have e9 := (cell_of_row w2 g (10 * i + 9) _ _ (0, 0) R2.out).trans c9
        go_wp2_with fail
        have hgs : g < w2.heap.size := (Array.getElem?_eq_some_iff.1 R2.out).1
        refine (mkClosureS_any x.funs a_funs c_funs (N + mnR PairSmn x.heap.tables + 3 * x.heap.cells.length) _ _ _ (fun b hb => by have := HSS.out b (HU.out b (pv.within 2 b hb)).1; omega) r_funs (by push_cast; omega) (by omega) (by omega) l_funs).mono ?_
        rintro e w3 ⟨rfl, rN, oN⟩
        have hgv : ¬ ((fun b => V 2 b) g) := fun hc => (HU.out g (pv.within 2 g hc)).2 rfl
        have r3 := (oN.block g (by omega) hgv).trans R2.out
        have O3 : Outs (fun b => b = g ∨ U i b) wo w3 := O2.trans (oN.wide fun b hb => .inr (pv.within 2 b hb))
        have s3 : wo.heap.size ≤ w3.heap.size := O3.size
        have r_heap_tables := r_heap_tables.later PairSOwn_keeps (fun _ h => h) (fun b hb => oN.block b (by have := HSS.out b (HU.out b (pv.within 0 b hb)).1; omega) (fun hc => by have := pv.apart 0 2 b hb hc; omega))
        have r_heap_cells := r_heap_cells.later ValOwn_keeps (fun _ h => h) (fun b hb => oN.block b (by have := HSS.out b (HU.out b (pv.within 1 b hb)).1; omega) (fun hc => by have := pv.apart 1 2 b hb hc; omega))
        have r_frames := r_frames.later FrameOwn_keeps (fun _ h => h) (fun b hb => oN.block b (by have := HSS.out b (HU.out b (pv.within 3 b hb)).1; omega) (fun hc => by have := pv.apart 3 2 b hb hc; omega))
        have r_out := r_out.later StrOwn_keeps (fun _ h => h) (fun b hb => oN.block b (by have := HSS.out b (HU.out b (pv.within 4 b hb)).1; omega) (fun hc => by have := pv.apart 4 2 b hb hc; omega))
        have r_funs := rN
        obtain ⟨cs3, R3, P3, z3, c0, c1, c2, c3, c4, c5, c6, c7, c8, c9⟩ : ∃ y : Array Value, Hid (w3.heap[g]? = some (.cells y T (0, 0))) ∧ Hid (∀ p, (p < 10 * i ∨ 10 * i + 10 ≤ p) → y[p]? = cs[p]?) ∧ y.size = cs0.size ∧ y[10 * i]? = some (.slice a_heap_tables x.heap.tables.length c_heap_tables) ∧ y[10 * i + 1]? = some (.slice a_heap_cells x.heap.cells.length c_heap_cells) ∧ y[10 * i + 2]? = some (.slice a_funs x.funs.length c_funs) ∧ y[10 * i + 3]? = some (.slice a_frames x.frames.length c_frames) ∧ y[10 * i + 4]? = some (.slice a_out x.out.length c_out) ∧ y[10 * i + 5]? = some (.int .i64 x.steps) ∧ y[10 * i + 6]? = some (.int .i64 x.kind) ∧ y[10 * i + 7]? = some (.int .i64 x.value.k) ∧ y[10 * i + 8]? = some (.int .i64 x.value.n) ∧ y[10 * i + 9]? = some (.string x.value.s) := ⟨_, r3, fun p hp => P2.out p hp, z2, c0, c1, c2, c3, c4, c5, c6, c7, c8, c9⟩
        clear r3 hgs hgv rN oN e0 f0 e1 f1 e2 f2 e3 f3 e4 f4 e5 f5 e6 f6 e7 f7 e8 f8 e9 f9
        have f0 := frozen_of_row w3 g (10 * i) _ _ R3.out
        have e0 := (cell_of_row w3 g (10 * i) _ _ (0, 0) R3.out).trans c0
        have f1 := frozen_of_row w3 g (10 * i + 1) _ _ R3.out
        have e1 := (cell_of_row w3 g (10 * i + 1) _ _ (0, 0) R3.out).trans c1
        have f2 := frozen_of_row w3 g (10 * i + 2) _ _ R3.out
        have e2 := (cell_of_row w3 g (10 * i + 2) _ _ (0, 0) R3.out).trans c2
        have f3 := frozen_of_row w3 g (10 * i + 3) _ _ R3.out
        have e3 := (cell_of_row w3 g (10 * i + 3) _ _ (0, 0) R3.out).trans c3
        have f4 := frozen_of_row w3 g (10 * i + 4) _ _ R3.out
        have e4 := (cell_of_row w3 g (10 * i + 4) _ _ (0, 0) R3.out).trans c4
        have f5 := frozen_of_row w3 g (10 * i + 5) _ _ R3.out
        have e5 := (cell_of_row w3 g (10 * i + 5) _ _ (0, 0) R3.out).trans c5
        have f6 := frozen_of_row w3 g (10 * i + 6) _ _ R3.out
        have e6 := (cell_of_row w3 g (10 * i + 6) _ _ (0, 0) R3.out).trans c6
        have f7 := frozen_of_row w3 g (10 * i + 7) _ _ R3.out
        have e7 := (cell_of_row w3 g (10 * i + 7) _ _ (0, 0) R3.out).trans c7
        have f8 := frozen_of_row w3 g (10 * i + 8) _ _ R3.out
        have e8 := (cell_of_row w3 g (10 * i + 8) _ _ (0, 0) R3.out).trans c8
        have f9 := frozen_of_row w3 g (10 * i + 9) _ _ R3.out
        have e9 := (cell_of_row w3 g (10 * i + 9) _ _ (0, 0) R3.out).trans c9
        go_wp2_with fail
        have hgs : g < w3.heap.size := (Array.getElem?_eq_some_iff.1 R3.out).1
        refine (mkFrameS_any x.frames a_frames c_frames (N + mnR PairSmn x.heap.tables + 3 * x.heap.cells.length + mnR Closuremn x.funs) _ _ _ (fun b hb => by have := HSS.out b (HU.out b (pv.within 3 b hb)).1; omega) r_frames (by push_cast; omega) (by omega) (by omega) l_frames).mono ?_
        rintro e w4 ⟨rfl, rN, oN⟩
        have hgv : ¬ ((fun b => V 3 b) g) := fun hc => (HU.out g (pv.within 3 g hc)).2 rfl
        have r4 := (oN.block g (by omega) hgv).trans R3.out
        have O4 : Outs (fun b => b = g ∨ U i b) wo w4 := O3.trans (oN.wide fun b hb => .inr (pv.within 3 b hb))
        have s4 : wo.heap.size ≤ w4.heap.size := O4.size
        have r_heap_tables := r_heap_tables.later PairSOwn_keeps (fun _ h => h) (fun b hb => oN.block b (by have := HSS.out b (HU.out b (pv.within 0 b hb)).1; omega) (fun hc => by have := pv.apart 0 3 b hb hc; omega))
        have r_heap_cells := r_heap_cells.later ValOwn_keeps (fun _ h => h) (fun b hb => oN.block b (by have := HSS.out b (HU.out b (pv.within 1 b hb)).1; omega) (fun hc => by have := pv.apart 1 3 b hb hc; omega))
        have r_funs := r_funs.later ClosureOwn_keeps (fun _ h => h) (fun b hb => oN.block b (by have := HSS.out b (HU.out b (pv.within 2 b hb)).1; omega) (fun hc => by have := pv.apart 2 3 b hb hc; omega))
        have r_out := r_out.later StrOwn_keeps (fun _ h => h) (fun b hb => oN.block b (by have := HSS.out b (HU.out b (pv.within 4 b hb)).1; omega) (fun hc => by have := pv.apart 4 3 b hb hc; omega))
        have r_frames := rN
        obtain ⟨cs4, R4, P4, z4, c0, c1, c2, c3, c4, c5, c6, c7, c8, c9⟩ : ∃ y : Array Value, Hid (w4.heap[g]? = some (.cells y T (0, 0))) ∧ Hid (∀ p, (p < 10 * i ∨ 10 * i + 10 ≤ p) → y[p]? = cs[p]?) ∧ y.size = cs0.size ∧ y[10 * i]? = some (.slice a_heap_tables x.heap.tables.length c_heap_tables) ∧ y[10 * i + 1]? = some (.slice a_heap_cells x.heap.cells.length c_heap_cells) ∧ y[10 * i + 2]? = some (.slice a_funs x.funs.length c_funs) ∧ y[10 * i + 3]? = some (.slice a_frames x.frames.length c_frames) ∧ y[10 * i + 4]? = some (.slice a_out x.out.length c_out) ∧ y[10 * i + 5]? = some (.int .i64 x.steps) ∧ y[10 * i + 6]? = some (.int .i64 x.kind) ∧ y[10 * i + 7]? = some (.int .i64 x.value.k) ∧ y[10 * i + 8]? = some (.int .i64 x.value.n) ∧ y[10 * i + 9]? = some (.string x.value.s) := ⟨_, r4, fun p hp => P3.out p hp, z3, c0, c1, c2, c3, c4, c5, c6, c7, c8, c9⟩
        clear r4 hgs hgv rN oN e0 f0 e1 f1 e2 f2 e3 f3 e4 f4 e5 f5 e6 f6 e7 f7 e8 f8 e9 f9
        have f0 := frozen_of_row w4 g (10 * i) _ _ R4.out
        have e0 := (cell_of_row w4 g (10 * i) _ _ (0, 0) R4.out).trans c0
        have f1 := frozen_of_row w4 g (10 * i + 1) _ _ R4.out
        have e1 := (cell_of_row w4 g (10 * i + 1) _ _ (0, 0) R4.out).trans c1
        have f2 := frozen_of_row w4 g (10 * i + 2) _ _ R4.out
        have e2 := (cell_of_row w4 g (10 * i + 2) _ _ (0, 0) R4.out).trans c2
        have f3 := frozen_of_row w4 g (10 * i + 3) _ _ R4.out
        have e3 := (cell_of_row w4 g (10 * i + 3) _ _ (0, 0) R4.out).trans c3
        have f4 := frozen_of_row w4 g (10 * i + 4) _ _ R4.out
        have e4 := (cell_of_row w4 g (10 * i + 4) _ _ (0, 0) R4.out).trans c4
        have f5 := frozen_of_row w4 g (10 * i + 5) _ _ R4.out
        have e5 := (cell_of_row w4 g (10 * i + 5) _ _ (0, 0) R4.out).trans c5
        have f6 := frozen_of_row w4 g (10 * i + 6) _ _ R4.out
        have e6 := (cell_of_row w4 g (10 * i + 6) _ _ (0, 0) R4.out).trans c6
        have f7 := frozen_of_row w4 g (10 * i + 7) _ _ R4.out
        have e7 := (cell_of_row w4 g (10 * i + 7) _ _ (0, 0) R4.out).trans c7
        have f8 := frozen_of_row w4 g (10 * i + 8) _ _ R4.out
        have e8 := (cell_of_row w4 g (10 * i + 8) _ _ (0, 0) R4.out).trans c8
        have f9 := frozen_of_row w4 g (10 * i + 9) _ _ R4.out
        have e9 := (cell_of_row w4 g (10 * i + 9) _ _ (0, 0) R4.out).trans c9
        go_wp2_with fail
        have hgs : g < w4.heap.size := (Array.getElem?_eq_some_iff.1 R4.out).1
        refine (mkStringS_any x.out a_out c_out (N + mnR PairSmn x.heap.tables + 3 * x.heap.cells.length + mnR Closuremn x.funs + mnR Framemn x.frames) _ _ _ r_out (by push_cast; omega) (by omega) (by omega)).mono ?_
        rintro e w5 ⟨rfl, rN, oN⟩
        have hgv : ¬ ((fun b => V 4 b) g) := fun hc => (HU.out g (pv.within 4 g hc)).2 rfl
        have r5 := (oN.block g (by omega) hgv).trans R4.out
        have O5 : Outs (fun b => b = g ∨ U i b) wo w5 := O4.trans (oN.wide fun b hb => .inr (pv.within 4 b hb))
        have s5 : wo.heap.size ≤ w5.heap.size := O5.size
        have r_heap_tables := r_heap_tables.later PairSOwn_keeps (fun _ h => h) (fun b hb => oN.block b (by have := HSS.out b (HU.out b (pv.within 0 b hb)).1; omega) (fun hc => by have := pv.apart 0 4 b hb hc; omega))
        have r_heap_cells := r_heap_cells.later ValOwn_keeps (fun _ h => h) (fun b hb => oN.block b (by have := HSS.out b (HU.out b (pv.within 1 b hb)).1; omega) (fun hc => by have := pv.apart 1 4 b hb hc; omega))
        have r_funs := r_funs.later ClosureOwn_keeps (fun _ h => h) (fun b hb => oN.block b (by have := HSS.out b (HU.out b (pv.within 2 b hb)).1; omega) (fun hc => by have := pv.apart 2 4 b hb hc; omega))
        have r_frames := r_frames.later FrameOwn_keeps (fun _ h => h) (fun b hb => oN.block b (by have := HSS.out b (HU.out b (pv.within 3 b hb)).1; omega) (fun hc => by have := pv.apart 3 4 b hb hc; omega))
        have r_out := rN
        obtain ⟨cs5, R5, P5, z5, c0, c1, c2, c3, c4, c5, c6, c7, c8, c9⟩ : ∃ y : Array Value, Hid (w5.heap[g]? = some (.cells y T (0, 0))) ∧ Hid (∀ p, (p < 10 * i ∨ 10 * i + 10 ≤ p) → y[p]? = cs[p]?) ∧ y.size = cs0.size ∧ y[10 * i]? = some (.slice a_heap_tables x.heap.tables.length c_heap_tables) ∧ y[10 * i + 1]? = some (.slice a_heap_cells x.heap.cells.length c_heap_cells) ∧ y[10 * i + 2]? = some (.slice a_funs x.funs.length c_funs) ∧ y[10 * i + 3]? = some (.slice a_frames x.frames.length c_frames) ∧ y[10 * i + 4]? = some (.slice a_out x.out.length c_out) ∧ y[10 * i + 5]? = some (.int .i64 x.steps) ∧ y[10 * i + 6]? = some (.int .i64 x.kind) ∧ y[10 * i + 7]? = some (.int .i64 x.value.k) ∧ y[10 * i + 8]? = some (.int .i64 x.value.n) ∧ y[10 * i + 9]? = some (.string x.value.s) := ⟨_, r5, fun p hp => P4.out p hp, z4, c0, c1, c2, c3, c4, c5, c6, c7, c8, c9⟩
        clear r5 hgs hgv rN oN e0 f0 e1 f1 e2 f2 e3 f3 e4 f4 e5 f5 e6 f6 e7 f7 e8 f8 e9 f9
        have f0 := frozen_of_row w5 g (10 * i) _ _ R5.out
        have e0 := (cell_of_row w5 g (10 * i) _ _ (0, 0) R5.out).trans c0
        have f1 := frozen_of_row w5 g (10 * i + 1) _ _ R5.out
        have e1 := (cell_of_row w5 g (10 * i + 1) _ _ (0, 0) R5.out).trans c1
        have f2 := frozen_of_row w5 g (10 * i + 2) _ _ R5.out
        have e2 := (cell_of_row w5 g (10 * i + 2) _ _ (0, 0) R5.out).trans c2
        have f3 := frozen_of_row w5 g (10 * i + 3) _ _ R5.out
        have e3 := (cell_of_row w5 g (10 * i + 3) _ _ (0, 0) R5.out).trans c3
        have f4 := frozen_of_row w5 g (10 * i + 4) _ _ R5.out
        have e4 := (cell_of_row w5 g (10 * i + 4) _ _ (0, 0) R5.out).trans c4
        have f5 := frozen_of_row w5 g (10 * i + 5) _ _ R5.out
        have e5 := (cell_of_row w5 g (10 * i + 5) _ _ (0, 0) R5.out).trans c5
        have f6 := frozen_of_row w5 g (10 * i + 6) _ _ R5.out
        have e6 := (cell_of_row w5 g (10 * i + 6) _ _ (0, 0) R5.out).trans c6
        have f7 := frozen_of_row w5 g (10 * i + 7) _ _ R5.out
        have e7 := (cell_of_row w5 g (10 * i + 7) _ _ (0, 0) R5.out).trans c7
        have f8 := frozen_of_row w5 g (10 * i + 8) _ _ R5.out
        have e8 := (cell_of_row w5 g (10 * i + 8) _ _ (0, 0) R5.out).trans c8
        have f9 := frozen_of_row w5 g (10 * i + 9) _ _ R5.out
        have e9 := (cell_of_row w5 g (10 * i + 9) _ _ (0, 0) R5.out).trans c9
        go_wp2_with fail
        have hgs : g < w5.heap.size := (Array.getElem?_eq_some_iff.1 R5.out).1
        obtain ⟨tx, htx⟩ : ∃ t, t = (⟨(markB (N + mnR PairSmn x.heap.tables + 3 * x.heap.cells.length + mnR Closuremn x.funs + mnR Framemn x.frames + 1 * x.out.length + 1 + 1 + 1 + 1)).toArray⟩ : ByteArray) := ⟨_, rfl⟩
        have HTX : Hid (tx = (⟨(markB (N + mnR PairSmn x.heap.tables + 3 * x.heap.cells.length + mnR Closuremn x.funs + mnR Framemn x.frames + 1 * x.out.length + 1 + 1 + 1 + 1)).toArray⟩ : ByteArray)) := htx
        clear htx
        refine (mark_at _ (N + mnR PairSmn x.heap.tables + 3 * x.heap.cells.length + mnR Closuremn x.funs + mnR Framemn x.frames + 1 * x.out.length + 1 + 1 + 1 + 1) _ (by push_cast; omega) (by omega) (by omega)).mono ?_
        rintro e w6 ⟨rfl, hbT⟩
        rw [← HTX.out]
        have r6 := (hbT.block g (by simp; omega)).trans (heap_setCell_same _ g _ _ T _ (heap_setCell_same _ g _ _ T _ (heap_setCell_same _ g _ _ T _ (heap_setCell_same _ g _ _ T _ R5.out))))
        have O6 : Outs (fun b => b = g ∨ U i b) wo w6 := ((((O5.set _ _ (.inl rfl)).set _ _ (.inl rfl)).set _ _ (.inl rfl)).set _ _ (.inl rfl)).bel hbT
        have s6 : wo.heap.size ≤ w6.heap.size := O6.size
        have r_heap_tables := ((((r_heap_tables.set PairSOwn_keeps _ _ (fun b hb => (HU.out b (pv.within 0 b hb)).2)).set PairSOwn_keeps _ _ (fun b hb => (HU.out b (pv.within 0 b hb)).2)).set PairSOwn_keeps _ _ (fun b hb => (HU.out b (pv.within 0 b hb)).2)).set PairSOwn_keeps _ _ (fun b hb => (HU.out b (pv.within 0 b hb)).2)).below PairSOwn_keeps (fun b hb => by have := HSS.out b (HU.out b (pv.within 0 b hb)).1; simp; omega) hbT
        have r_heap_cells := ((((r_heap_cells.set ValOwn_keeps _ _ (fun b hb => (HU.out b (pv.within 1 b hb)).2)).set ValOwn_keeps _ _ (fun b hb => (HU.out b (pv.within 1 b hb)).2)).set ValOwn_keeps _ _ (fun b hb => (HU.out b (pv.within 1 b hb)).2)).set ValOwn_keeps _ _ (fun b hb => (HU.out b (pv.within 1 b hb)).2)).below ValOwn_keeps (fun b hb => by have := HSS.out b (HU.out b (pv.within 1 b hb)).1; simp; omega) hbT
        have r_funs := ((((r_funs.set ClosureOwn_keeps _ _ (fun b hb => (HU.out b (pv.within 2 b hb)).2)).set ClosureOwn_keeps _ _ (fun b hb => (HU.out b (pv.within 2 b hb)).2)).set ClosureOwn_keeps _ _ (fun b hb => (HU.out b (pv.within 2 b hb)).2)).set ClosureOwn_keeps _ _ (fun b hb => (HU.out b (pv.within 2 b hb)).2)).below ClosureOwn_keeps (fun b hb => by have := HSS.out b (HU.out b (pv.within 2 b hb)).1; simp; omega) hbT
        have r_frames := ((((r_frames.set FrameOwn_keeps _ _ (fun b hb => (HU.out b (pv.within 3 b hb)).2)).set FrameOwn_keeps _ _ (fun b hb => (HU.out b (pv.within 3 b hb)).2)).set FrameOwn_keeps _ _ (fun b hb => (HU.out b (pv.within 3 b hb)).2)).set FrameOwn_keeps _ _ (fun b hb => (HU.out b (pv.within 3 b hb)).2)).below FrameOwn_keeps (fun b hb => by have := HSS.out b (HU.out b (pv.within 3 b hb)).1; simp; omega) hbT
        have r_out := ((((r_out.set StrOwn_keeps _ _ (fun b hb => (HU.out b (pv.within 4 b hb)).2)).set StrOwn_keeps _ _ (fun b hb => (HU.out b (pv.within 4 b hb)).2)).set StrOwn_keeps _ _ (fun b hb => (HU.out b (pv.within 4 b hb)).2)).set StrOwn_keeps _ _ (fun b hb => (HU.out b (pv.within 4 b hb)).2)).below StrOwn_keeps (fun b hb => by have := HSS.out b (HU.out b (pv.within 4 b hb)).1; simp; omega) hbT
        obtain ⟨cs6, R6, P6, z6, c0, c1, c2, c3, c4, c5, c6, c7, c8, c9⟩ : ∃ y : Array Value, Hid (w6.heap[g]? = some (.cells y T (0, 0))) ∧ Hid (∀ p, (p < 10 * i ∨ 10 * i + 10 ≤ p) → y[p]? = cs[p]?) ∧ y.size = cs0.size ∧ y[10 * i]? = some (.slice a_heap_tables x.heap.tables.length c_heap_tables) ∧ y[10 * i + 1]? = some (.slice a_heap_cells x.heap.cells.length c_heap_cells) ∧ y[10 * i + 2]? = some (.slice a_funs x.funs.length c_funs) ∧ y[10 * i + 3]? = some (.slice a_frames x.frames.length c_frames) ∧ y[10 * i + 4]? = some (.slice a_out x.out.length c_out) ∧ y[10 * i + 5]? = some (.int .i64 ((N : Int) + ((mnR PairSmn x.heap.tables : Nat) : Int) + 3 * (x.heap.cells.length : Int) + ((mnR Closuremn x.funs : Nat) : Int) + ((mnR Framemn x.frames : Nat) : Int) + (x.out.length : Int))) ∧ y[10 * i + 6]? = some (.int .i64 ((N : Int) + ((mnR PairSmn x.heap.tables : Nat) : Int) + 3 * (x.heap.cells.length : Int) + ((mnR Closuremn x.funs : Nat) : Int) + ((mnR Framemn x.frames : Nat) : Int) + (x.out.length : Int) + 1)) ∧ y[10 * i + 7]? = some (.int .i64 ((N : Int) + ((mnR PairSmn x.heap.tables : Nat) : Int) + 3 * (x.heap.cells.length : Int) + ((mnR Closuremn x.funs : Nat) : Int) + ((mnR Framemn x.frames : Nat) : Int) + (x.out.length : Int) + 1 + 1)) ∧ y[10 * i + 8]? = some (.int .i64 ((N : Int) + ((mnR PairSmn x.heap.tables : Nat) : Int) + 3 * (x.heap.cells.length : Int) + ((mnR Closuremn x.funs : Nat) : Int) + ((mnR Framemn x.frames : Nat) : Int) + (x.out.length : Int) + 1 + 1 + 1)) ∧ y[10 * i + 9]? = some (.string x.value.s) := ⟨_, r6, fun p hp => (sib_ne (by omega)).trans ((sib_ne (by omega)).trans ((sib_ne (by omega)).trans ((sib_ne (by omega)).trans (P5.out p hp)))), by simp [z5], ((sib_ne (by omega)).trans ((sib_ne (by omega)).trans ((sib_ne (by omega)).trans ((sib_ne (by omega)).trans c0)))), ((sib_ne (by omega)).trans ((sib_ne (by omega)).trans ((sib_ne (by omega)).trans ((sib_ne (by omega)).trans c1)))), ((sib_ne (by omega)).trans ((sib_ne (by omega)).trans ((sib_ne (by omega)).trans ((sib_ne (by omega)).trans c2)))), ((sib_ne (by omega)).trans ((sib_ne (by omega)).trans ((sib_ne (by omega)).trans ((sib_ne (by omega)).trans c3)))), ((sib_ne (by omega)).trans ((sib_ne (by omega)).trans ((sib_ne (by omega)).trans ((sib_ne (by omega)).trans c4)))), ((sib_ne (by omega)).trans ((sib_ne (by omega)).trans ((sib_ne (by omega)).trans (sib_eq (by omega))))), ((sib_ne (by omega)).trans ((sib_ne (by omega)).trans (sib_eq (by simp; omega)))), ((sib_ne (by omega)).trans (sib_eq (by simp; omega))), (sib_eq (by simp; omega)), ((sib_ne (by omega)).trans ((sib_ne (by omega)).trans ((sib_ne (by omega)).trans ((sib_ne (by omega)).trans c9))))⟩
        clear r6 hgs hbT e0 f0 e1 f1 e2 f2 e3 f3 e4 f4 e5 f5 e6 f6 e7 f7 e8 f8 e9 f9
        have f0 := frozen_of_row w6 g (10 * i) _ _ R6.out
        have e0 := (cell_of_row w6 g (10 * i) _ _ (0, 0) R6.out).trans c0
        have f1 := frozen_of_row w6 g (10 * i + 1) _ _ R6.out
        have e1 := (cell_of_row w6 g (10 * i + 1) _ _ (0, 0) R6.out).trans c1
        have f2 := frozen_of_row w6 g (10 * i + 2) _ _ R6.out
        have e2 := (cell_of_row w6 g (10 * i + 2) _ _ (0, 0) R6.out).trans c2
        have f3 := frozen_of_row w6 g (10 * i + 3) _ _ R6.out
        have e3 := (cell_of_row w6 g (10 * i + 3) _ _ (0, 0) R6.out).trans c3
        have f4 := frozen_of_row w6 g (10 * i + 4) _ _ R6.out
        have e4 := (cell_of_row w6 g (10 * i + 4) _ _ (0, 0) R6.out).trans c4
        have f5 := frozen_of_row w6 g (10 * i + 5) _ _ R6.out
        have e5 := (cell_of_row w6 g (10 * i + 5) _ _ (0, 0) R6.out).trans c5
        have f6 := frozen_of_row w6 g (10 * i + 6) _ _ R6.out
        have e6 := (cell_of_row w6 g (10 * i + 6) _ _ (0, 0) R6.out).trans c6
        have f7 := frozen_of_row w6 g (10 * i + 7) _ _ R6.out
        have e7 := (cell_of_row w6 g (10 * i + 7) _ _ (0, 0) R6.out).trans c7
        have f8 := frozen_of_row w6 g (10 * i + 8) _ _ R6.out
        have e8 := (cell_of_row w6 g (10 * i + 8) _ _ (0, 0) R6.out).trans c8
        have f9 := frozen_of_row w6 g (10 * i + 9) _ _ R6.out
        have e9 := (cell_of_row w6 g (10 * i + 9) _ _ (0, 0) R6.out).trans c9
        go_wp2_with fail
        go_roundw
        case rel =>
          obtain ⟨wf, hwf⟩ : ∃ wf, wf = (w6.setCell ⟨g, 10 * i + 9, none⟩ (.string tx)) := ⟨_, rfl⟩
          have Rf : Hid (wf.heap[g]? = some (.cells (cs6.setIfInBounds (10 * i + 9) (.string tx)) T (0, 0))) := by rw [hwf]; exact (heap_setCell_same _ g _ _ T _ R6.out)
          have Of : Outs (fun b => b = g ∨ U i b) wo wf := by rw [hwf]; exact (O6.set _ _ (.inl rfl))
          have r_heap_tables : RowD 1 PairSOwn wf (V 0) (mkR PairSmd PairSmn (N) x.heap.tables) a_heap_tables := by rw [hwf]; exact (r_heap_tables.set PairSOwn_keeps _ _ (fun b hb => (HU.out b (pv.within 0 b hb)).2))
          have r_heap_cells : RowD 3 ValOwn wf (V 1) (mkF Valuemk 3 (N + mnR PairSmn x.heap.tables) x.heap.cells.length) a_heap_cells := by rw [hwf]; exact (r_heap_cells.set ValOwn_keeps _ _ (fun b hb => (HU.out b (pv.within 1 b hb)).2))
          have r_funs : RowD 2 ClosureOwn wf (V 2) (mkR Closuremd Closuremn (N + mnR PairSmn x.heap.tables + 3 * x.heap.cells.length) x.funs) a_funs := by rw [hwf]; exact (r_funs.set ClosureOwn_keeps _ _ (fun b hb => (HU.out b (pv.within 2 b hb)).2))
          have r_frames : RowD 6 FrameOwn wf (V 3) (mkR Framemd Framemn (N + mnR PairSmn x.heap.tables + 3 * x.heap.cells.length + mnR Closuremn x.funs) x.frames) a_frames := by rw [hwf]; exact (r_frames.set FrameOwn_keeps _ _ (fun b hb => (HU.out b (pv.within 3 b hb)).2))
          have r_out : RowD 1 StrOwn wf (V 4) (mkF Stringmk 1 (N + mnR PairSmn x.heap.tables + 3 * x.heap.cells.length + mnR Closuremn x.funs + mnR Framemn x.frames) x.out.length) a_out := by rw [hwf]; exact (r_out.set StrOwn_keeps _ _ (fun b hb => (HU.out b (pv.within 4 b hb)).2))
          have d0 : (cs6.setIfInBounds (10 * i + 9) (.string tx))[10 * i]? = some (.slice a_heap_tables x.heap.tables.length c_heap_tables) := ((sib_ne (by omega)).trans c0)
          have d1 : (cs6.setIfInBounds (10 * i + 9) (.string tx))[10 * i + 1]? = some (.slice a_heap_cells x.heap.cells.length c_heap_cells) := ((sib_ne (by omega)).trans c1)
          have d2 : (cs6.setIfInBounds (10 * i + 9) (.string tx))[10 * i + 2]? = some (.slice a_funs x.funs.length c_funs) := ((sib_ne (by omega)).trans c2)
          have d3 : (cs6.setIfInBounds (10 * i + 9) (.string tx))[10 * i + 3]? = some (.slice a_frames x.frames.length c_frames) := ((sib_ne (by omega)).trans c3)
          have d4 : (cs6.setIfInBounds (10 * i + 9) (.string tx))[10 * i + 4]? = some (.slice a_out x.out.length c_out) := ((sib_ne (by omega)).trans c4)
          have d5 : (cs6.setIfInBounds (10 * i + 9) (.string tx))[10 * i + 5]? = some (.int .i64 ((N + mnR PairSmn x.heap.tables + 3 * x.heap.cells.length + mnR Closuremn x.funs + mnR Framemn x.frames + 1 * x.out.length : Nat) : Int)) := Eq.trans (b := some (.int .i64 ((N : Int) + ((mnR PairSmn x.heap.tables : Nat) : Int) + 3 * (x.heap.cells.length : Int) + ((mnR Closuremn x.funs : Nat) : Int) + ((mnR Framemn x.frames : Nat) : Int) + (x.out.length : Int)))) ((sib_ne (by omega)).trans c5) (congrArg (fun z => some (Value.int .i64 z)) (by push_cast; omega))
          have d6 : (cs6.setIfInBounds (10 * i + 9) (.string tx))[10 * i + 6]? = some (.int .i64 ((N + mnR PairSmn x.heap.tables + 3 * x.heap.cells.length + mnR Closuremn x.funs + mnR Framemn x.frames + 1 * x.out.length + 1 : Nat) : Int)) := Eq.trans (b := some (.int .i64 ((N : Int) + ((mnR PairSmn x.heap.tables : Nat) : Int) + 3 * (x.heap.cells.length : Int) + ((mnR Closuremn x.funs : Nat) : Int) + ((mnR Framemn x.frames : Nat) : Int) + (x.out.length : Int) + 1))) ((sib_ne (by omega)).trans c6) (congrArg (fun z => some (Value.int .i64 z)) (by push_cast; omega))
          have d7 : (cs6.setIfInBounds (10 * i + 9) (.string tx))[10 * i + 7]? = some (.int .i64 ((N + mnR PairSmn x.heap.tables + 3 * x.heap.cells.length + mnR Closuremn x.funs + mnR Framemn x.frames + 1 * x.out.length + 1 + 1 : Nat) : Int)) := Eq.trans (b := some (.int .i64 ((N : Int) + ((mnR PairSmn x.heap.tables : Nat) : Int) + 3 * (x.heap.cells.length : Int) + ((mnR Closuremn x.funs : Nat) : Int) + ((mnR Framemn x.frames : Nat) : Int) + (x.out.length : Int) + 1 + 1))) ((sib_ne (by omega)).trans c7) (congrArg (fun z => some (Value.int .i64 z)) (by push_cast; omega))
          have d8 : (cs6.setIfInBounds (10 * i + 9) (.string tx))[10 * i + 8]? = some (.int .i64 ((N + mnR PairSmn x.heap.tables + 3 * x.heap.cells.length + mnR Closuremn x.funs + mnR Framemn x.frames + 1 * x.out.length + 1 + 1 + 1 : Nat) : Int)) := Eq.trans (b := some (.int .i64 ((N : Int) + ((mnR PairSmn x.heap.tables : Nat) : Int) + 3 * (x.heap.cells.length : Int) + ((mnR Closuremn x.funs : Nat) : Int) + ((mnR Framemn x.frames : Nat) : Int) + (x.out.length : Int) + 1 + 1 + 1))) ((sib_ne (by omega)).trans c8) (congrArg (fun z => some (Value.int .i64 z)) (by push_cast; omega))
          have d9 : (cs6.setIfInBounds (10 * i + 9) (.string tx))[10 * i + 9]? = some (.string ⟨(markB (N + mnR PairSmn x.heap.tables + 3 * x.heap.cells.length + mnR Closuremn x.funs + mnR Framemn x.frames + 1 * x.out.length + 1 + 1 + 1 + 1)).toArray⟩) := Eq.trans (b := some (.string tx)) (sib_eq (by omega)) (by rw [HTX.out])
          have Pf : ∀ p, (p < 10 * i ∨ 10 * i + 10 ≤ p) → (cs6.setIfInBounds (10 * i + 9) (.string tx))[p]? = cs[p]? := fun p hp => (sib_ne (by omega)).trans (P6.out p hp)
          have zf : (cs6.setIfInBounds (10 * i + 9) (.string tx)).size = cs0.size := by simpa using z6
          have hfin : ∀ m, ¬ m = i → ∀ b, U m b → wf.heap[b]? = wo.heap[b]? := fun m hm b hb => Of.block b (by have := HSS.out b (HH5.out.within m b hb).1; omega) (fun hc => by rcases hc with hc | hc; exact (HH5.out.within m b hb).2 hc; exact hm (HH5.out.apart m i b hb hc))
          rw [← hwf]
          clear hwf
          generalize (cs6.setIfInBounds (10 * i + 9) (.string tx)) = csf at *
          refine ⟨i + 1, csf, by rw [HNO.out]; exact congrArg (Value.int .i64) (by unfold Vmmn; push_cast; omega), by go_num, by omega, HBY.out.trans (Of.wide fun b hb => by rcases hb with rfl | hb; exact HG.out; exact (HU.out b hb).1), Rf.out, zf, fun m h hm => ?_, fun m h hm => ?_⟩
          · by_cases hmi : m = i
            · subst hmi
              rw [← HX.out, ← HN.out]
              exact ⟨_, Vmmd_fl x N a_heap_tables c_heap_tables a_heap_cells c_heap_cells a_funs c_funs a_frames c_frames a_out c_out V (U m) wf pv l_heap_tables r_heap_tables l_heap_cells r_heap_cells l_funs r_funs l_frames r_frames l_out r_out hN1, rfl, fun j hj => by
                match j, hj with
                | 0, _ => exact d0
                | 1, _ => exact d1
                | 2, _ => exact d2
                | 3, _ => exact d3
                | 4, _ => exact d4
                | 5, _ => exact d5
                | 6, _ => exact d6
                | 7, _ => exact d7
                | 8, _ => exact d8
                | 9, _ => exact d9⟩
            · obtain ⟨l, h1, h2, h3⟩ := HD.out m h (by omega)
              exact ⟨l, VmFl_keeps _ _ _ _ _ _ (fun _ h => h) (hfin m hmi) h1, h2, fun j hj => (Pf _ (by omega)).trans (h3 j hj)⟩
          · obtain ⟨l, h1, h2, h3⟩ := HT.out m h (by omega)
            exact ⟨l, VmFl_keeps _ _ _ _ _ _ (fun _ h => h) (hfin m (by omega)) h1, h2, fun j hj => (Pf _ (by omega)).trans (h3 j hj)⟩
        case measure => simp [intOf]; omega
      · obtain rfl : i = xs.length := by omega
        have HD : Hid (∀ m (h : m < xs.length), m < xs.length → ∃ l, VmFl wo (U m) (Vmmd (K + mnR Vmmn (xs.take m)) xs[m]) l ∧ l.length = 10 ∧ ∀ j, j < 10 → cs[10 * m + j]? = l[j]?) := hd
        clear hd ht
        rw [List.take_length] at *
        go_wp2_with fail
        go_ret
        exact ⟨rfl, .inr ⟨g, cs, T, rfl, h2, hrow, by rw [mkR_len, hcs]; exact h4, U, h5, fun m h => by
          have h' : m < xs.length := by rw [mkR_len] at h; exact h
          rw [mkR_get Vmmd Vmmn xs K m h h']
          exact HD.out m h' h'⟩, hby⟩
theorem mkVmS_any (xs : List VmD) (a : Option Addr) (cap K : Nat) (z : Int) (S : Nat → Prop) (w : World) (hS : ∀ b, S b → b < w.heap.size) (hR : RowD 10 VmOwn w S xs a) (hz : z = K) (hK : 0 < K) (hn : K + mnR Vmmn xs ≤ 1099511627776) (hl : xs.length ≤ maxLen) :
    Calls Try.prog 68 #[.slice a xs.length cap, .int .i64 z] w fun e w' => e = .returned (.int .i64 ((K + mnR Vmmn xs : Nat) : Int)) ∧ RowD 10 VmOwn w' S (mkR Vmmd Vmmn K xs) a ∧ Outs S w w' :=
  (mkVmS_fl xs a cap K z S w hS (hR.imp fun _ _ _ _ h => h.fl) hz hK hn hl).mono fun _ _ ⟨h1, h2, h3⟩ => ⟨h1, h2.imp fun _ _ _ _ h => h.own, h3⟩
end Go.Proofs.Ytgibejgemokljaa
