/- A trail at its start, told plainly. -/
import Derived.Test.YtgibejgemokljaaVstA
import Derived.Test.YtgibejgemokljaaTrN
namespace Go.Proofs.Ytgibejgemokljaa
open Go.RowKit

def zeroVm : VmD := ⟨⟨[], []⟩, [], [], [], 0, 0, ⟨0, 0, ⟨#[]⟩⟩⟩
def trailB (ps : List ProtoD) (n : Int) : Bool := codeOk ps && inR n 1 1000
def trailV (ps : List ProtoD) (n : Int) : TrailD := if trailB ps n = true then ⟨ps, n, [startV ps], startV ps⟩ else ⟨[], 0, [], zeroVm⟩
theorem trail_yes {ps : List ProtoD} {n : Int} (h : trailB ps n = true) : trailV ps n = ⟨ps, n, [startV ps], startV ps⟩ := by unfold trailV; rw [if_pos h]
theorem trail_no {ps : List ProtoD} {n : Int} (h : trailB ps n = false) : trailV ps n = ⟨[], 0, [], zeroVm⟩ := by unfold trailV; rw [h]; rfl
theorem zeroVm_own (w : World) (S : Nat → Prop) : VmOwn w S zeroVm [.slice none 0 0, .slice none 0 0, .slice none 0 0, .slice none 0 0, .slice none 0 0, .int .i64 0, .int .i64 0, .int .i64 0, .int .i64 0, .string ⟨#[]⟩] :=
  ⟨⟨⟨Nat.zero_le _, Nat.zero_le _⟩, Nat.zero_le _, Nat.zero_le _, Nat.zero_le _, zint, zint, nilv_ok⟩, fun _ _ => False, Parts.none _, none, 0, none, 0, none, 0, none, 0, none, 0, rfl, heap0_own _ _, Nat.zero_le _, .inl rfl, Nat.zero_le _, .inl rfl, Nat.zero_le _, .inl rfl⟩
theorem trail0_own {ps : List ProtoD} {n : Int} (h : trailB ps n = false) (w : World) (S : Nat → Prop) : TrailOwn w S (trailV ps n) [.slice none 0 0, .int .i64 0, .slice none 0 0, .slice none 0 0, .slice none 0 0, .slice none 0 0, .slice none 0 0, .slice none 0 0, .int .i64 0, .int .i64 0, .int .i64 0, .int .i64 0, .string ⟨#[]⟩] := by
  rw [trail_no h]
  exact ⟨⟨Nat.zero_le _, zint, Nat.zero_le _, (zeroVm_own w S).1⟩, fun _ _ => False, Parts.none _, none, 0, none, 0, none, 0, none, 0, none, 0, none, 0, none, 0, rfl, Nat.zero_le _, .inl rfl, Nat.zero_le _, .inl rfl, zeroVm_own _ _⟩
/-- A row of one thing. -/
theorem row_one {α : Type} {k : Nat} {D : World → (Nat → Prop) → α → List Value → Prop} (hK : KeepsD D) {w : World} {lo hi g : Nat} {T : TypeId} {x : α} {l : List Value} (hD : D w (In lo hi) x l) (hl : l.length = k) (hg : w.heap[g]? = some (.cells l.toArray T (0, 0))) (hh : hi ≤ g) (hlo : lo ≤ g) : RowD k D w (In lo (g + 1)) [x] (some ⟨g, 0, none⟩) := by
  refine .inr ⟨g, l.toArray, T, rfl, ⟨hlo, by omega⟩, hg, by simp [hl], fun m b => m = 0 ∧ In lo hi b, ⟨fun m b hb => ⟨⟨hb.2.1, by have := hb.2.2; omega⟩, by have := hb.2.2; omega⟩, fun m m' b h1 h2 => by rw [h1.1, h2.1]⟩, fun i hi => ?_⟩
  obtain rfl : i = 0 := by simpa using hi
  exact ⟨l, hK _ _ _ _ _ _ (fun b hb => ⟨rfl, hb⟩) (fun _ _ => rfl) hD, hl, fun j _ => by simp⟩
theorem trail1_own {ps : List ProtoD} {n : Int} (h : trailB ps n = true) (hn : IntOk n) (hp : ps.length ≤ maxLen) {w : World} {lo hi l0 h0 l1 g l2 h2 : Nat} {b : Option Addr} {c : Nat} {l : List Value} {T : TypeId} (e0 : lo ≤ l0) (e1 : l0 ≤ h0) (e2 : h0 ≤ l1) (e3 : l1 ≤ g) (e4 : g + 1 ≤ l2) (e5 : l2 ≤ h2) (e6 : h2 ≤ hi)
    (hU : RowD 5 ProtoOwn w (In l0 h0) ps b) (hV : VmOwn w (In l1 g) (startV ps) l) (hl : l.length = 10) (hg : w.heap[g]? = some (.cells l.toArray T (0, 0)))
    {a_heap_tables : Option Addr} {c_heap_tables : Nat} {a_heap_cells : Option Addr} {c_heap_cells : Nat} {a_funs : Option Addr} {c_funs : Nat} {a_frames : Option Addr} {c_frames : Nat} {a_out : Option Addr} {c_out : Nat}
    (hW : VmOwn w (In l2 h2) (startV ps) [.slice a_heap_tables (startV ps).heap.tables.length c_heap_tables, .slice a_heap_cells (startV ps).heap.cells.length c_heap_cells, .slice a_funs (startV ps).funs.length c_funs, .slice a_frames (startV ps).frames.length c_frames, .slice a_out (startV ps).out.length c_out, .int .i64 (startV ps).steps, .int .i64 (startV ps).kind, .int .i64 (startV ps).value.k, .int .i64 (startV ps).value.n, .string (startV ps).value.s]) :
    TrailOwn w (In lo hi) (trailV ps n) [.slice b ps.length c, .int .i64 n, .slice (some ⟨g, 0, none⟩) 1 1, .slice a_heap_tables (startV ps).heap.tables.length c_heap_tables, .slice a_heap_cells (startV ps).heap.cells.length c_heap_cells, .slice a_funs (startV ps).funs.length c_funs, .slice a_frames (startV ps).frames.length c_frames, .slice a_out (startV ps).out.length c_out, .int .i64 (startV ps).steps, .int .i64 (startV ps).kind, .int .i64 (startV ps).value.k, .int .i64 (startV ps).value.n, .string (startV ps).value.s] := by
  rw [trail_yes h]
  have h1 : ([startV ps] : List VmD).length ≤ maxLen := by unfold maxLen; simp
  exact ⟨⟨hp, hn, h1, hW.1⟩, _, parts5 (lo := lo) (hi := hi) (c0 := l0) (d0 := h0) (c1 := l1) (d1 := g + 1) (c2 := l2) (d2 := h2) (c3 := h2) (d3 := h2) (c4 := h2) (d4 := h2) (by omega) (by omega) (by omega) (by omega) (by omega) (by omega) (by omega) (by omega) (by omega) (by omega) (by omega), b, c, some ⟨g, 0, none⟩, 1, a_heap_tables, c_heap_tables, a_heap_cells, c_heap_cells, a_funs, c_funs, a_frames, c_frames, a_out, c_out, rfl, hp, hU, h1, row_one VmOwn_keeps hV hl hg (Nat.le_refl _) e3, hW⟩
theorem trail_wt (ps : List ProtoD) (n : Int) (h : wtR ProtoD.wt ps ≤ 1048576) : (trailV ps n).wt ≤ 2097152 := by
  have hs := start_wt ps
  cases hb : trailB ps n with
  | false => rw [trail_no hb]; decide
  | true =>
    rw [trail_yes hb]
    show wtR ProtoD.wt ps + wtR VmD.wt [startV ps] + (startV ps).wt ≤ _
    have : wtR VmD.wt [startV ps] = 1 + (startV ps).wt := by simp [wtR]
    omega
end Go.Proofs.Ytgibejgemokljaa
