/- A machine ahead of its first step, plainly. -/
import Derived.Test.YtgibejgemokljaaCodA
import Derived.Test.YtgibejgemokljaaOwR
namespace Go.Proofs.Ytgibejgemokljaa
open Go.RowKit

theorem alloc_at {W : World} {o : Obj} {n : Nat} (h : W.heap.size = n) : (W.alloc o).heap[n]? = some o := by subst h; exact heap_alloc_new W o
theorem In.ne2 {lo hi b c : Nat} (h : In lo hi b) (hc : hi ≤ c) : b ≠ c := by have := h.2; omega
theorem In.lt {lo hi b c : Nat} (h : In lo hi b) (hc : hi ≤ c) : b < c := Nat.lt_of_lt_of_le h.2 hc
theorem RowD.alloc {α : Type} {k : Nat} {D : World → (Nat → Prop) → α → List Value → Prop} (hK : KeepsD D) {w : World} {S : Nat → Prop} {xs : List α} {a : Option Addr} (hS : ∀ b, S b → b < w.heap.size) (o : Obj) (h : RowD k D w S xs a) : RowD k D (w.alloc o) S xs a :=
  h.below hK hS (bel_alloc w o)
/-- A machine ahead of its first step, with n slots; one without anything. -/
def startD (n : Nat) : VmD := ⟨⟨[], []⟩, [], [⟨0, 0, List.replicate n (-1), [], [], false⟩], [], 0, 0, ⟨0, 0, ⟨#[]⟩⟩⟩
def badD : VmD := ⟨⟨[], []⟩, [], [], [], 0, 3, ⟨0, 0, ⟨#[]⟩⟩⟩
def slotsOf : List ProtoD → Nat
  | [] => 0
  | p :: _ => p.slots.toNat
def startV (ps : List ProtoD) : VmD := if codeOk ps = true then startD (slotsOf ps) else badD
theorem start_yes {ps : List ProtoD} (h : codeOk ps = true) : startV ps = startD (slotsOf ps) := by unfold startV; rw [if_pos h]
theorem start_no {ps : List ProtoD} (h : codeOk ps = false) : startV ps = badD := by unfold startV; rw [h]; rfl
theorem ok_first {ps : List ProtoD} (h : codeOk ps = true) : ∃ h0 : 0 < ps.length, (ps[0]).slots = (slotsOf ps : Int) ∧ slotsOf ps ≤ 200 := by
  cases ps with
  | nil => simp [codeOk, firstOk] at h
  | cons p t =>
    simp only [codeOk, List.all_cons, Bool.and_eq_true, protoOk, headOk, inR, decide_eq_true_eq] at h
    have h1 := h.2.1.1.1
    exact ⟨by simp, by simp [slotsOf]; omega, by simp [slotsOf]; omega⟩
theorem slots_le (ps : List ProtoD) (h : codeOk ps = true) : slotsOf ps ≤ 200 := (ok_first h).2.2
theorem nilv_ok : (⟨0, 0, ⟨#[]⟩⟩ : Vl).Ok := ⟨⟨by decide, by decide, by decide, by decide, by decide⟩⟩
theorem heap0_own (w : World) (S : Nat → Prop) : HeapOwn w S ⟨[], []⟩ [.slice none 0 0, .slice none 0 0] := ⟨⟨Nat.zero_le _, Nat.zero_le _⟩, fun _ _ => False, Parts.none _, none, 0, none, 0, rfl, Nat.zero_le _, .inl rfl, Nat.zero_le _, .inl rfl⟩
theorem parts3 (S : Nat → Prop) : Parts (V5 (fun _ => False) (fun _ => False) S (fun _ => False) (fun _ => False)) S :=
  ⟨fun j b hb => by
    match j, hb with
    | 0, hb => exact hb.elim
    | 1, hb => exact hb.elim
    | 2, hb => exact hb
    | 3, hb => exact hb.elim
    | 4, hb => exact hb.elim
    | n + 5, hb => exact hb.elim,
   fun i j b hb hc => by
    match i, hb, j, hc with
    | 2, _, 2, _ => rfl
    | 0, hb, _, _ => exact hb.elim
    | 1, hb, _, _ => exact hb.elim
    | 3, hb, _, _ => exact hb.elim
    | 4, hb, _, _ => exact hb.elim
    | n + 5, hb, _, _ => exact hb.elim
    | 2, _, 0, hc => exact hc.elim
    | 2, _, 1, hc => exact hc.elim
    | 2, _, 3, hc => exact hc.elim
    | 2, _, 4, hc => exact hc.elim
    | 2, _, n + 5, hc => exact hc.elim⟩
theorem bad_own {ps : List ProtoD} (he : startV ps = badD) (w : World) (S : Nat → Prop) : VmOwn w S (startV ps) [.slice none 0 0, .slice none 0 0, .slice none 0 0, .slice none 0 0, .slice none 0 0, .int .i64 0, .int .i64 3, .int .i64 0, .int .i64 0, .string ⟨#[]⟩] := by
  rw [he]
  exact ⟨⟨⟨Nat.zero_le _, Nat.zero_le _⟩, Nat.zero_le _, Nat.zero_le _, Nat.zero_le _, ⟨by decide, by decide⟩, ⟨by decide, by decide⟩, nilv_ok⟩, fun _ _ => False, Parts.none _, none, 0, none, 0, none, 0, none, 0, none, 0, rfl, heap0_own _ _, Nat.zero_le _, .inl rfl, Nat.zero_le _, .inl rfl, Nat.zero_le _, .inl rfl⟩
theorem zint : IntOk 0 := ⟨by decide, by decide⟩
theorem start_own {ps : List ProtoD} {n : Nat} (he : startV ps = startD n) {w : World} {l h gf c : Nat} {b : Option Addr} {T : TypeId} {S : Nat → Prop} (hS : ∀ x, In l h x → S x) (hg : S gf) (hgl : ∀ x, In l h x → x ≠ gf) (hr : RowD 1 IntOwn w (In l h) (List.replicate n (-1)) b) (hgf : w.heap[gf]? = some (.cells #[.int .i64 0, .int .i64 0, .slice b n c, .slice none 0 0, .slice none 0 0, .bool false] T (0, 0))) (hn : n ≤ 200) :
    VmOwn w S (startV ps) [.slice none 0 0, .slice none 0 0, .slice none 0 0, .slice (some ⟨gf, 0, none⟩) 1 1, .slice none 0 0, .int .i64 0, .int .i64 0, .int .i64 0, .int .i64 0, .string ⟨#[]⟩] := by
  rw [he]
  have hlen : (List.replicate n (-1 : Int)).length ≤ maxLen := by rw [List.length_replicate]; unfold maxLen; omega
  have hf : FrameOwn w (In l h) ⟨0, 0, List.replicate n (-1), [], [], false⟩ [.int .i64 0, .int .i64 0, .slice b n c, .slice none 0 0, .slice none 0 0, .bool false] :=
    ⟨⟨zint, zint, hlen, Nat.zero_le _, Nat.zero_le _, trivial⟩, _, parts1 _, b, c, none, 0, none, 0, by rw [List.length_replicate]; rfl, hlen, hr, Nat.zero_le _, .inl rfl, Nat.zero_le _, .inl rfl⟩
  have hrow : RowD 6 FrameOwn w S [⟨0, 0, List.replicate n (-1), [], [], false⟩] (some ⟨gf, 0, none⟩) :=
    .inr ⟨gf, _, T, rfl, hg, hgf, by simp, V5 (In l h) (fun _ => False) (fun _ => False) (fun _ => False) (fun _ => False), (parts1 (In l h)).wide fun x hx => ⟨hS x hx, hgl x hx⟩, fun i hi => by
      obtain rfl : i = 0 := by simp at hi; omega
      exact ⟨_, hf, rfl, fun j hj => by match j, hj with
        | 0, _ => rfl
        | 1, _ => rfl
        | 2, _ => rfl
        | 3, _ => rfl
        | 4, _ => rfl
        | 5, _ => rfl⟩⟩
  exact ⟨⟨⟨Nat.zero_le _, Nat.zero_le _⟩, Nat.zero_le _, by simp [startD, maxLen], Nat.zero_le _, zint, zint, nilv_ok⟩, _, parts3 S, none, 0, none, 0, none, 0, some ⟨gf, 0, none⟩, 1, none, 0, rfl, heap0_own _ _, Nat.zero_le _, .inl rfl, by simp [startD, maxLen], hrow, Nat.zero_le _, .inl rfl⟩
theorem start_wt (ps : List ProtoD) : (startV ps).wt ≤ 1000 := by
  cases h : codeOk ps with
  | false => rw [start_no h]; decide
  | true =>
    have := slots_le ps h
    rw [start_yes h]
    show 0 + 0 + 0 + (1 + ((List.replicate (slotsOf ps) (-1 : Int)).length + 0 + 0) + 0) + 0 + 0 ≤ 1000
    rw [List.length_replicate]; omega
theorem start_mn (ps : List ProtoD) : Vmtn (startV ps) ≤ 1000 := by
  cases h : codeOk ps with
  | false => rw [start_no h]; decide
  | true =>
    have := slots_le ps h
    rw [start_yes h]
    simp [Vmtn, Heaptn, startD, mnR, Framemn]
    omega
end Go.Proofs.Ytgibejgemokljaa
