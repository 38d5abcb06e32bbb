/- l01Has: whether a text stands in a list of texts that lie in memory. -/
import Derived.Test.YtadjhnaiphnpoaaDoorKit
namespace Go.Proofs.YtadjhnaiphnpoaaDoor
open Go.RowKit

def hasS (ss : List ByteArray) (s : ByteArray) : Bool := ss.any fun t => t.toList == s.toList
theorem has_hit {ss : List ByteArray} {s t : ByteArray} {k : Nat} (h : ss[k]? = some t) (e : (t.toList == s.toList) = true) : hasS ss s = true :=
  List.any_eq_true.2 ⟨t, List.mem_of_getElem? h, e⟩
theorem has_none {ss : List ByteArray} {s : ByteArray} (h : ∀ (j : Nat) (t : ByteArray), j < ss.length → ss[j]? = some t → (t.toList == s.toList) = false) : hasS ss s = false := by
  rw [hasS, List.any_eq_false]; intro t hm
  obtain ⟨j, hj⟩ := List.mem_iff_getElem?.1 hm
  rw [h j t (List.getElem?_eq_some_iff.1 hj).1 hj]; simp

set_option maxHeartbeats 400000 in
theorem has_any (ss : List ByteArray) (s : ByteArray) (b c : Nat) (w : World) (hl : ss.length ≤ 1000) (hc : ∀ (j : Nat) (t : ByteArray), ss[j]? = some t → w.cell? ⟨b, j, none⟩ = some (.string t)) :
    Calls Tryd.prog 62 #[.slice (some ⟨b, 0, none⟩) ss.length c, .string s] w fun e w' => e = .returned (.bool (hasS ss s)) ∧ w = w' := by
  go_enter Tryd.func62, Tryd.ntmps62
  go_wp2
  go_loop [5] (fun i => ∃ k : Nat, k ≤ ss.length ∧ i = .int .i64 k ∧ ∀ (j : Nat) (t : ByteArray), j < k → ss[j]? = some t → (t.toList == s.toList) = false) (fun i => ss.length - (intOf i).toNat)
  case atStart => exact ⟨0, Nat.zero_le _, rfl, fun j t hj => absurd hj (Nat.not_lt_zero _)⟩
  case round =>
    obtain ⟨k, hk, rfl, hno⟩ := hrel
    by_cases hlt : k < ss.length
    · obtain ⟨t, ht⟩ : ∃ t, ss[k]? = some t := ⟨_, List.getElem?_eq_getElem hlt⟩
      have hck := hc k t ht
      clear hc
      by_cases e : (t.toList == s.toList) = true
      · have he : Hid (hasS ss s = true) := has_hit ht e
        clear hno ht
        go_wp2
        go_ret
        exact ⟨by rw [he.out]; rfl, rfl⟩
      · have e' : (t.toList == s.toList) = false := by simpa using e
        have hno' : Hid (∀ (j : Nat) (u : ByteArray), j < k + 1 → ss[j]? = some u → (u.toList == s.toList) = false) := by
          intro j u hj hu
          by_cases hjk : j = k
          · subst hjk; rw [ht] at hu; cases hu; exact e'
          · exact hno j u (by omega) hu
        clear hno ht e
        go_wp2
        go_round
        case rel => exact ⟨k + 1, by omega, by go_num, hno'.out⟩
        case measure => simp [intOf]; omega
    · have he : Hid (hasS ss s = false) := has_none fun j t hj => hno j t (by omega)
      clear hno hc
      go_wp2
      go_ret
      exact ⟨by rw [he.out]; rfl, rfl⟩
theorem has_lits (wx : World) (e : TypeId) (ss : List ByteArray) : ∀ (j : Nat) (t : ByteArray), ss[j]? = some t → (wx.alloc (.cells (ss.map Value.string).toArray e)).cell? ⟨wx.heap.size, j, none⟩ = some (.string t) := by
  intro j t ht
  rw [cell_of_row _ wx.heap.size j _ e (0, 0) (heap_alloc_new wx _)]
  simp [ht]
end Go.Proofs.YtadjhnaiphnpoaaDoor
