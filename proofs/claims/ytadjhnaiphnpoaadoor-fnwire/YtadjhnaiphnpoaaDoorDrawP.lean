/- The draw of a number from a list. -/
import Derived.Test.YtadjhnaiphnpoaaDoorDrawK
namespace Go.Proofs.YtadjhnaiphnpoaaDoor
open Go.RowKit

set_option maxRecDepth 100000 in
theorem pickInt_any (B c : Nat) (ss : List Int) (b cap : Nat) (w : World) (hC : Cur w B c) (hb : b ≠ c) (hl : 0 < ss.length) (hl' : ss.length ≤ 100000) (hs : ∀ (j : Nat) (t : Int), ss[j]? = some t → w.cell? ⟨b, j, none⟩ = some (.int .i64 t)) :
    Calls Tryd.prog 68 #[.pointer (some ⟨c, 0, none⟩), .slice (some ⟨b, 0, none⟩) ss.length cap] w fun e w' => ∃ s : Int, e = .returned (.int .i64 s) ∧ s ∈ ss ∧ Drawn B c w w' := by
  have hs' : ∀ (w1 : World), w.grownBy w1 (some c) → ∀ (j : Nat) (t : Int), ss[j]? = some t → w1.cell? ⟨b, j, none⟩ = some (.int .i64 t) := fun w1 hg j t ht => hg.cell (hs j t ht) (by simp; exact hb)
  have HS : Hid (∀ (w1 : World), w.grownBy w1 (some c) → ∀ (j : Nat) (t : Int), ss[j]? = some t → w1.cell? ⟨b, j, none⟩ = some (.int .i64 t)) := hs'
  clear hs hs'
  go_enter Tryd.func68, Tryd.ntmps68
  go_wp2_with fail
  refine (below_any B c ss.length w hC (by omega)).mono ?_
  rintro e w1 ⟨x, rfl, hx0, hx1, hx2, hd⟩
  obtain ⟨k, rfl⟩ := Int.eq_ofNat_of_zero_le hx0
  have hk : k < ss.length := by have := hx2 (by omega); omega
  obtain ⟨t, ht⟩ : ∃ t, ss[k]? = some t := ⟨_, List.getElem?_eq_getElem hk⟩
  have hcell := HS.out w1 hd.by' k t ht
  have HT : Hid (t ∈ ss) := List.mem_of_getElem? ht
  clear hx2 ht
  go_wp2_with fail
  go_ret
  exact ⟨t, rfl, HT.out, hd⟩

end Go.Proofs.YtadjhnaiphnpoaaDoor
