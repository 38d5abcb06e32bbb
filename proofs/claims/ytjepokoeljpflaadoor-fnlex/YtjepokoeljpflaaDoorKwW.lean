/- IsKeyword: both functions' walks, one Bool. -/
import Derived.Test.YtjepokoeljpflaaDoorHasW
namespace Go.Proofs.YtjepokoeljpflaaDoor
open Go.RowKit

def kwL : List (List UInt8) := [[97, 110, 100], [98, 114, 101, 97, 107], [100, 111], [101, 108, 115, 101], [101, 110, 100], [102, 97, 108, 115, 101], [102, 117, 110, 99, 116, 105, 111, 110], [105, 102], [108, 111, 99, 97, 108], [110, 105, 108], [110, 111, 116], [111, 114], [114, 101, 116, 117, 114, 110], [116, 104, 101, 110], [116, 114, 117, 101], [119, 104, 105, 108, 101]]
def kwB (s : ByteArray) : Bool := kwL.any fun t => s.toList == t
def kwS : List ByteArray := [⟨#[97, 110, 100]⟩, ⟨#[98, 114, 101, 97, 107]⟩, ⟨#[100, 111]⟩, ⟨#[101, 108, 115, 101]⟩, ⟨#[101, 110, 100]⟩, ⟨#[102, 97, 108, 115, 101]⟩, ⟨#[102, 117, 110, 99, 116, 105, 111, 110]⟩, ⟨#[105, 102]⟩, ⟨#[108, 111, 99, 97, 108]⟩, ⟨#[110, 105, 108]⟩, ⟨#[110, 111, 116]⟩, ⟨#[111, 114]⟩, ⟨#[114, 101, 116, 117, 114, 110]⟩, ⟨#[116, 104, 101, 110]⟩, ⟨#[116, 114, 117, 101]⟩, ⟨#[119, 104, 105, 108, 101]⟩]
theorem kwS_has (s : ByteArray) : hasS kwS s = kwB s := by
  have h : kwS.map ByteArray.toList = kwL := by simp [kwS, kwL, ByteArray.toList_eq]
  unfold hasS kwB
  rw [← h, List.any_map]
  congr 1; funext t; simp only [Function.comp]; exact BEq.comm
theorem kw_cells (w : World) (e : TypeId) : ∀ (j : Nat) (t : ByteArray), kwS[j]? = some t → (w.alloc (.cells (kwS.map Value.string).toArray e)).cell? ⟨w.heap.size, j, none⟩ = some (.string t) := by
  intro j t ht
  rw [cell_of_row _ w.heap.size j _ e (0, 0) (heap_alloc_new w _)]
  simp [ht]

set_option maxRecDepth 100000 in
set_option maxHeartbeats 1600000 in
theorem kw_spec (s : ByteArray) (w : World) :
    Calls Tryd.prog 15 #[.string s] w fun e w' => e = .returned (.bool (kwB s)) ∧ Below w.heap.size w w' := by
  have hk := has_any kwS s w.heap.size 16 (w.alloc (.cells (kwS.map Value.string).toArray 9)) (by decide) (kw_cells w _)
  rw [kwS_has] at hk
  have HK : Hid (Calls Tryd.prog 29 #[.slice (some ⟨w.heap.size, 0, none⟩) 16 16, .string s] (w.alloc (.cells (kwS.map Value.string).toArray 9)) fun e w' => e = .returned (.bool (kwB s)) ∧ (w.alloc (.cells (kwS.map Value.string).toArray 9)) = w') := hk
  clear hk
  go_enter Tryd.func15, Tryd.ntmps15
  go_wp2_with fail
  refine HK.out.mono ?_
  rintro e w1 ⟨rfl, rfl⟩
  go_wp2_with fail
  go_ret
  exact ⟨rfl, (Below.refl _ _).alloc (Nat.le_refl _) _⟩

set_option maxRecDepth 100000 in
set_option maxHeartbeats 1600000 in
theorem kw_impl (s : ByteArray) (w : World) :
    Calls Tryd.prog 14 #[.string s] w fun e w' => e = .returned (.bool (kwB s)) ∧ w = w' := by
  go_enter Tryd.func14, Tryd.ntmps14
  go_wp2
  all_goals
    go_ret
    exact ⟨ret_bool (by simp_all [kwB, kwL]), rfl⟩
end Go.Proofs.YtjepokoeljpflaaDoor
