/- A command's word and its kind; what a command is told as. No function of the program. -/
import Derived.Test.YtadjhnaiphnpoaaDoorHasW
import Derived.Lib.Itoa
import Derived.Lib.ItoaLen
import Derived.Maps.OwnSet
namespace Go.Proofs.YtadjhnaiphnpoaaDoor
open Go.RowKit Go.Lib Go.Maps

def bareL : List ByteArray := [⟨#[99, 108, 101, 97, 114]⟩, ⟨#[114, 117, 110]⟩, ⟨#[114, 101, 114, 117, 110]⟩, ⟨#[111, 118, 101, 114]⟩, ⟨#[111, 117, 116]⟩, ⟨#[119, 104, 101, 114, 101]⟩, ⟨#[108, 105, 110, 101, 115]⟩, ⟨#[111, 117, 116, 112, 117, 116]⟩, ⟨#[114, 101, 112, 111, 114, 116]⟩]
def numL : List ByteArray := [⟨#[98, 114, 101, 97, 107]⟩, ⟨#[115, 116, 101, 112]⟩, ⟨#[98, 97, 99, 107]⟩, ⟨#[108, 111, 99, 97, 108, 115]⟩]
def textL : List ByteArray := [⟨#[108, 97, 117, 110, 99, 104]⟩, ⟨#[115, 104, 111, 119]⟩, ⟨#[99, 104, 97, 110, 103, 101, 100]⟩]
/-- 1 for a word alone, 2 for one with a number, 3 for one with a text, 0 for none. -/
def kindOf (s : ByteArray) : Int := if hasS bareL s then 1 else if hasS numL s then 2 else if hasS textL s then 3 else 0
theorem kind_cases (s : ByteArray) : kindOf s = 0 ∨ kindOf s = 1 ∨ kindOf s = 2 ∨ kindOf s = 3 := by
  unfold kindOf
  by_cases h1 : hasS bareL s = true
  · rw [if_pos h1]; simp
  · rw [if_neg h1]
    by_cases h2 : hasS numL s = true
    · rw [if_pos h2]; simp
    · rw [if_neg h2]
      by_cases h3 : hasS textL s = true
      · rw [if_pos h3]; simp
      · rw [if_neg h3]; simp

/-- The table of kinds, as it is laid. -/
def kindP : List (List UInt8 × Int) := [([108, 97, 117, 110, 99, 104], 3), ([98, 114, 101, 97, 107], 2), ([99, 108, 101, 97, 114], 1), ([114, 117, 110], 1), ([114, 101, 114, 117, 110], 1), ([115, 116, 101, 112], 2), ([98, 97, 99, 107], 2), ([111, 118, 101, 114], 1), ([111, 117, 116], 1), ([119, 104, 101, 114, 101], 1), ([108, 111, 99, 97, 108, 115], 2), ([115, 104, 111, 119], 3), ([99, 104, 97, 110, 103, 101, 100], 3), ([108, 105, 110, 101, 115], 1), ([111, 117, 116, 112, 117, 116], 1), ([114, 101, 112, 111, 114, 116], 1)]
def kindD : DataW Unit := kindP.foldl (fun m p => m.put (.string p.1) (.lit (.int .i64 p.2))) (.map [])

theorem at_put {H : Type} {m : DataW H} (hm : IsMap m) (k k' : List UInt8) (d z : DataW H) : (m.put (.string k) d).atKey (.string k') z = if k' = k then d else m.atKey (.string k') z := by
  by_cases h : k' = k
  · rw [h, if_pos rfl]; exact atKey_put_same hm (show WideAt.IsKeyLit (.string k) from trivial) _ _
  · rw [if_neg h]; exact atKey_put_other (fun e => h (Lit.string.inj e)) _ _
theorem at_fold (k : List UInt8) (z : DataW Unit) : ∀ (L : List (List UInt8 × Int)) (m : DataW Unit), IsMap m →
    (L.foldl (fun m p => m.put (.string p.1) (.lit (.int .i64 p.2))) m).atKey (.string k) z = L.foldl (fun r p => if k = p.1 then (.lit (.int .i64 p.2)) else r) (m.atKey (.string k) z)
  | [], m, _ => rfl
  | p :: L, m, hm => by
    rw [List.foldl_cons, List.foldl_cons, at_fold k z L _ (hm.put _ _), at_put hm]
theorem kind_at (s : ByteArray) : kindD.atKey (.string s.data.toList) (.lit (.int .i64 0)) = .lit (.int .i64 (kindOf s)) := by
  unfold kindD
  rw [at_fold _ _ _ _ isMap_empty]
  simp only [kindP, List.foldl_cons, List.foldl_nil]
  unfold kindOf hasS bareL numL textL
  simp only [ByteArray.toList_eq, List.any_cons, List.any_nil, Bool.or_false]
  generalize s.data.toList = l
  by_cases h : l ∈ kindP.map (·.1)
  · simp only [kindP, List.map_cons, List.map_nil, List.mem_cons, List.not_mem_nil, or_false] at h
    rcases h with rfl | rfl | rfl | rfl | rfl | rfl | rfl | rfl | rfl | rfl | rfl | rfl | rfl | rfl | rfl | rfl <;> rfl
  · simp only [kindP, List.map_cons, List.map_nil, List.mem_cons, List.not_mem_nil, or_false, not_or] at h
    obtain ⟨h0, h1, h2, h3, h4, h5, h6, h7, h8, h9, h10, h11, h12, h13, h14, h15⟩ := h
    have e : ∀ t : List UInt8, l ≠ t → (t == l) = false := fun t ht => by simpa using fun e => ht e.symm
    simp only [if_neg h0, if_neg h1, if_neg h2, if_neg h3, if_neg h4, if_neg h5, if_neg h6, if_neg h7, if_neg h8, if_neg h9, if_neg h10, if_neg h11, if_neg h12, if_neg h13, if_neg h14, if_neg h15]
    simp only [e _ h0, e _ h1, e _ h2, e _ h3, e _ h4, e _ h5, e _ h6, e _ h7, e _ h8, e _ h9, e _ h10, e _ h11, e _ h12, e _ h13, e _ h14, e _ h15]
    rfl

def blankT : ByteArray := ⟨#[32]⟩
def numT (n : Int) : ByteArray := ⟨(itoa n).toArray⟩
theorem numT_size (n : Int) (h0 : -9223372036854775808 ≤ n) (h1 : n ≤ 9223372036854775807) : (numT n).size ≤ 21 := by
  have := itoa_length_le n h0 h1
  show (itoa n).toArray.size ≤ 21
  simpa using this
/-- What a command is told as. -/
def cmdT (s : ByteArray) (n : Int) (x : ByteArray) : ByteArray :=
  if kindOf s = 1 then s else if kindOf s = 2 then (if 0 ≤ n ∧ n ≤ 999999 then (s ++ blankT) ++ numT n else ⟨#[]⟩) else if kindOf s = 3 then (s ++ blankT) ++ x else ⟨#[]⟩
theorem cmdT1 {s : ByteArray} (n : Int) (x : ByteArray) (h : kindOf s = 1) : cmdT s n x = s := by rw [cmdT, if_pos h]
theorem cmdT2 {s : ByteArray} {n : Int} (x : ByteArray) (h : kindOf s = 2) (hn : 0 ≤ n ∧ n ≤ 999999) : cmdT s n x = (s ++ blankT) ++ numT n := by rw [cmdT, if_neg (by omega), if_pos h, if_pos hn]
theorem cmdT2' {s : ByteArray} {n : Int} (x : ByteArray) (h : kindOf s = 2) (hn : ¬ (0 ≤ n ∧ n ≤ 999999)) : cmdT s n x = ⟨#[]⟩ := by rw [cmdT, if_neg (by omega), if_pos h, if_neg hn]
theorem cmdT3 {s : ByteArray} (n : Int) (x : ByteArray) (h : kindOf s = 3) : cmdT s n x = (s ++ blankT) ++ x := by rw [cmdT, if_neg (by omega), if_neg (by omega), if_pos h]
theorem cmdT0 {s : ByteArray} (n : Int) (x : ByteArray) (h : kindOf s = 0) : cmdT s n x = ⟨#[]⟩ := by rw [cmdT, if_neg (by omega), if_neg (by omega), if_neg (by omega)]
end Go.Proofs.YtadjhnaiphnpoaaDoor
