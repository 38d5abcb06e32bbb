/- PutMessage of both sides: the size as a numeral, and the bytes. -/
import Derived.Test.YtadjhnaiphnpoaaDoorCmP
import Derived.Test.YtadjhnaiphnpoaaDoorDecI
namespace Go.Proofs.YtadjhnaiphnpoaaDoor
open Go.RowKit Go.Lib

def headT : ByteArray := ⟨#[67, 111, 110, 116, 101, 110, 116, 45, 76, 101, 110, 103, 116, 104, 58, 32]⟩
def endT : ByteArray := ⟨#[13, 10, 13, 10]⟩
def putT (s : ByteArray) : ByteArray := if 5000 < s.size then ⟨#[]⟩ else ((headT ++ numT s.size) ++ endT) ++ s
theorem putT_yes {s : ByteArray} (h : 5000 < s.size) : putT s = ⟨#[]⟩ := by rw [putT, if_pos h]
theorem putT_no {s : ByteArray} (h : ¬ 5000 < s.size) : putT s = ((headT ++ numT s.size) ++ endT) ++ s := by rw [putT, if_neg h]

set_option maxRecDepth 100000 in
theorem put_spec (s : ByteArray) (w : World) (hs : s.size ≤ 2097152) :
    Calls Tryd.prog 10 #[.string s] w fun e w' => e = .returned (.string (putT s)) ∧ w = w' := by
  by_cases h : 5000 < s.size
  · have h' : (5000 : Int) < s.size := by omega
    have H : Hid _ := putT_yes h
    clear h
    go_enter Tryd.func10, Tryd.ntmps10
    go_wp2_with fail
    go_ret
    exact ⟨by rw [H.out]; rfl, rfl⟩
  · have h' : (s.size : Int) ≤ 5000 := by omega
    have H : Hid _ := putT_no h
    have hz := numT_size s.size (by omega) (by omega)
    have e1 : headT.size = 16 := rfl
    have e2 : endT.size = 4 := rfl
    clear h
    go_enter Tryd.func10, Tryd.ntmps10
    go_wp2_with fail
    refine (dec_spec s.size (by omega) (by omega) _).mono ?_
    rintro e w1 ⟨rfl, rfl⟩
    rw [show (⟨(itoa s.size).toArray⟩ : ByteArray) = numT s.size from rfl]
    generalize numT s.size = t at *
    go_wp2_with fail
    go_ret
    exact ⟨by rw [H.out]; rfl, rfl⟩
set_option maxRecDepth 100000 in
theorem put_impl (s : ByteArray) (w : World) (hs : s.size ≤ 2097152) (htab : Lib.TabIs Tryd.prog w "internal/strconv.uint64pow10" .u64 Lib.pow10Tab) :
    Calls Tryd.prog 11 #[.string s] w fun e w' => e = .returned (.string (putT s)) ∧ Below w.heap.size w w' := by
  have HT : Hid (Lib.TabIs Tryd.prog w "internal/strconv.uint64pow10" .u64 Lib.pow10Tab) := htab
  clear htab
  by_cases h : 5000 < s.size
  · have h' : (5000 : Int) < s.size := by omega
    have H : Hid _ := putT_yes h
    clear h
    go_enter Tryd.func11, Tryd.ntmps11
    go_wp2_with fail
    go_ret
    exact ⟨by rw [H.out]; rfl, Below.refl _ _⟩
  · have h' : (s.size : Int) ≤ 5000 := by omega
    have H : Hid _ := putT_no h
    have hz := numT_size s.size (by omega) (by omega)
    clear h
    go_enter Tryd.func11, Tryd.ntmps11
    go_wp2_with fail
    refine (dec_impl s.size (by omega) (by omega) _ HT.out).mono ?_
    rintro e w1 ⟨rfl, hb⟩
    rw [show (⟨(itoa s.size).toArray⟩ : ByteArray) = numT s.size from rfl]
    generalize numT s.size = t at *
    go_wp2_with fail
    go_ret
    exact ⟨by rw [H.out]; rfl, hb⟩
end Go.Proofs.YtadjhnaiphnpoaaDoor
