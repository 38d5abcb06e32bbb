/- A numeral read by the program: numberIn. -/
import Derived.Test.YtadjhnaiphnpoaaDoorRcP
import Derived.Test.YtadjhnaiphnpoaaDoorCmI
import Derived.Shelf.Strconv.ErrVarAll
namespace Go.Proofs.YtadjhnaiphnpoaaDoor
open Go.RowKit Go.Lib

/-- What Atoi and Itoa read of the library's. -/
structure LibOk (w : World) : Prop where
  tab : Lib.TabIs Tryd.prog w "internal/strconv.uint64pow10" .u64 Lib.pow10Tab
  syn : ∃ tp p, w.var? Tryd.prog "strconv.ErrSyntax" = some #[.iface tp p]
  rng : ∃ tp p, w.var? Tryd.prog "strconv.ErrRange" = some #[.iface tp p]
theorem LibOk.below {w w' : World} (h : LibOk w) (hb : Below w.heap.size w w') : LibOk w' :=
  ⟨var_below hb h.tab, h.syn.elim fun tp h => h.elim fun p h => ⟨tp, p, var_below hb h⟩, h.rng.elim fun tp h => h.elim fun p h => ⟨tp, p, var_below hb h⟩⟩

set_option maxRecDepth 100000 in
set_option maxHeartbeats 1600000 in
theorem num_any (s : ByteArray) (w : World) (hs : s.size ≤ 2097152) (hL : LibOk w) :
    Calls Tryd.prog 49 #[.string s] w fun e w' => (∃ (n : Int) (ok : Bool), e = .returned (.tuple #[.int .i64 n, .bool ok]) ∧ -9223372036854775808 ≤ n ∧ n ≤ 9223372036854775807 ∧ (if ok then numI s.data.toList = some n else numI s.data.toList = none)) ∧ Below w.heap.size w w' := by
  have HL : Hid (LibOk w) := hL
  cases ha : atoiAll s.data.toList with
  | «syntax» =>
    obtain ⟨tp, p, hv⟩ := hL.syn
    have HN : Hid (numI s.data.toList = none) := by show _ = _; rw [numI, ha]
    have C := Tryd.strconv_Atoi_syntax_var s (by omega) ha tp p w hv
    clear hv hL
    go_enter Tryd.func49, Tryd.ntmps49
    go_wp2_with fail
    refine C.mono ?_
    rintro e w1 ⟨N, rfl, _, _, hb⟩
    clear C
    go_wp2_with fail
    exact bodyPost_ret (v := .tuple #[.int .i64 0, .bool false]) (by simp [results, Tryd.results49, go_sem, *]) rfl ⟨⟨0, false, rfl, by decide, by decide, HN.out⟩, hb⟩
  | range =>
    obtain ⟨tp, p, hv⟩ := hL.rng
    have HN : Hid (numI s.data.toList = none) := by show _ = _; rw [numI, ha]
    have C := Tryd.strconv_Atoi_range_var s (by omega) ha tp p w hv
    obtain ⟨b0, b1⟩ := atoiSat_bounds s.data.toList
    generalize atoiSat s.data.toList = z at *
    clear hv hL
    go_enter Tryd.func49, Tryd.ntmps49
    go_wp2_with fail
    refine C.mono ?_
    rintro e w1 ⟨N, rfl, _, _, hb⟩
    clear C
    go_wp2_with fail
    exact bodyPost_ret (v := .tuple #[.int .i64 z, .bool false]) (by simp [results, Tryd.results49, go_sem, *]) rfl ⟨⟨z, false, rfl, b0, b1, HN.out⟩, hb⟩
  | ok v =>
    obtain ⟨b0, b1⟩ := atoiAll_bounds ha
    have C : Calls Tryd.prog 65 #[.string s] w fun e w' => e = .returned (.tuple #[.int .i64 v, .nilIface]) ∧ Below w.heap.size w w' := (Tryd.strconv_Atoi_ok s (by omega) v ha w).mono fun e w' h => ⟨h.1, by rcases h.2 with rfl | ⟨t, rfl⟩; exact Below.refl _ _; exact Lib.bytesWorld_below _ _ _⟩
    have hz := numT_size v b0 b1
    by_cases hi : itoa v = s.data.toList
    · have HN : Hid (numI s.data.toList = some v) := by show _ = _; rw [numI, ha]; simp [hi]
      have HI : Hid ((numT v).toList == s.toList) := by show (_ == _) = true; rw [ByteArray.toList_eq, ByteArray.toList_eq]; simpa [numT] using hi
      clear hL ha hi
      go_enter Tryd.func49, Tryd.ntmps49
      go_wp2_with fail
      refine C.mono ?_
      rintro e w1 ⟨rfl, hb⟩
      clear C
      go_wp2_with fail
      refine (dec_impl v b0 b1 _ (HL.out.below hb).tab).mono ?_
      rintro e w2 ⟨rfl, hb2⟩
      rw [show (⟨(itoa v).toArray⟩ : ByteArray) = numT v from rfl]
      have hq : ((numT v).toList == s.toList) = true := HI.out
      generalize numT v = t at *
      go_wp2_with fail
      exact bodyPost_ret (v := .tuple #[.int .i64 v, .bool true]) (by simp [results, Tryd.results49, go_sem, *]) rfl ⟨⟨v, true, rfl, b0, b1, HN.out⟩, hb.trans (hb2.mono hb.size)⟩
    · have HN : Hid (numI s.data.toList = none) := by show _ = _; rw [numI, ha]; simp [hi]
      have HI : Hid (((numT v).toList == s.toList) = false) := by show _ = _; rw [ByteArray.toList_eq, ByteArray.toList_eq]; simpa [numT] using hi
      clear hL ha hi
      go_enter Tryd.func49, Tryd.ntmps49
      go_wp2_with fail
      refine C.mono ?_
      rintro e w1 ⟨rfl, hb⟩
      clear C
      go_wp2_with fail
      refine (dec_impl v b0 b1 _ (HL.out.below hb).tab).mono ?_
      rintro e w2 ⟨rfl, hb2⟩
      rw [show (⟨(itoa v).toArray⟩ : ByteArray) = numT v from rfl]
      have hq := HI.out
      generalize numT v = t at *
      go_wp2_with fail
      exact bodyPost_ret (v := .tuple #[.int .i64 v, .bool false]) (by simp [results, Tryd.results49, go_sem, *]) rfl ⟨⟨v, false, rfl, b0, b1, HN.out⟩, hb.trans (hb2.mono hb.size)⟩
end Go.Proofs.YtadjhnaiphnpoaaDoor
