/- The walk of FnWire: it returns true. -/
import Derived.Test.YtadjhnaiphnpoaaDoorDrF
import Derived.Test.YtadjhnaiphnpoaaDoorMsS
import Derived.Test.YtadjhnaiphnpoaaDoorMsI
import Derived.Test.YtadjhnaiphnpoaaDoorFwP
import Derived.Test.YtadjhnaiphnpoaaDoorBigC
import Derived.Test.YtadjhnaiphnpoaaDoorLibP
import Derived.Test.YtadjhnaiphnpoaaDoorCodeA
import Derived.Test.YtadjhnaiphnpoaaDoorRows
import Derived.LaidMore
import Derived.Stop.Joined
import Derived.MakeChecks
namespace Go.Proofs.YtadjhnaiphnpoaaDoor.fnWire
open Go.ChangeShapes Go.WideShapes Go.ChangeAt Go.RowKit

def laidL : List (String × DataW Unit) := [("math/bits.deBruijn32tab", Rows.laid_math_bits_deBruijn32tab), ("math/bits.deBruijn64tab", Rows.laid_math_bits_deBruijn64tab), ("internal/strconv.uint64pow10", Rows.laid_internal_strconv_uint64pow10), ("unicode/utf8.acceptRanges", Rows.laid_unicode_utf8_acceptRanges), ("strconv.ErrRange", Rows.laid_strconv_ErrRange), ("strconv.ErrSyntax", Rows.laid_strconv_ErrSyntax), ("unicode/utf8.first", Rows.laid_unicode_utf8_first)]

theorem lib_of {W : World} (h : laidMetH Tryd.prog laidL W) : LibOk W := by
  rw [MakeChecks.laidMetH_plain _ _ _ (by kernel_rfl)] at h
  have h3 := h.tail.tail
  exact ⟨pow_of h3, syn_of h3.tail.tail.tail, rng_of h3.tail.tail⟩
theorem code_below {w w' : World} {B : Nat} {a : Option Addr} {len cap : Nat} (h : IsCode w B a len cap) (hb : Below B w w') {B' : Nat} (hB : B ≤ B') : IsCode w' B' a len cap :=
  ⟨h.small, fun j hj => by
    obtain ⟨b, off, y, e, hb1, hx, h0, h1⟩ := h.cells j hj
    exact ⟨b, off, y, e, by omega, (hb.cell (p := ⟨b, off + j, none⟩) hb1).trans hx, h0, h1⟩⟩
set_option maxRecDepth 100000 in
set_option maxHeartbeats 6400000 in
theorem walk (a : Option Addr) (len cap : Nat) (w : World) (hc : IsCode w w.heap.size a len cap) (hL : laidMetH Tryd.prog laidL w) :
    Calls Tryd.prog 8 #[.slice a len cap] w fun e w' => e = .returned (.bool true) ∧ Below w.heap.size w w' := by
  have H : Hid (LibOk w) := lib_of hL
  clear hL
  have hsm := hc.small
  by_cases hbig : 1048576 < len
  · go_enter Tryd.func8, Tryd.ntmps8
    go_wp2_with fail
    refine (big_yes a len cap _ hbig hsm).mono ?_
    rintro e w1 ⟨rfl, rfl⟩
    go_wp2_with fail
    go_ret
    exact ⟨rfl, Below.refl _ _⟩
  · have HC : Hid (IsCode w w.heap.size a len cap) := hc
    clear hc
    go_enter Tryd.func8, Tryd.ntmps8
    go_wp2_with fail
    refine (big_no a len cap _ (by omega)).mono ?_
    rintro e w1 ⟨rfl, rfl⟩
    clear hbig
    go_wp2_with fail
    refine (drawPut_any a len cap _ HC.out).mono ?_
    rintro e w2 ⟨body, rfl, hbd, B2⟩
    go_wp2_with fail
    refine (put_impl body _ (by omega) (H.out.below B2).tab).mono ?_
    rintro e w3 ⟨rfl, hb3⟩
    have B3 := B2.trans (hb3.mono B2.size)
    clear B2 hb3
    go_wp2_with fail
    refine (drawNext_any a len cap _ (code_below HC.out B3 B3.size)).mono ?_
    rintro e w4 ⟨u, rfl, hu, hb4⟩
    have B4 := B3.trans (hb4.mono B3.size)
    clear B3 hb4
    obtain ⟨xb, xn, xk, hX⟩ : ∃ xb xn xk, nextV u = nmV xb xn xk := ⟨_, _, _, nextV_nm u⟩
    have HI : Hid (∀ q, LibOk q → Calls Tryd.prog 13 #[.string u] q fun e w' => e = .returned (nextV u) ∧ Below q.heap.size q w') := fun q hq => next_impl u q (by omega) hq
    have HS : Hid (∀ q, Calls Tryd.prog 12 #[.string u] q fun e w' => e = .returned (nextV u) ∧ Below q.heap.size q w') := fun q => next_spec u q (by omega)
    rw [hX, nmV] at HI HS
    clear hX
    go_wp2_with fail
    refine Calls.mono (HI.out _ (H.out.below B4)) ?_
    rintro e w5 ⟨rfl, hb5⟩
    have B5 := B4.trans (hb5.mono B4.size)
    clear B4 hb5
    go_wp2_with fail
    refine Calls.mono (HS.out _) ?_
    rintro e w6 ⟨rfl, hb6⟩
    have B6 := B5.trans (hb6.mono B5.size)
    clear B5 hb6 HI HS
    go_wp2_with fail
    refine (drawMsgs_any a len cap _ (code_below HC.out B6 B6.size)).mono ?_
    rintro e w7 ⟨v, rfl, hv, hb7⟩
    have B7 := B6.trans (hb7.mono B6.size)
    clear B6 hb7
    have hlen : (msgs v).1.length ≤ 100 := by have := msgR_len v 100 0 []; simpa [msgs] using this
    have hsmall : ∀ b ∈ (msgs v).1, b.size ≤ 5000 := msgR_small v 100 0 [] (fun b hb => by simp at hb)
    obtain ⟨hcat, hall⟩ := catP_msgs v
    have HS : Hid (∀ q, Calls Tryd.prog 14 #[.string v] q fun e w' => (∃ r, e = .returned (.tuple #[r, .int .i64 (msgs v).2.1, .int .i64 (msgs v).2.2]) ∧ Ws w' q.heap.size r (msgs v).1) ∧ Below q.heap.size q w') := fun q => msgs_spec v q (by omega)
    have HI : Hid (∀ q, LibOk q → Calls Tryd.prog 15 #[.string v] q fun e w' => (∃ r, e = .returned (.tuple #[r, .int .i64 (msgs v).2.1, .int .i64 (msgs v).2.2]) ∧ Ws w' q.heap.size r (msgs v).1) ∧ Below q.heap.size q w') := fun q hq => msgs_impl v q (by omega) hq
    generalize msgs v = R at *
    obtain ⟨ss, bn, kk⟩ := R
    simp only [] at HS HI hlen hsmall hcat hall
    have HSM : Hid (∀ b ∈ ss, b.size ≤ 5000) := hsmall
    have HCAT : Hid ((catP ss).data.toList = v.data.toList.take bn) := hcat
    clear hsmall hcat
    go_wp2_with fail
    refine Calls.mono (HI.out _ (H.out.below B7)) ?_
    rintro e w8 ⟨⟨r1, rfl, S1⟩, hb8⟩
    obtain ⟨p1, q1, rfl⟩ := ws_len S1
    have L8 : Hid (Ls w8 p1 ss) := ls_of S1
    have B8 := B7.trans (hb8.mono B7.size)
    clear B7 hb8 S1
    go_wp2_with fail
    refine Calls.mono (HS.out _) ?_
    rintro e w9 ⟨⟨r2, rfl, S2⟩, hb9⟩
    obtain ⟨p2, q2, rfl⟩ := ws_len S2
    have L9 : Hid (Ls w9 p1 ss) := ls_below L8.out hb9
    have M9 : Hid (Ls w9 p2 ss) := ls_of S2
    have B9 := B8.trans (hb9.mono B8.size)
    clear B8 hb9 S2 L8 HI HS
    go_wp2_with fail
    refine (put_spec body _ (by omega)).mono ?_
    rintro e w10 ⟨rfl, rfl⟩
    go_wp2_with fail
    refine (sameT_any ss p1 p2 q1 q2 _ (by omega) L9.out M9.out).mono ?_
    rintro e w11 ⟨rfl, hb11⟩
    have L11 : Hid (Ls w11 p1 ss) := ls_below L9.out hb11
    have B11 := B9.trans (hb11.mono B9.size)
    clear B9 hb11 L9 M9
    go_wp2_with fail
    go_loopw [19, 20] (fun t x wr => ∃ (T : ByteArray) (j : Nat), t = .string T ∧ x = .int .i64 j ∧ j ≤ ss.length ∧ T.size ≤ 5041 * j ∧ Hid (T.data.toList = (catP (ss.take j)).data.toList) ∧ Hid (Ls wr p1 ss) ∧ Below w.heap.size w wr) (fun _ x _ => ss.length - (RowKit.intOf x).toNat)
    case atStart => exact ⟨⟨#[]⟩, 0, rfl, rfl, Nat.zero_le _, Nat.zero_le _, rfl, L11, B11⟩
    case round =>
      obtain ⟨T, j, rfl, rfl, hj, hT, HT, L, B⟩ := hrel
      clear L11 B11
      by_cases hlt : j < ss.length
      · obtain ⟨g, rfl, hg, hcell⟩ := L.out j hlt
        have hsj := HSM.out _ (List.getElem_mem hlt)
        have hpl := put_len ss[j]
        have HT2 : Hid ((T ++ putT ss[j]).data.toList = (catP (ss.take (j + 1))).data.toList) := by
          show _ = _
          rw [List.take_succ_eq_append_getElem hlt, catP_snoc, ← HT.out, ByteArray.data_append, Array.toList_append]
        clear HT
        generalize ss[j] = sj at *
        go_wp2_with fail
        refine (put_impl sj _ (by omega) (H.out.below B).tab).mono ?_
        rintro e w13 ⟨rfl, hb13⟩
        have L13 : Hid (Ls w13 (some ⟨g, 0, none⟩) ss) := ls_below L.out hb13
        have B13 := B.trans (hb13.mono B.size)
        clear L B hb13 hcell hg
        generalize putT sj = pj at *
        go_wp2_with fail
        go_roundw
        case rel => exact ⟨T ++ pj, j + 1, rfl, by go_num, by omega, by simp only [ByteArray.size_append]; omega, HT2, L13, B13⟩
        case measure => simp [RowKit.intOf]; omega
      · have hje : j = ss.length := by omega
        subst hje
        have heq : (T.toList == (v.extract 0 bn).toList) = true := by
          have h1 := HT.out
          rw [List.take_length, HCAT.out] at h1
          rw [ByteArray.toList_eq, ByteArray.toList_eq, h1, ext_list, List.drop_zero, Nat.sub_zero]
          simp
        clear HT L HCAT HSM hT hlen
        by_cases h5 : 5000 < body.size
        · have hp : putT body = ⟨#[]⟩ := putT_yes h5
          rw [hp]
          have h5' : (5000 : Int) < body.size := by omega
          clear hp
          go_wp2_with fail
          go_ret
          exact ⟨rfl, B⟩
        · have hps := put_size h5
          have hpl := put_len body
          have hne : (putT body).toList.isEmpty = false := by
            rw [ByteArray.toList_eq]
            cases hl : (putT body).data.toList with
            | nil =>
              have h0 : (putT body).size = 0 := by rw [Lib.size_eq, hl]; rfl
              omega
            | cons x l => rfl
          have hne2 : ((putT body).toList == []) = false := by
            cases hl : (putT body).toList with
            | nil => rw [hl] at hne; exact absurd hne (by decide)
            | cons x l => rfl
          have HN1 : Hid (nextV (putT body ++ u) = nmV body ((putT body).size : Int) 0) := next_put (u := u) h5 (by rw [ByteArray.data_append, Array.toList_append])
          have HN2 : Hid (∀ k, k < (putT body).size → nextV ((putT body).extract 0 k) = nmV ⟨#[]⟩ 0 1) := fun k hk => next_part h5 hk (by rw [ext_list, List.drop_zero, Nat.sub_zero])
          have hpos : 0 < (putT body).size := by omega
          clear h5 hps
          generalize putT body = s at *
          have HI : Hid (∀ q, LibOk q → Calls Tryd.prog 13 #[.string (s ++ u)] q fun e w' => e = .returned (nextV (s ++ u)) ∧ Below q.heap.size q w') := fun q hq => next_impl (s ++ u) q (by rw [ByteArray.size_append]; omega) hq
          rw [HN1.out, nmV] at HI
          go_wp2_with fail
          refine Calls.mono (HI.out _ (H.out.below B)) ?_
          rintro e w14 ⟨rfl, hb14⟩
          have B14 := B.trans (hb14.mono B.size)
          clear B hb14 HI
          go_wp2_with fail
          refine (at_any a len cap _ _ (code_below HC.out B14 (Nat.le_refl _))).mono ?_
          rintro e w15 ⟨⟨x, rfl, hx0, hx1⟩, rfl⟩
          obtain ⟨X, rfl⟩ := Int.eq_ofNat_of_zero_le hx0
          obtain ⟨k, hk⟩ : ∃ k, k = X % s.size := ⟨_, rfl⟩
          have hkl : k < s.size := by rw [hk]; exact Nat.mod_lt _ hpos
          have hk1 : (X : Int) % (s.size : Int) = (k : Int) := by rw [hk]; exact (Int.natCast_emod _ _).symm
          have hk2 : (X : Int).tmod (s.size : Int) = (k : Int) := by rw [Int.tmod_eq_emod_of_nonneg (by omega)]; exact hk1
          have hs0 : ¬ (s.size : Int) = 0 := by omega
          clear hk
          have HQ : Hid (∀ q, LibOk q → Calls Tryd.prog 13 #[.string (s.extract 0 k)] q fun e w' => e = .returned (nextV (s.extract 0 k)) ∧ Below q.heap.size q w') := fun q hq => next_impl (s.extract 0 k) q (by rw [ByteArray.size_extract]; omega) hq
          rw [HN2.out k hkl, nmV] at HQ
          go_wp2_with fail
          refine Calls.mono (HQ.out _ (H.out.below B14)) ?_
          rintro e w16 ⟨rfl, hb16⟩
          have B16 := B14.trans (hb16.mono B14.size)
          clear B14 hb16 HQ
          go_wp2_with fail
          go_ret
          exact ⟨rfl, B16⟩

end Go.Proofs.YtadjhnaiphnpoaaDoor.fnWire
