/- The walk of FnCmd: it returns true. -/
import Derived.Test.YtadjhnaiphnpoaaDoorDrE
import Derived.Test.YtadjhnaiphnpoaaDoorRcI
import Derived.Test.YtadjhnaiphnpoaaDoorRcS
import Derived.Test.YtadjhnaiphnpoaaDoorBigC
import Derived.Test.YtadjhnaiphnpoaaDoorFcP
import Derived.Test.YtadjhnaiphnpoaaDoorLibP
import Derived.Test.YtadjhnaiphnpoaaDoorCodeA
import Derived.Test.YtadjhnaiphnpoaaDoorRows
import Derived.LaidMore
import Derived.Stop.Joined
import Derived.MakeChecks
namespace Go.Proofs.YtadjhnaiphnpoaaDoor.fnCmd
open Go.ChangeShapes Go.WideShapes Go.ChangeAt Go.RowKit

def laidL : List (String × DataW Unit) := [("math/bits.deBruijn32tab", Rows.laid_math_bits_deBruijn32tab), ("math/bits.deBruijn64tab", Rows.laid_math_bits_deBruijn64tab), ("internal/strconv.uint64pow10", Rows.laid_internal_strconv_uint64pow10), ("strconv.ErrRange", Rows.laid_strconv_ErrRange), ("strconv.ErrSyntax", Rows.laid_strconv_ErrSyntax)]

theorem lib_of {W : World} (h : laidMetH Tryd.prog laidL W) : LibOk W := by
  rw [MakeChecks.laidMetH_plain _ _ _ (by kernel_rfl)] at h
  have h3 := h.tail.tail
  exact ⟨pow_of h3, syn_of h3.tail.tail, rng_of h3.tail⟩
theorem code_below {w w' : World} {B : Nat} {a : Option Addr} {len cap : Nat} (h : IsCode w B a len cap) (hb : Below B w w') {B' : Nat} (hB : B ≤ B') : IsCode w' B' a len cap :=
  ⟨h.small, fun j hj => by
    obtain ⟨b, off, y, e, hb1, hx, h0, h1⟩ := h.cells j hj
    exact ⟨b, off, y, e, by omega, (hb.cell (p := ⟨b, off + j, none⟩) hb1).trans hx, h0, h1⟩⟩
set_option maxRecDepth 100000 in
set_option maxHeartbeats 6400000 in
theorem walk (a : Option Addr) (len cap : Nat) (w : World) (hc : IsCode w w.heap.size a len cap) (hL : laidMetH Tryd.prog laidL w) :
    Calls Tryd.prog 9 #[.slice a len cap] w fun e w' => e = .returned (.bool true) ∧ Below w.heap.size w w' := by
  have H : Hid (LibOk w) := lib_of hL
  clear hL
  have hsm := hc.small
  by_cases hbig : 1048576 < len
  · go_enter Tryd.func9, Tryd.ntmps9
    go_wp2_with fail
    refine (big_yes a len cap _ hbig hsm).mono ?_
    rintro e w1 ⟨rfl, rfl⟩
    go_wp2_with fail
    go_ret
    exact ⟨rfl, Below.refl _ _⟩
  · have HC : Hid (IsCode w w.heap.size a len cap) := hc
    clear hc
    go_enter Tryd.func9, Tryd.ntmps9
    go_wp2_with fail
    refine (big_no a len cap _ (by omega)).mono ?_
    rintro e w1 ⟨rfl, rfl⟩
    clear hbig
    go_wp2_with fail
    refine (drawCmd_any a len cap _ HC.out).mono ?_
    rintro e w2 ⟨W, n, x, rfl, hW, hn0, hn1, hx, hb2⟩
    have B3 := hb2.alloc hb2.size (.cells #[.string W, .int .i64 n, .string x] 35)
    have R3 : Hid (CR (w2.alloc (.cells #[.string W, .int .i64 n, .string x] 35)) w2.heap.size W n x) := cr_new w2 W n x
    clear hb2
    go_wp2_with fail
    generalize w2.alloc (.cells #[.string W, .int .i64 n, .string x] 35) = w3 at *
    generalize w2.heap.size = b3 at *
    refine (cmd_impl W n x _ (by omega) (by omega) (by omega) (by omega) (H.out.below0 B3).tab).mono ?_
    rintro e w4 ⟨rfl, hb4⟩
    have B4 := B3.trans (hb4.mono B3.size)
    have R4 : Hid (CR w4 b3 W n x) := R3.out.below hb4
    clear R3 B3 hb4
    go_wp2_with fail
    refine (drawRead_any a len cap _ (code_below HC.out B4 B4.size)).mono ?_
    rintro e w5 ⟨u, rfl, hu, hb5⟩
    have B5 := B4.trans (hb5.mono B4.size)
    have R5 : Hid (CR w5 b3 W n x) := R4.out.below hb5
    clear R4 B4 hb5
    obtain ⟨V, m, y, ok, hV, hVs, hys, hm0, hm1, hok⟩ := readV_full u
    have HI : Hid (∀ q, LibOk q → Calls Tryd.prog 24 #[.string u] q fun e w' => e = .returned (readV u) ∧ Below q.heap.size q w') := fun q hq => read_impl u q (by omega) hq
    have HS : Hid (∀ q, Calls Tryd.prog 23 #[.string u] q fun e w' => e = .returned (readV u) ∧ Below q.heap.size q w') := fun q => read_spec u q (by omega)
    rw [hV] at HI HS
    clear hV
    have HOK : Hid (ok = true → (cmdT V m y).toList = u.toList) := hok
    clear hok
    go_wp2_with fail
    refine Calls.mono (HI.out _ (H.out.below0 B5)) ?_
    rintro e w6 ⟨rfl, hb6⟩
    have B6 := B5.trans (hb6.mono B5.size)
    have B7 := B6.alloc B6.size (.cells #[.string V, .int .i64 m, .string y] 35)
    have R7 : Hid (CR (w6.alloc (.cells #[.string V, .int .i64 m, .string y] 35)) b3 W n x) := (R5.out.below hb6).alloc _
    have X7 : Hid (CR (w6.alloc (.cells #[.string V, .int .i64 m, .string y] 35)) w6.heap.size V m y) := cr_new w6 V m y
    clear R5 B5 hb6 B6
    go_wp2_with fail
    generalize w6.alloc (.cells #[.string V, .int .i64 m, .string y] 35) = w7 at *
    generalize w6.heap.size = b6 at *
    refine Calls.mono (HS.out _) ?_
    rintro e w8 ⟨rfl, hb8⟩
    have B8 := B7.trans (hb8.mono B7.size)
    have B9 := B8.alloc B8.size (.cells #[.string V, .int .i64 m, .string y] 35)
    have R9 : Hid (CR (w8.alloc (.cells #[.string V, .int .i64 m, .string y] 35)) b3 W n x) := (R7.out.below hb8).alloc _
    have X9 : Hid (CR (w8.alloc (.cells #[.string V, .int .i64 m, .string y] 35)) b6 V m y) := (X7.out.below hb8).alloc _
    have Y9 : Hid (CR (w8.alloc (.cells #[.string V, .int .i64 m, .string y] 35)) w8.heap.size V m y) := cr_new w8 V m y
    have c9 := R9.out.cells
    obtain ⟨c0, c1, c2⟩ := c9
    clear R7 X7 B7 hb8 B8 HI HS
    go_wp2_with fail
    generalize w8.alloc (.cells #[.string V, .int .i64 m, .string y] 35) = w9 at *
    generalize w8.heap.size = b8 at *
    refine (cmd_spec W n x _ (by omega) (by omega) (by omega) (by omega)).mono ?_
    rintro e w10 ⟨rfl, hb10⟩
    have B10 := B9.trans (hb10.mono B9.size)
    have R10 : Hid (CR w10 b3 W n x) := R9.out.below hb10
    have X10 : Hid (CR w10 b6 V m y) := X9.out.below hb10
    have Y10 : Hid (CR w10 b8 V m y) := Y9.out.below hb10
    clear R9 X9 Y9 B9 hb10 c0 c1 c2
    obtain ⟨x0, x1, x2⟩ := X10.out.cells
    obtain ⟨y0, y1, y2⟩ := Y10.out.cells
    cases ok with
    | false =>
      clear HOK
      by_cases he : (cmdT W n x).toList = []
      · have hq : (cmdT W n x).toList.isEmpty = true := by rw [he]; rfl
        have HBq : Hid (Below w.heap.size w w10) := B10
        clear he
        go_wp2_with fail
        go_ret
        exact ⟨rfl, HBq.out⟩
      · have hq : (cmdT W n x).toList.isEmpty = false := by simpa using he
        obtain ⟨n', x', hbk, hcb, p0, p1, px⟩ := cmd_back W n x he
        have hsz : (cmdT W n x).size ≤ 50050 := cmdT_size W n x hW hx (by omega) (by omega)
        have HR := read_impl (cmdT W n x) w10 (by omega) (H.out.below0 B10)
        rw [hbk, cmdV] at HR
        have HRR : Hid (Calls Tryd.prog 24 #[.string (cmdT W n x)] w10 fun e w' => e = .returned (.tuple #[.agg #[.string W, .int .i64 n', .string x'], .bool true]) ∧ Below w10.heap.size w10 w') := HR
        clear HR hbk he
        go_wp2_with fail
        refine Calls.mono HRR.out ?_
        rintro e w12 ⟨rfl, hb12⟩
        have B12 := (B10).trans (hb12.mono (B10).size)
        have B13 := B12.alloc B12.size (.cells #[.string W, .int .i64 n', .string x'] 35)
        have R13 : CR (w12.alloc (.cells #[.string W, .int .i64 n', .string x'] 35)) b3 W n x := ((R10.out).below hb12).alloc _
        obtain ⟨k0, k1, k2⟩ := R13.cells
        clear R13 B12 HRR hb12
        go_wp2_with fail
        refine (cmd_impl W n' x' _ (by omega) (by omega) p0 p1 (H.out.below0 B13).tab).mono ?_
        rintro e w14 ⟨rfl, hb14⟩
        rw [hcb]
        have B14 := B13.trans (hb14.mono B13.size)
        clear B13 hb14 hcb k0 k1 k2
        go_wp2_with fail
        go_ret
        exact ⟨rfl, B14⟩
    | true =>
      have hcu := HOK.out rfl
      have hcu1 : ((cmdT V m y).toList == u.toList) = true := by rw [hcu]; simp
      have HT : Hid (Lib.TabIs Tryd.prog w10 "internal/strconv.uint64pow10" .u64 Lib.pow10Tab) := (H.out.below0 B10).tab
      clear hcu HOK
      go_wp2_with fail
      refine (cmd_impl V m y _ (by omega) (by omega) hm0 hm1 HT.out).mono ?_
      rintro e w11 ⟨rfl, hb11⟩
      have B11 := B10.trans (hb11.mono B10.size)
      have R11 : Hid (CR w11 b3 W n x) := R10.out.below hb11
      generalize cmdT V m y = t9 at *
      clear R10 X10 Y10 B10 hb11 x0 x1 x2 y0 y1 y2 HT
      by_cases he : (cmdT W n x).toList = []
      · have hq : (cmdT W n x).toList.isEmpty = true := by rw [he]; rfl
        have HBq : Hid (Below w.heap.size w w11) := B11
        clear he
        go_wp2_with fail
        go_ret
        exact ⟨rfl, HBq.out⟩
      · have hq : (cmdT W n x).toList.isEmpty = false := by simpa using he
        obtain ⟨n', x', hbk, hcb, p0, p1, px⟩ := cmd_back W n x he
        have hsz : (cmdT W n x).size ≤ 50050 := cmdT_size W n x hW hx (by omega) (by omega)
        have HR := read_impl (cmdT W n x) w11 (by omega) (H.out.below0 B11)
        rw [hbk, cmdV] at HR
        have HRR : Hid (Calls Tryd.prog 24 #[.string (cmdT W n x)] w11 fun e w' => e = .returned (.tuple #[.agg #[.string W, .int .i64 n', .string x'], .bool true]) ∧ Below w11.heap.size w11 w') := HR
        clear HR hbk he
        go_wp2_with fail
        refine Calls.mono HRR.out ?_
        rintro e w12 ⟨rfl, hb12⟩
        have B12 := (B11).trans (hb12.mono (B11).size)
        have B13 := B12.alloc B12.size (.cells #[.string W, .int .i64 n', .string x'] 35)
        have R13 : CR (w12.alloc (.cells #[.string W, .int .i64 n', .string x'] 35)) b3 W n x := ((R11.out).below hb12).alloc _
        obtain ⟨k0, k1, k2⟩ := R13.cells
        clear R13 B12 HRR hb12
        go_wp2_with fail
        refine (cmd_impl W n' x' _ (by omega) (by omega) p0 p1 (H.out.below0 B13).tab).mono ?_
        rintro e w14 ⟨rfl, hb14⟩
        rw [hcb]
        have B14 := B13.trans (hb14.mono B13.size)
        clear B13 hb14 hcb k0 k1 k2
        go_wp2_with fail
        go_ret
        exact ⟨rfl, B14⟩

end Go.Proofs.YtadjhnaiphnpoaaDoor.fnCmd
