/- The draws of the law on messages. -/
import Derived.Test.YtadjhnaiphnpoaaDoorDrE
import Derived.Test.YtadjhnaiphnpoaaDoorMsL
import Derived.Test.YtadjhnaiphnpoaaDoorPmA
namespace Go.Proofs.YtadjhnaiphnpoaaDoor
open Go.RowKit

def szS : List ByteArray := [⟨#[53, 48, 48, 48]⟩, ⟨#[53, 48, 48, 49]⟩, ⟨#[48, 48]⟩, ⟨#[]⟩, ⟨#[49, 13, 10, 13, 120]⟩, ⟨#[49, 10, 10, 97]⟩]
theorem szS_le (t : ByteArray) (h : t ∈ szS) : t.size ≤ 5 := (show ∀ t ∈ szS, t.size ≤ 5 by decide) t h
def msS : List ByteArray := [⟨#[114, 117, 110]⟩, ⟨#[]⟩, ⟨#[115, 116, 101, 112, 32, 49]⟩, ⟨#[114, 101, 112, 111, 114, 116]⟩]
theorem msS_le (t : ByteArray) (h : t ∈ msS) : t.size ≤ 6 := (show ∀ t ∈ msS, t.size ≤ 6 by decide) t h

theorem info_u8R : (Tryd.prog.info? 5).map (fun i => (i.zero, i.size, i.bytes)) = some (some (.int .u8 0), 1, 1) := by kernel_rfl
theorem drawn_grown {B c : Nat} {w W W2 : World} {row : Option Nat} (h : Drawn B c w W) (hg : W.grownBy W2 row) (hc : c < w.heap.size) (hr : ∀ k, row = some k → w.heap.size ≤ k) : Drawn B c w W2 := by
  have hne : ∀ k, k < w.heap.size → some k ≠ row := fun k hk e => by have := hr k e.symm; omega
  have hsz := h.by'.size
  obtain ⟨hup, a, len, cap, i, x, hh, hcd, hi⟩ := h.cur
  refine ⟨⟨hup, a, len, cap, i, x, (hg.block c (by omega) (hne c hc)).trans hh, ⟨hcd.small, fun k hk => ?_⟩, hi⟩, ⟨hg.os.trans h.by'.os, hg.tape.trans h.by'.tape, hg.output.trans h.by'.output, Nat.le_trans hsz hg.size, fun k hk hk2 => (hg.block k (by omega) (hne k hk)).trans (h.by'.block k hk hk2)⟩⟩
  obtain ⟨b2, off, y, e, hb1, hx, h0, h1⟩ := hcd.cells k hk
  exact ⟨b2, off, y, e, hb1, hg.cell hx (hne b2 (by omega)), h0, h1⟩
theorem bc_one (l : List UInt8) : ∀ u ∈ bc l, u.oneCell' = true := by
  intro u hu
  unfold bc at hu
  obtain ⟨b, _, rfl⟩ := List.mem_map.1 hu
  rfl

set_option maxRecDepth 100000 in
set_option maxHeartbeats 3200000 in
theorem bytes_any (B c : Nat) (n : Int) (w : World) (hC : Cur w B c) (h0 : 0 ≤ n) (h1 : n ≤ 5010) :
    Calls Tryd.prog 52 #[.pointer (some ⟨c, 0, none⟩), .int .i64 n] w fun e w' => ∃ s : ByteArray, e = .returned (.string s) ∧ s.size ≤ 5010 ∧ Drawn B c w w' := by
  obtain ⟨i0, hi0, hz0, hz1, hz2⟩ := info_parts info_u8R
  have hcl := cur_lt hC
  have hd0 := (Drawn.refl hC).alloc (.cells #[] 5)
  have W0 : (w.alloc (.cells #[] 5)).ownsRow w.heap.size 5 1 (.slice (some ⟨w.heap.size, 0, none⟩) 0 0) 0 (bc []) := own_lit0 w w.heap.size 5 1 (Nat.le_refl _)
  go_enter Tryd.func52, Tryd.ntmps52
  go_wp2_with fail
  go_loopw [5, 6] (fun v x wr => ∃ (l : List UInt8) (b : Option Addr) (cc : Nat), v = .slice b l.length cc ∧ x = .int .i64 l.length ∧ (l.length : Int) ≤ n ∧ wr.ownsRow w.heap.size 5 1 v l.length (bc l) ∧ Drawn B c w wr) (fun _ x _ => n.toNat - (RowKit.intOf x).toNat)
  case atStart => exact ⟨[], _, _, rfl, rfl, h0, W0, hd0⟩
  case round =>
    obtain ⟨l, b, cc, rfl, rfl, hl, hW, hd⟩ := hrel
    clear W0 hd0
    by_cases hlt : (l.length : Int) < n
    · go_wp2_with fail
      refine (below_any B c 256 _ hd.cur (by decide)).mono ?_
      rintro e w1 ⟨x, rfl, hx0, _, hx1, hq⟩
      have hx := hx1 (by decide)
      clear hx1
      have hd1 := hd.trans hq
      have hown1 : w1.ownsRow w.heap.size 5 1 (.slice b l.length cc) l.length (bc l) := own_keep hW (fun g cs hg hr => hq.by'.block g (Array.getElem?_eq_some_iff.1 hr).1 (by
        intro e
        have := (World.ownsRow.lt hW g hg).1
        have e2 := Option.some.inj e
        omega))
      have hs1 := hd1.by'.size
      obtain ⟨u, hu⟩ : ∃ u : UInt8, x = (u.toNat : Int) := ⟨UInt8.ofNat x.toNat, by rw [UInt8.toNat_ofNat']; omega⟩
      subst hu
      have hub := u.toNat_lt
      have own1 := World.ownsRow.alloc hown1 (.cells #[.int .u8 u.toNat] 5)
      have hnews : ∀ (j : Nat) (v : Value), (bc [u])[j]? = some v → ∃ ad, (some ⟨w1.heap.size, 0, none⟩ : Option Addr) = some ad ∧ (w1.alloc (.cells #[.int .u8 u.toNat] 5)).cell? (ad.add j) = some v := fun j v hv => by
        cases j with
        | zero =>
          refine ⟨_, rfl, ?_⟩
          have hv' : v = .int .u8 u.toNat := (Option.some.inj hv).symm
          have e5 : (⟨w1.heap.size, 0, none⟩ : Addr).add 0 = ⟨w1.heap.size, 0, none⟩ := rfl
          rw [e5, cell_of_row _ _ 0 _ _ _ (heap_alloc_new w1 _), hv']; rfl
        | succ j => simp [bc] at hv
      clear hq hW hd hown1
      go_wp2_with (at_builtin; go_must (refine wpList_append_any _ rfl _ _ 41 rfl w.heap.size 5 i0 (.int .u8 0) 1 1 Tryd.underlying41 hi0 hz0 hz1 hz2 rfl (by decide) _ _ _ rfl own1 (some ⟨w1.heap.size, 0, none⟩) 1 1 (bc [u]) rfl rfl hnews (bc_one _) (by unfold maxLen; omega) (by omega) (by rw [size_alloc]; omega) _ rfl ?_))
      intro b1 c1 w2 own2 gr1 _
      have hd2 := drawn_grown (hd1.alloc _) gr1 hcl (fun k hk => (World.ownsRow.lt own1 k hk).1)
      have own3 : w2.ownsRow w.heap.size 5 1 (.slice b1 (l.length + 1) c1) (l ++ [u]).length (bc (l ++ [u])) := by
        rw [bc_append, List.length_append]; exact own2
      clear own1 own2 gr1 hd1 hnews
      go_wp2_with fail
      go_roundw
      case rel => exact ⟨l ++ [u], b1, c1, by simp, by simp, by simp; omega, own3, hd2⟩
      case measure => simp [RowKit.intOf]; omega
    · have hcv := run_own_string (P := Tryd.prog) 41 9 5 Tryd.underlying41 Tryd.underlying5 Tryd.underlying9 hW
      have hsz : (⟨l.toArray⟩ : ByteArray).size = l.length := by show l.toArray.size = _; simp
      clear hW
      go_wp2_with fail
      go_ret
      exact ⟨_, rfl, by omega, hd⟩

set_option maxRecDepth 100000 in
theorem body_draw (B c : Nat) (w : World) (hC : Cur w B c) : Calls Tryd.prog 54 #[.pointer (some ⟨c, 0, none⟩)] w fun e w' => ∃ s : ByteArray, e = .returned (.string s) ∧ s.size ≤ 60000 ∧ Drawn B c w w' := by
  have hd0 := Drawn.refl hC
  go_enter Tryd.func54, Tryd.ntmps54
  go_wp2_with fail
  refine (once_any B c 12 _ hd0.cur (by decide)).mono ?_
  rintro e w1 ⟨x, rfl, hq1⟩
  have hd1 := hd0.trans hq1
  cases x
  · go_wp2_with fail
    refine (cmdDraw_any B c _ hd1.cur).mono ?_
    rintro e w2 ⟨s, n, x, rfl, hs, hn0, hn1, hx, hq2⟩
    have hd2 := hd1.trans hq2
    go_wp2_with fail
    refine (cmd_spec s n x _ (by omega) (by omega) (by omega) (by omega)).mono ?_
    rintro e w3 ⟨rfl, hb3⟩
    have hd3 := drawn_bel hd2 hb3
    have ht : (cmdT s n x).size ≤ 50050 := cmdT_size s n x hs hx (by omega) (by omega)
    go_wp2_with fail
    go_ret
    exact ⟨_, rfl, by omega, hd3⟩
  · go_wp2_with fail
    refine (below_any B c 9 _ hd1.cur (by decide)).mono ?_
    rintro e w2 ⟨n, rfl, hn0, _, hn1, hq2⟩
    have hn := hn1 (by decide)
    clear hn1
    have hd2 := hd1.trans hq2
    go_wp2_with fail
    refine (bytes_any B c n _ hd2.cur (by omega) (by omega)).mono ?_
    rintro e w3 ⟨s, rfl, hs, hq3⟩
    go_wp2_with fail
    go_ret
    exact ⟨s, rfl, by omega, hd2.trans hq3⟩

set_option maxRecDepth 100000 in
set_option maxHeartbeats 1600000 in
theorem drawPut_any (a : Option Addr) (len cap : Nat) (w : World) (hc : IsCode w w.heap.size a len cap) :
    Calls Tryd.prog 27 #[.slice a len cap] w fun e w' => ∃ t : ByteArray, e = .returned (.string t) ∧ t.size ≤ 60000 ∧ Below w.heap.size w w' := by
  go_enter Tryd.func27, Tryd.ntmps27
  go_wp2_with fail
  refine (new_any w.heap.size a len cap _ hc (Nat.le_refl _)).mono ?_
  rintro e w1 ⟨rfl, hC1, hb1⟩
  go_wp2_with fail
  refine (once_any w.heap.size w.heap.size 12 _ hC1 (by decide)).mono ?_
  rintro e w2 ⟨x, rfl, hd2⟩
  cases x
  · go_wp2_with fail
    refine (body_draw w.heap.size w.heap.size _ hd2.cur).mono ?_
    rintro e w3 ⟨s, rfl, hs, hd3⟩
    go_wp2_with fail
    go_ret
    exact ⟨s, rfl, hs, hb1.trans ((hd2.trans hd3).below hb1.size)⟩
  · go_wp2_with fail
    refine (below_any w.heap.size w.heap.size 2 _ hd2.cur (by decide)).mono ?_
    rintro e w3 ⟨n, rfl, hn0, _, hn1, hd3⟩
    have hn := hn1 (by decide)
    clear hn1
    have hd23 := hd2.trans hd3
    go_wp2_with fail
    refine (bytes_any w.heap.size w.heap.size (5000 + n) _ hd23.cur (by omega) (by omega)).mono ?_
    rintro e w4 ⟨s, rfl, hs, hd4⟩
    go_wp2_with fail
    go_ret
    exact ⟨s, rfl, by omega, hb1.trans ((hd23.trans hd4).below hb1.size)⟩

theorem put_le (s : ByteArray) : (putT s).size ≤ 5041 + s.size ∧ (putT s).size ≤ 10100 ∧ (s.size ≤ 6 → (putT s).size ≤ 50) := by
  by_cases h : 5000 < s.size
  · rw [putT_yes h]; exact ⟨Nat.zero_le _, Nat.zero_le _, fun _ => Nat.zero_le _⟩
  · have hz := numT_size s.size (by omega) (by omega)
    have e1 : headT.size = 16 := rfl
    have e2 : endT.size = 4 := rfl
    rw [putT_no h]
    simp only [ByteArray.size_append]
    omega

set_option maxRecDepth 100000 in
set_option maxHeartbeats 1600000 in
theorem drawNext_any (a : Option Addr) (len cap : Nat) (w : World) (hc : IsCode w w.heap.size a len cap) :
    Calls Tryd.prog 28 #[.slice a len cap] w fun e w' => ∃ t : ByteArray, e = .returned (.string t) ∧ t.size ≤ 60000 ∧ Below w.heap.size w w' := by
  go_enter Tryd.func28, Tryd.ntmps28
  go_wp2_with fail
  refine (new_any w.heap.size a len cap _ hc (Nat.le_refl _)).mono ?_
  rintro e w1 ⟨rfl, hC1, hb1⟩
  go_wp2_with fail
  refine (once_any w.heap.size w.heap.size 12 _ hC1 (by decide)).mono ?_
  rintro e w2 ⟨x, rfl, hd2⟩
  cases x
  · go_wp2_with fail
    refine (body_draw w.heap.size w.heap.size _ hd2.cur).mono ?_
    rintro e w3 ⟨s, rfl, hs, hd3⟩
    have hd23 := hd2.trans hd3
    go_wp2_with fail
    refine (put_spec s _ (by omega)).mono ?_
    rintro e w4 ⟨rfl, rfl⟩
    have hp := put_le s
    generalize putT s = t at *
    go_wp2_with fail
    refine (spoil_any w.heap.size w.heap.size t _ (by omega) hd23.cur).mono ?_
    rintro e w5 ⟨u, rfl, hu, hd5⟩
    go_wp2_with fail
    go_ret
    exact ⟨u, rfl, by omega, hb1.trans ((hd23.trans hd5).below hb1.size)⟩
  · have hlt := cur_lt hd2.cur
    go_wp2_with fail
    refine (pick_any w.heap.size w.heap.size szS w2.heap.size 6 _ (cur_alloc hd2.cur _) (by omega) (by decide) (by decide) (has_lits w2 _ szS)).mono ?_
    rintro e w3 ⟨s, rfl, hs, hd3⟩
    have hs' := szS_le s hs
    clear hs
    have hd23 := (hd2.alloc _).trans hd3
    go_wp2_with fail
    go_ret
    exact ⟨_, rfl, by simp only [ByteArray.size_append, szL, List.size_toArray, List.length_cons, List.length_nil]; omega, hb1.trans (hd23.below hb1.size)⟩

set_option maxRecDepth 100000 in
set_option maxHeartbeats 3200000 in
theorem drawMsgs_any (a : Option Addr) (len cap : Nat) (w : World) (hc : IsCode w w.heap.size a len cap) :
    Calls Tryd.prog 29 #[.slice a len cap] w fun e w' => ∃ t : ByteArray, e = .returned (.string t) ∧ t.size ≤ 60000 ∧ Below w.heap.size w w' := by
  go_enter Tryd.func29, Tryd.ntmps29
  go_wp2_with fail
  refine (new_any w.heap.size a len cap _ hc (Nat.le_refl _)).mono ?_
  rintro e w1 ⟨rfl, hC1, hb1⟩
  go_wp2_with fail
  refine (below_any w.heap.size w.heap.size 5 _ hC1 (by decide)).mono ?_
  rintro e w2 ⟨n, rfl, hn0, _, hn1, hd2⟩
  have hn := hn1 (by decide)
  clear hn1
  go_wp2_with fail
  refine (once_any w.heap.size w.heap.size 40 _ hd2.cur (by decide)).mono ?_
  rintro e w3 ⟨x, rfl, hq3⟩
  have hd3 := hd2.trans hq3
  clear hd2 hq3
  cases x
  · go_wp2_with fail
    go_loopw [4, 6] (fun v x wr => ∃ (u : ByteArray) (i : Nat), v = .string u ∧ x = .int .i64 i ∧ u.size ≤ 50 * i ∧ (i : Int) ≤ n ∧ Drawn w.heap.size w.heap.size w1 wr) (fun _ x _ => (n).toNat - (RowKit.intOf x).toNat)
    case atStart => exact ⟨_, 0, rfl, rfl, by decide, by omega, hd3⟩
    case round =>
      obtain ⟨u, i, rfl, rfl, hu, hi, hd⟩ := hrel
      clear hd3
      by_cases hlt : (i : Int) < n
      · have hlt2 := cur_lt hd.cur
        go_wp2_with fail
        refine (pick_any w.heap.size w.heap.size msS wr.heap.size 4 _ (cur_alloc hd.cur _) (by omega) (by decide) (by decide) (has_lits wr _ msS)).mono ?_
        rintro e w6 ⟨s, rfl, hs, hq6⟩
        have hs' := msS_le s hs
        clear hs
        have hd6 := (hd.alloc _).trans hq6
        go_wp2_with fail
        refine (put_spec s _ (by omega)).mono ?_
        rintro e w7 ⟨rfl, rfl⟩
        have hp := (put_le s).2.2 (by omega)
        generalize putT s = t at *
        clear hd hq6 hlt2
        go_wp2_with fail
        go_roundw
        case rel => exact ⟨_, i + 1, rfl, by go_num, by simp only [ByteArray.size_append]; omega, by omega, hd6⟩
        case measure => simp [RowKit.intOf]; omega
      · go_wp2_with fail
        refine (spoil_any w.heap.size w.heap.size u _ (by omega) hd.cur).mono ?_
        rintro e w5 ⟨t, rfl, ht, hd5⟩
        go_wp2_with fail
        go_ret
        exact ⟨t, rfl, by omega, hb1.trans ((hd.trans hd5).below hb1.size)⟩
  · go_wp2_with fail
    refine (below_any w.heap.size w.heap.size 2 _ hd3.cur (by decide)).mono ?_
    rintro e w4 ⟨m, rfl, hm0, _, hm1, hq4⟩
    have hm := hm1 (by decide)
    clear hm1
    have hd4 := hd3.trans hq4
    clear hd3 hq4
    go_wp2_with fail
    go_loopw [4, 6] (fun v x wr => ∃ (u : ByteArray) (i : Nat), v = .string u ∧ x = .int .i64 i ∧ u.size ≤ 50 * i ∧ (i : Int) ≤ (100 + m) ∧ Drawn w.heap.size w.heap.size w1 wr) (fun _ x _ => ((100 + m)).toNat - (RowKit.intOf x).toNat)
    case atStart => exact ⟨_, 0, rfl, rfl, by decide, by omega, hd4⟩
    case round =>
      obtain ⟨u, i, rfl, rfl, hu, hi, hd⟩ := hrel
      clear hd4
      by_cases hlt : (i : Int) < (100 + m)
      · have hlt2 := cur_lt hd.cur
        go_wp2_with fail
        refine (pick_any w.heap.size w.heap.size msS wr.heap.size 4 _ (cur_alloc hd.cur _) (by omega) (by decide) (by decide) (has_lits wr _ msS)).mono ?_
        rintro e w6 ⟨s, rfl, hs, hq6⟩
        have hs' := msS_le s hs
        clear hs
        have hd6 := (hd.alloc _).trans hq6
        go_wp2_with fail
        refine (put_spec s _ (by omega)).mono ?_
        rintro e w7 ⟨rfl, rfl⟩
        have hp := (put_le s).2.2 (by omega)
        generalize putT s = t at *
        clear hd hq6 hlt2
        go_wp2_with fail
        go_roundw
        case rel => exact ⟨_, i + 1, rfl, by go_num, by simp only [ByteArray.size_append]; omega, by omega, hd6⟩
        case measure => simp [RowKit.intOf]; omega
      · go_wp2_with fail
        refine (spoil_any w.heap.size w.heap.size u _ (by omega) hd.cur).mono ?_
        rintro e w5 ⟨t, rfl, ht, hd5⟩
        go_wp2_with fail
        go_ret
        exact ⟨t, rfl, by omega, hb1.trans ((hd.trans hd5).below hb1.size)⟩

theorem at_any (a : Option Addr) (len cap B : Nat) (w : World) (hc : IsCode w B a len cap) :
    Calls Tryd.prog 31 #[.slice a len cap, .int .i64 3] w fun e w' => (∃ x : Int, e = .returned (.int .i64 x) ∧ 0 ≤ x ∧ x ≤ 255) ∧ w' = w := by
  have hsm := hc.small
  by_cases h : 3 < len
  · obtain ⟨b, off, y, rfl, _, hx, h0, h1⟩ := hc.cells 3 h
    clear hc
    go_enter Tryd.func31, Tryd.ntmps31
    go_wp2_with fail
    go_ret
    exact ⟨⟨_, rfl, by omega, by omega⟩, rfl⟩
  · clear hc
    go_enter Tryd.func31, Tryd.ntmps31
    go_wp2_with fail
    go_ret
    exact ⟨⟨_, rfl, by omega, by omega⟩, rfl⟩
set_option maxRecDepth 100000 in
set_option maxHeartbeats 1600000 in
theorem sameT_any (ss : List ByteArray) (a b : Option Addr) (ca cb : Nat) (w : World) (hl : ss.length ≤ 1000000) (hS : Ls w a ss) (hT : Ls w b ss) :
    Calls Tryd.prog 30 #[.slice a ss.length ca, .slice b ss.length cb] w fun e w' => e = .returned (.bool true) ∧ Below w.heap.size w w' := by
  go_enter Tryd.func30, Tryd.ntmps30
  go_wp2_with fail
  go_loopw [5] (fun x wr => ∃ i : Nat, x = .int .i64 i ∧ i ≤ ss.length ∧ Below w.heap.size w wr) (fun x _ => ss.length - (RowKit.intOf x).toNat)
  case atStart => exact ⟨0, rfl, Nat.zero_le _, Below.refl _ _⟩
  case round =>
    obtain ⟨i, rfl, hil, hbl⟩ := hrel
    by_cases hlt : i < ss.length
    · obtain ⟨g, rfl, hg, hc⟩ := ls_below hS hbl i hlt
      obtain ⟨g', rfl, hg', hc'⟩ := ls_below hT hbl i hlt
      clear hS hT
      generalize ss[i] = t at *
      go_wp2_with fail
      go_region
      all_goals
        go_wp2_with fail
        first
          | exact ⟨⟨i + 1, by go_num, by omega, hbl.drew⟩, by simp [RowKit.intOf]; omega⟩
          | (go_roundw
             case rel => exact ⟨i + 1, by go_num, by omega, hbl.drew⟩
             case measure => simp [RowKit.intOf]; omega)
    · clear hS hT
      go_wp2_with fail
      go_ret
      exact ⟨rfl, hbl⟩


end Go.Proofs.YtadjhnaiphnpoaaDoor
