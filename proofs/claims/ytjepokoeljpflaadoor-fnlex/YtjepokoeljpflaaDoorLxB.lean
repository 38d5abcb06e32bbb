/- What stands between words, as the lexer passes it by. -/
import Derived.Test.YtjepokoeljpflaaDoorLxA
import Derived.Test.YtjepokoeljpflaaDoorPreW
namespace Go.Proofs.YtjepokoeljpflaaDoor
open Go.RowKit

theorem index_tw (l : List UInt8) : (0 ≤ Lib.indexByte l 10 → Lib.indexByte l 10 = (l.takeWhile ne10).length) ∧ (Lib.indexByte l 10 < 0 → (l.takeWhile ne10).length = l.length) := by
  induction l with
  | nil => simp [Lib.indexByte]
  | cons b l ih =>
    have hg := Lib.indexByte_ge l 10
    simp only [Lib.indexByte, List.takeWhile_cons]
    by_cases hb : b = 10
    · subst hb; simp [ne10]
    · have h1 : (b == 10) = false := by simp [hb]
      have h2 : ne10 b = true := by
        simp only [ne10, decide_eq_true_eq]; intro e; exact hb (UInt8.toNat_inj.1 e)
      rw [h1, if_pos h2]
      simp only [Bool.false_eq_true, if_false, List.length_cons]
      by_cases h3 : Lib.indexByte l 10 = -1
      · rw [h3]; simp; exact ih.2 (by omega)
      · rw [if_neg (by simp [h3])]
        have := ih.1 (by omega)
        constructor <;> intro h <;> omega

set_option maxRecDepth 100000 in
theorem pre_dash (s : ByteArray) (j : Nat) (h : j < s.size) : preB (s.extract j s.size) ⟨#[45, 45]⟩ = true ↔ ∃ h2 : j + 1 < s.size, s[j].toNat = 45 ∧ s[j + 1].toNat = 45 := by
  rw [pre_list]
  show List.isPrefixOf [45, 45] _ = true ↔ _
  constructor
  · intro hp
    rw [List.isPrefixOf_iff_prefix] at hp
    have hl := hp.length_le
    rw [List.length_drop, ← Lib.size_eq] at hl
    have h2 : j + 1 < s.size := by simp at hl; omega
    rw [cons_at s j h, cons_at s (j + 1) h2] at hp
    simp only [List.cons_prefix_cons] at hp
    exact ⟨h2, by rw [← hp.1]; rfl, by rw [← hp.2.1]; rfl⟩
  · rintro ⟨h2, d1, d2⟩
    rw [cons_at s j h, cons_at s (j + 1) h2, UInt8.toNat_inj.1 (show s[j].toNat = (45 : UInt8).toNat from d1), UInt8.toNat_inj.1 (show s[j + 1].toNat = (45 : UInt8).toNat from d2)]
    simp [List.isPrefixOf]
theorem line_any (t : ByteArray) (w : World) :
    Calls Tryd.prog 34 #[.string t] w fun e w' => e = .returned (.int .i64 ((t.data.toList.takeWhile ne10).length : Nat)) ∧ w = w' := by
  have hi := index_tw t.data.toList
  have hsz := Lib.size_eq t
  have hg := Lib.indexByte_ge t.data.toList 10
  by_cases h : 0 ≤ Lib.indexByte t.data.toList 10
  · have H : Hid (Lib.indexByte t.data.toList 10 = ((t.data.toList.takeWhile ne10).length : Nat)) := hi.1 h
    clear hi
    go_enter Tryd.func34, Tryd.ntmps34
    go_wp2_with fail
    refine (Tryd.strings_IndexByte t 10 _).mono ?_
    rintro e w1 ⟨rfl, rfl⟩
    rw [show ((10 : Int).toNat.toUInt8) = 10 from rfl]
    go_wp2_with fail
    go_ret
    exact ⟨ret_int H.out, rfl⟩
  · have h' : Lib.indexByte t.data.toList 10 < 0 := by omega
    have H : Hid ((t.size : Int) = ((t.data.toList.takeWhile ne10).length : Nat)) := by
      show _ = _
      rw [hi.2 h', hsz]
    clear hi h hsz
    go_enter Tryd.func34, Tryd.ntmps34
    go_wp2_with fail
    refine (Tryd.strings_IndexByte t 10 _).mono ?_
    rintro e w1 ⟨rfl, rfl⟩
    rw [show ((10 : Int).toNat.toUInt8) = 10 from rfl]
    go_wp2_with fail
    go_ret
    exact ⟨ret_int H.out, rfl⟩

/-- What the lexer's steps leave. -/
structure LxTo (B c : Nat) (s : ByteArray) (w w' : World) (i ln : Nat) : Prop where
  lx : Lx w' B c s i ln
  by' : w.grownBy w' (some c)
theorem Lx.drew {w : World} {B c : Nat} {s : ByteArray} {i ln : Nat} (h : Lx w B c s i ln) : Lx w.drew B c s i ln := ⟨h.up, h.row⟩
theorem Lx.drewN {w : World} {B c : Nat} {s : ByteArray} {i ln : Nat} (h : Lx w B c s i ln) (n : Nat) : Lx (w.drewN n) B c s i ln := ⟨h.up, h.row⟩
theorem by_drewN {a w : World} {row : Option Nat} (h : a.grownBy w row) (n : Nat) : a.grownBy (w.drewN n) row := ⟨h.os, h.tape, h.output, h.size, h.block⟩
theorem LxTo.drew {B c : Nat} {s : ByteArray} {w w' : World} {i ln : Nat} (h : LxTo B c s w w' i ln) : LxTo B c s w w'.drew i ln := ⟨h.lx.drew, by_drew h.by'⟩
theorem LxTo.drewN {B c : Nat} {s : ByteArray} {w w' : World} {i ln : Nat} (h : LxTo B c s w w' i ln) (n : Nat) : LxTo B c s w (w'.drewN n) i ln := ⟨h.lx.drewN n, by_drewN h.by' n⟩
theorem LxTo.set1 {B c : Nat} {s : ByteArray} {w w' : World} {i ln : Nat} (h : LxTo B c s w w' i ln) (a : Nat) (z : Int) (hz : z = a) : LxTo B c s w (w'.setCell ⟨c, 1, none⟩ (.int .i64 z)) a ln := ⟨h.lx.set1' a z hz, by_trans h.by' (by_set _ c 1 _)⟩
theorem LxTo.set2 {B c : Nat} {s : ByteArray} {w w' : World} {i ln : Nat} (h : LxTo B c s w w' i ln) (a : Nat) (z : Int) (hz : z = a) : LxTo B c s w (w'.setCell ⟨c, 2, none⟩ (.int .i64 z)) i a := ⟨h.lx.set2' a z hz, by_trans h.by' (by_set _ c 2 _)⟩
theorem LxTo.step {B c : Nat} {s : ByteArray} {u v w : World} {i ln j m : Nat} (h : LxTo B c s u v i ln) (k : LxTo B c s v w j m) : LxTo B c s u w j m := ⟨k.lx, by_trans h.by' k.by'⟩
theorem LxTo.less {B c : Nat} {s : ByteArray} {w wr w' : World} {i ln j : Nat} (h : LxTo B c s w w' i ln) (hj : (intOf ((wr.cell? ⟨c, 1, none⟩).getD undef)).toNat = j) (hlt : s.size - i < s.size - j) :
    s.size - (intOf ((w'.cell? ⟨c, 1, none⟩).getD undef)).toNat < s.size - (intOf ((wr.cell? ⟨c, 1, none⟩).getD undef)).toNat := by
  rw [h.lx.c1, hj]; simpa [intOf] using hlt
theorem LxTo.start {B c : Nat} {s : ByteArray} {w : World} {i ln : Nat} (h : Lx w B c s i ln) : LxTo B c s w w i ln := ⟨h, by_refl w _⟩

set_option maxRecDepth 100000 in
set_option maxHeartbeats 4000000 in
theorem toWord_any (B c : Nat) (s : ByteArray) (i ln : Nat) (w : World) (hL : Lx w B c s i ln) (hi : i ≤ s.size) (hs : s.size ≤ 1048576) (hln : ln ≤ 1048577) :
    Calls Tryd.prog 25 #[.pointer (some ⟨c, 0, none⟩)] w fun e w' => e = .returned (.bool (decide ((skipAll s i ln).1 < s.size))) ∧ LxTo B c s w w' (skipAll s i ln).1 (skipAll s i ln).2 := by
  have HST : Hid (LxTo B c s w w i ln) := .start hL
  clear hL
  go_enter Tryd.func25, Tryd.ntmps25
  go_wp2_with fail
  go_loopw [] (fun wr => ∃ j m : Nat, j ≤ s.size ∧ m ≤ 1048577 + j ∧ skipAll s j m = skipAll s i ln ∧ LxTo B c s w wr j m) (fun wr => s.size - (intOf ((wr.cell? ⟨c, 1, none⟩).getD undef)).toNat)
  case atStart => exact ⟨i, ln, hi, by omega, rfl, HST.out⟩
  case round =>
    obtain ⟨j, m, hj, hm, he, hT⟩ := hrel
    have c0 := hT.lx.c0
    have c1 := hT.lx.c1
    have c2 := hT.lx.c2
    have z1 := hT.lx.fr 1
    have z2 := hT.lx.fr 2
    have HE : Hid (skipAll s j m = skipAll s i ln) := he
    have HM : Hid ((intOf ((wr.cell? ⟨c, 1, none⟩).getD undef)).toNat = j) := by show _ = _; rw [c1]; simp [intOf]
    clear he
    by_cases hlt : j < s.size
    · have ht1 : 0 < (s.extract j s.size).size := by simp; omega
      have ht0 : (s.extract j s.size)[0] = s[j] := by
        have h := Lib.extract_data s j s.size
        rw [cons_at s j hlt, show s.size - j = (s.size - j - 1) + 1 by omega, List.take_succ_cons] at h
        have h2 : (s.extract j s.size).data.toList[0]? = some s[j] := by rw [h]; rfl
        have h3 : (s.extract j s.size).data.toList[0]? = some (s.extract j s.size)[0] := by
          rw [List.getElem?_eq_getElem (by rw [← Lib.size_eq]; exact ht1)]; rfl
        rw [h3] at h2; exact Option.some.inj h2
      by_cases h10 : s[j].toNat = 10
      · have HS : Hid (skipAll s (j + 1) (m + 1) = skipAll s i ln) := (skip_nl hlt h10).trans HE.out
        have ht10 : (s.extract j s.size)[0].toNat = 10 := by rw [ht0]; exact h10
        clear HE ht0
        go_wp2_with fail
        go_region
        go_wp2_with fail
        go_region
        generalize s.extract j s.size = t at *
        go_wp2_with fail
        go_roundw
        case rel => exact ⟨j + 1, m + 1, by omega, by omega, HS.out, by (first | exact (hT.set2 (m + 1) _ (by omega)).set1 (j + 1) _ (by omega) | exact ((hT.set2 (m + 1) _ (by omega)).set1 (j + 1) _ (by omega)).drew | exact ((hT.set2 (m + 1) _ (by omega)).set1 (j + 1) _ (by omega)).drew.drew | exact ((hT.set2 (m + 1) _ (by omega)).set1 (j + 1) _ (by omega)).drew.drew.drew | exact (((hT.set2 (m + 1) _ (by omega)).set1 (j + 1) _ (by omega)).drew.drew.drew).drew)⟩
        case measure => exact LxTo.less (i := j + 1) (ln := m + 1) (by (first | exact (hT.set2 (m + 1) _ (by omega)).set1 (j + 1) _ (by omega) | exact ((hT.set2 (m + 1) _ (by omega)).set1 (j + 1) _ (by omega)).drew | exact ((hT.set2 (m + 1) _ (by omega)).set1 (j + 1) _ (by omega)).drew.drew | exact ((hT.set2 (m + 1) _ (by omega)).set1 (j + 1) _ (by omega)).drew.drew.drew | exact (((hT.set2 (m + 1) _ (by omega)).set1 (j + 1) _ (by omega)).drew.drew.drew).drew)) HM.out (by omega)
      · have b10 : (((s.extract j s.size)[0].toNat : Int) == 10) = false := by rw [ht0]; exact beq_no (by omega)
        have hcl := (cls_b s[j]).2.2.2.2.2
        have HCL : Hid (∀ b : UInt8, wr.cell? ⟨c, 3 + b.toNat, none⟩ = some (.int .u8 (clsN b.toNat))) := hT.lx.cls
        by_cases h32 : s[j].toNat = 32 ∨ s[j].toNat = 9
        · have HS : Hid (skipAll s (j + 1) m = skipAll s i ln) := (skip_bl hlt h32).trans HE.out
          have hc := HCL.out (s.extract j s.size)[0]
          have hcl1 : ((clsN (s.extract j s.size)[0].toNat : Nat) : Int) == 1 := by rw [ht0, hcl]; simp; omega
          have hb256 := (s.extract j s.size)[0].toNat_lt
          clear HE ht0 hcl HCL
          go_wp2_with fail
          go_region
          go_wp2_with fail
          go_region
          generalize s.extract j s.size = t at *
          go_wp2_with fail
          go_region
          go_wp2_with fail
          go_roundw
          case rel => exact ⟨j + 1, m, by omega, by omega, HS.out, by (first | exact hT.set1 (j + 1) _ (by omega) | exact (hT.set1 (j + 1) _ (by omega)).drew | exact (hT.set1 (j + 1) _ (by omega)).drew.drew | exact (hT.set1 (j + 1) _ (by omega)).drew.drew.drew | exact ((hT.set1 (j + 1) _ (by omega)).drew.drew.drew).drew)⟩
          case measure => exact LxTo.less (i := j + 1) (ln := m) (by (first | exact hT.set1 (j + 1) _ (by omega) | exact (hT.set1 (j + 1) _ (by omega)).drew | exact (hT.set1 (j + 1) _ (by omega)).drew.drew | exact (hT.set1 (j + 1) _ (by omega)).drew.drew.drew | exact ((hT.set1 (j + 1) _ (by omega)).drew.drew.drew).drew)) HM.out (by omega)
        · have hc := HCL.out (s.extract j s.size)[0]
          have hcl1 : (((clsN (s.extract j s.size)[0].toNat : Nat) : Int) == 1) = false := by rw [ht0, hcl]; simp; omega
          have hb256 := (s.extract j s.size)[0].toNat_lt
          by_cases hd : ∃ h2 : j + 1 < s.size, s[j].toNat = 45 ∧ s[j + 1].toNat = 45
          · obtain ⟨h2, d1, d2⟩ := hd
            have HS : Hid (skipAll s (endp ne10 s j) m = skipAll s i ln) := (skip_cm h2 d1 d2).trans HE.out
            have HD : Hid (j + 1 ≤ endp ne10 s j) := endp_dash hlt d1
            have HP : Hid (preB (s.extract j s.size) ⟨#[45, 45]⟩ = true) := (pre_dash s j hlt).2 ⟨h2, d1, d2⟩
            have HW : Hid ((((s.extract j s.size).data.toList.takeWhile ne10).length : Nat) = endp ne10 s j - j) := by
              show _ = _
              rw [Lib.extract_data, List.take_of_length_le (by rw [List.length_drop, ← Lib.size_eq]; omega)]
              unfold endp; omega
            have hel : Hid (endp ne10 s j ≤ s.size) := endp_le ne10 s j hj
            obtain ⟨d, hd⟩ : ∃ d, endp ne10 s j = j + d := ⟨endp ne10 s j - j, by have := HD.out; omega⟩
            have hd1 : 1 ≤ d := by have := HD.out; omega
            have hd2 : j + d ≤ s.size := by have := hel.out; omega
            rw [hd] at HS
            have HW' : Hid ((((s.extract j s.size).data.toList.takeWhile ne10).length : Nat) = d) := by show _ = _; have := HW.out; omega
            have j6 : IntKind.i64.wrap ((j : Int) + d) = (j : Int) + d := wrap_k _ (by omega) (by omega)
            have hclt := hT.lx.lt
            clear HE ht0 hcl HCL HW HD hel hd
            go_wp2_with fail
            go_region
            go_wp2_with fail
            go_region
            generalize s.extract j s.size = t at *
            go_wp2_with fail
            go_region
            go_wp2_with fail
            refine (pre_any t ⟨#[45, 45]⟩ _).mono ?_
            rintro e w1 ⟨rfl, rfl⟩
            rw [HP.out]
            go_wp2_with fail
            go_region_with (go_at_call 34; refine (line_any t _).mono ?_; rintro e w1 ⟨rfl, rfl⟩; rw [HW'.out])
            all_goals
              go_wp2_with fail
              go_roundw
              case rel => exact ⟨j + d, m, by omega, by omega, HS.out, by (first | exact hT.set1 (j + d) _ (by first | rfl | omega) | exact (hT.set1 (j + d) _ (by first | rfl | omega)).drew | exact (hT.set1 (j + d) _ (by first | rfl | omega)).drew.drew | exact (hT.set1 (j + d) _ (by first | rfl | omega)).drew.drew.drew | exact ((hT.set1 (j + d) _ (by first | rfl | omega)).drew.drew.drew).drew)⟩
              case measure => exact LxTo.less (i := j + d) (ln := m) (by (first | exact hT.set1 (j + d) _ (by first | rfl | omega) | exact (hT.set1 (j + d) _ (by first | rfl | omega)).drew | exact (hT.set1 (j + d) _ (by first | rfl | omega)).drew.drew | exact (hT.set1 (j + d) _ (by first | rfl | omega)).drew.drew.drew | exact ((hT.set1 (j + d) _ (by first | rfl | omega)).drew.drew.drew).drew)) HM.out (by omega)
          · have HS : Hid (skipAll s i ln = (j, m)) := HE.out.symm.trans (skip_no hlt h10 h32 (fun h2 h => hd ⟨h2, h⟩))
            have HP : Hid (preB (s.extract j s.size) ⟨#[45, 45]⟩ = false) := Bool.eq_false_iff.2 fun h => hd ((pre_dash s j hlt).1 h)
            clear HE ht0 hcl HCL
            go_wp2_with fail
            go_region
            go_wp2_with fail
            go_region
            generalize s.extract j s.size = t at *
            go_wp2_with fail
            go_region
            go_wp2_with fail
            refine (pre_any t ⟨#[45, 45]⟩ _).mono ?_
            rintro e w1 ⟨rfl, rfl⟩
            rw [HP.out]
            go_wp2_with fail
            go_ret
            rw [HS.out]
            exact ⟨ret_bool (by simp; omega), by (first | exact hT | exact (hT).drew | exact (hT).drew.drew | exact (hT).drew.drew.drew | exact ((hT).drew.drew.drew).drew)⟩
    · have HS : Hid (skipAll s i ln = (j, m)) := HE.out.symm.trans (skip_end hlt)
      go_wp2_with fail
      go_region
      go_wp2_with fail
      go_ret
      rw [HS.out]
      exact ⟨ret_bool (by simp; omega), by (first | exact hT | exact (hT).drew | exact (hT).drew.drew | exact (hT).drew.drew.drew | exact ((hT).drew.drew.drew).drew)⟩
end Go.Proofs.YtjepokoeljpflaaDoor
