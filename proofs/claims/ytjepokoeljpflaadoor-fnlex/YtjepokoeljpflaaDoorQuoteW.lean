/- Quote: both functions' walks, one contract. -/
import Derived.Test.YtjepokoeljpflaaDoorKit
namespace Go.Proofs.YtjepokoeljpflaaDoor
open Go.RowKit

def esc (b : UInt8) : List UInt8 := if b = 10 then [92, 110] else if b = 34 ∨ b = 92 then [92, b] else [b]
def qb (l : List UInt8) : List UInt8 := 34 :: l.flatMap esc
theorem qb_nil : qb [] = [34] := rfl
theorem qb_snoc (l : List UInt8) (b : UInt8) : qb (l ++ [b]) = qb l ++ esc b := by simp [qb]
theorem esc_len (b : UInt8) : (esc b).length ≤ 2 := by unfold esc; split <;> (try split) <;> simp
theorem qb_len (l : List UInt8) : (qb l).length ≤ 1 + 2 * l.length := by
  induction l with
  | nil => simp [qb]
  | cons b l ih => simp only [qb, List.flatMap_cons, List.length_cons, List.length_append] at *; have := esc_len b; omega
theorem Tryd.info5 : (Tryd.prog.info? 5).map (fun i => (i.zero, i.size, i.bytes)) = some (some (.int .u8 0), 1, 1) := by kernel_rfl
theorem take_snoc (s : ByteArray) (k : Nat) (h : k < s.size) : s.data.toList.take (k + 1) = s.data.toList.take k ++ [s[k]] := by
  rw [List.take_succ_eq_append_getElem (by simpa using h)]; rfl
theorem qb_step (s : ByteArray) (k : Nat) (h : k < s.size) : qb (s.data.toList.take (k + 1)) = qb (s.data.toList.take k) ++ esc s[k] := by
  rw [take_snoc s k h, qb_snoc]
theorem qb_take_len (s : ByteArray) (k : Nat) (h : k ≤ s.size) : (qb (s.data.toList.take k)).length ≤ 1 + 2 * s.size := by
  have := qb_len (s.data.toList.take k); have h2 : (s.data.toList.take k).length ≤ k := List.length_take_le _ _; omega
theorem owns_lit (w : World) (e : TypeId) (l : List UInt8) (hl : l.length ≤ 1000) : (w.alloc (.cells (bc l).toArray e)).ownsRow w.heap.size e 1 (.slice (some ⟨w.heap.size, 0, none⟩) l.length l.length) l.length (bc l) :=
  ⟨by simp [bc_length], .inr ⟨w.heap.size, l.length, _, rfl, Nat.le_refl _, heap_alloc_new w _, Nat.le_refl _, by unfold maxLen; omega, by simp [bc_length], by rw [List.take_of_length_le]; simp [bc_length]⟩⟩
theorem lit_cells (wx : World) (e : TypeId) (l : List UInt8) : ∀ j u, (bc l)[j]? = some u → (wx.alloc (.cells (bc l).toArray e)).cell? ((⟨wx.heap.size, 0, none⟩ : Addr).add j) = some u := by
  intro j u hu
  have hadd : (⟨wx.heap.size, 0, none⟩ : Addr).add j = ⟨wx.heap.size, j, none⟩ := by unfold Addr.add; split <;> simp_all
  rw [hadd, cell_of_row _ wx.heap.size j _ e (0, 0) (heap_alloc_new wx _)]
  simpa using hu
theorem bc_oneCell (l : List UInt8) : ∀ u ∈ bc l, u.oneCell' = true := by
  intro u hu; simp only [bc, List.mem_map] at hu; obtain ⟨b, _, rfl⟩ := hu; rfl

theorem owns_lit1 (w : World) (e : TypeId) (b : UInt8) (x : Value) (hx : x = .int .u8 b.toNat) : (w.alloc (.cells #[x] e)).ownsRow w.heap.size e 1 (.slice (some ⟨w.heap.size, 0, none⟩) 1 1) 1 (bc [b]) := by
  subst hx; exact owns_lit w e [b] (by simp)
theorem below_app {B : Nat} {w wr w1 : World} {o : Obj} {e : TypeId} {sz n : Nat} {v : Value} {xs : List Value} (hb : Below B w wr) (hB : B ≤ wr.heap.size) (hown : wr.ownsRow B e sz v n xs)
    (hg : (wr.alloc o).grownBy w1 v.ownBlock) : Below B w w1 :=
  (hb.alloc hB o).grown hg (by simp; omega) (fun k hk => (hown.lt k hk).1)
theorem own_step {w1 : World} {B : Nat} {e : TypeId} {v' : Value} {m : Nat} {l l' news : List UInt8} (h : w1.ownsRow B e 1 v' (l.length + m) (bc l ++ bc news)) (hl : l' = l ++ news) (hm : news.length = m) :
    w1.ownsRow B e 1 v' l'.length (bc l') := by
  subst hl hm; rw [List.length_append, bc_append]; exact h
theorem esc_nl {b : UInt8} (h : b = 10) : esc b = [92, 110] := by simp [esc, h]
theorem esc_q {b : UInt8} (h10 : ¬ b = 10) (h : b = 34 ∨ b = 92) : esc b = [92, b] := by simp [esc, h10, h]
theorem esc_o {b : UInt8} (h10 : ¬ b = 10) (h : ¬ (b = 34 ∨ b = 92)) : esc b = [b] := by simp [esc, h10, h]
theorem u8_ne {b c : UInt8} {n : Int} (h : ¬ b = c) (hn : n = (c.toNat : Int)) : ¬ (b.toNat : Int) = n := fun e => h (UInt8.toNat_inj.1 (by omega))
theorem take_all (s : ByteArray) (k : Nat) (h : ¬ k < s.size) : s.data.toList.take k = s.data.toList := List.take_of_length_le (by simp; exact Nat.le_of_not_lt h)

set_option maxRecDepth 100000 in
set_option maxHeartbeats 1600000 in
theorem quote_impl (s : ByteArray) (w : World) (hs : s.size ≤ 1048576) :
    Calls Tryd.prog 11 #[.string s] w fun e w' => e = .returned (.string ⟨(qb s.data.toList ++ [34]).toArray⟩) ∧ Below w.heap.size w w' := by
  obtain ⟨i0, hi, hz0, hz1, hz2⟩ := info_parts Tryd.info5
  go_enter Tryd.func11, Tryd.ntmps11
  go_wp2
  go_loopw [3, 9] (fun v i wr => ∃ k : Nat, k ≤ s.size ∧ i = .int .i64 k ∧ wr.ownsRow w.heap.size 5 1 v (qb (s.data.toList.take k)).length (bc (qb (s.data.toList.take k))) ∧ Below w.heap.size w wr) (fun _ i _ => s.size - (intOf i).toNat)
  case atStart => exact ⟨0, Nat.zero_le _, rfl, owns_lit1 w _ 34 _ rfl, (Below.refl _ _).alloc (Nat.le_refl _) _⟩
  case round =>
    obtain ⟨k, hk, rfl, hown, hb⟩ := hrel
    have hql := qb_take_len s k hk
    have hsz := hb.size
    by_cases hlt : k < s.size
    · have hqs := qb_step s k hlt
      have HQ : Hid (qb (s.data.toList.take (k + 1)) = qb (s.data.toList.take k) ++ esc s[k]) := hqs
      clear hqs
      by_cases h10 : s[k] = 10
      · have he : Hid (esc s[k] = [92, 110]) := esc_nl h10
        go_wp2_with (at_builtin; go_must (refine wpList_append_own _ rfl _ _ 22 rfl w.heap.size 5 i0 (.int .u8 0) 1 1 Tryd.underlying22 hi hz0 hz1 hz2 rfl (by decide) _ _ _ rfl (hown.alloc _) ⟨wr.heap.size, 0, none⟩ 2 2 (bc [92, 110]) rfl rfl ?c1 ?c2 ?c3 ?c4 ?c5 ?_))
        case c1 => exact lit_cells wr _ [92, 110]
        case c2 => exact bc_oneCell _
        case c3 => unfold maxLen; omega
        case c4 => omega
        case c5 => simp; omega
        intro v' w1 hown' hgrow _
        have hb' := below_app hb hsz hown hgrow
        have ho' := own_step hown' (HQ.out.trans (by rw [he.out])) rfl
        clear hown' hgrow he
        go_wp2
        go_roundw
        case rel => exact ⟨k + 1, by omega, by go_num, ho', hb'⟩
        case measure => simp [intOf]; omega
      · by_cases h34 : s[k] = 34
        · have he : Hid (esc s[k] = [92, s[k]]) := esc_q h10 (.inl h34)
          have h92 : ¬ s[k] = 92 := by rw [h34]; decide
          go_wp2_with (at_builtin; go_must (refine wpList_append_own _ rfl _ _ 22 rfl w.heap.size 5 i0 (.int .u8 0) 1 1 Tryd.underlying22 hi hz0 hz1 hz2 rfl (by decide) _ _ _ rfl (hown.alloc _) ⟨wr.heap.size, 0, none⟩ 2 2 (bc [92, 34]) rfl rfl ?c1 ?c2 ?c3 ?c4 ?c5 ?_))
          case c1 => exact lit_cells wr _ [92, 34]
          case c2 => exact bc_oneCell _
          case c3 => unfold maxLen; omega
          case c4 => omega
          case c5 => simp; omega
          intro v' w1 hown' hgrow _
          have hb' := below_app hb hsz hown hgrow
          have ho' := own_step hown' (HQ.out.trans (by rw [he.out, h34])) rfl
          clear hown' hgrow he
          go_wp2
          go_roundw
          case rel => exact ⟨k + 1, by omega, by go_num, ho', hb'⟩
          case measure => simp [intOf]; omega
        · by_cases h92 : s[k] = 92
          · have he : Hid (esc s[k] = [92, s[k]]) := esc_q h10 (.inr h92)
            go_wp2_with (at_builtin; go_must (refine wpList_append_own _ rfl _ _ 22 rfl w.heap.size 5 i0 (.int .u8 0) 1 1 Tryd.underlying22 hi hz0 hz1 hz2 rfl (by decide) _ _ _ rfl (hown.alloc _) ⟨wr.heap.size, 0, none⟩ 2 2 (bc [92, 92]) rfl rfl ?c1 ?c2 ?c3 ?c4 ?c5 ?_))
            case c1 => exact lit_cells wr _ [92, 92]
            case c2 => exact bc_oneCell _
            case c3 => unfold maxLen; omega
            case c4 => omega
            case c5 => simp; omega
            intro v' w1 hown' hgrow _
            have hb' := below_app hb hsz hown hgrow
            have ho' := own_step hown' (HQ.out.trans (by rw [he.out, h92])) rfl
            clear hown' hgrow he
            go_wp2
            go_roundw
            case rel => exact ⟨k + 1, by omega, by go_num, ho', hb'⟩
            case measure => simp [intOf]; omega
          · have he : Hid (esc s[k] = [s[k]]) := esc_o h10 (by simp [h34, h92])
            have n10 := u8_ne (n := 10) h10 rfl
            have n34 := u8_ne (n := 34) h34 rfl
            have n92 := u8_ne (n := 92) h92 rfl
            go_wp2_with (at_builtin; go_must (refine wpList_append_own _ rfl _ _ 22 rfl w.heap.size 5 i0 (.int .u8 0) 1 1 Tryd.underlying22 hi hz0 hz1 hz2 rfl (by decide) _ _ _ rfl (hown.alloc _) ⟨wr.heap.size, 0, none⟩ 1 1 (bc [s[k]]) rfl rfl ?c1 ?c2 ?c3 ?c4 ?c5 ?_))
            case c1 => exact lit_cells wr _ [s[k]]
            case c2 => exact bc_oneCell _
            case c3 => unfold maxLen; omega
            case c4 => omega
            case c5 => simp; omega
            intro v' w1 hown' hgrow _
            have hb' := below_app hb hsz hown hgrow
            have ho' := own_step hown' (HQ.out.trans (by rw [he.out])) rfl
            clear hown' hgrow he
            go_wp2
            go_roundw
            case rel => exact ⟨k + 1, by omega, by go_num, ho', hb'⟩
            case measure => simp [intOf]; omega
    · rw [take_all s k hlt] at hown hql
      go_wp2_with (at_builtin; go_must (refine wpList_append_own _ rfl _ _ 22 rfl w.heap.size 5 i0 (.int .u8 0) 1 1 Tryd.underlying22 hi hz0 hz1 hz2 rfl (by decide) _ _ _ rfl (hown.alloc _) ⟨wr.heap.size, 0, none⟩ 1 1 (bc [34]) rfl rfl ?c1 ?c2 ?c3 ?c4 ?c5 ?_))
      case c1 => exact lit_cells wr _ [34]
      case c2 => exact bc_oneCell _
      case c3 => unfold maxLen; omega
      case c4 => omega
      case c5 => simp; omega
      intro v' w1 hown' hgrow _
      have hb' := below_app hb hsz hown hgrow
      have ho' := own_step hown' rfl rfl
      have hcv := run_own_string (P := Tryd.prog) 22 9 5 Tryd.underlying22 Tryd.underlying5 Tryd.underlying9 ho'
      clear hown' hgrow
      go_wp2
      go_ret
      exact ⟨rfl, hb'⟩

set_option maxRecDepth 100000 in
set_option maxHeartbeats 1600000 in
theorem quote_spec (s : ByteArray) (w : World) (hs : s.size ≤ 1048576) :
    Calls Tryd.prog 13 #[.string s] w fun e w' => e = .returned (.string ⟨(qb s.data.toList ++ [34]).toArray⟩) ∧ Below w.heap.size w w' := by
  obtain ⟨i0, hi, hz0, hz1, hz2⟩ := info_parts Tryd.info5
  go_enter Tryd.func13, Tryd.ntmps13
  go_wp2
  go_loopw [3, 4] (fun v i wr => ∃ k : Nat, k ≤ s.size ∧ i = .int .i64 k ∧ wr.ownsRow w.heap.size 5 1 v (qb (s.data.toList.take k)).length (bc (qb (s.data.toList.take k))) ∧ Below w.heap.size w wr) (fun _ i _ => s.size - (intOf i).toNat)
  case atStart => exact ⟨0, Nat.zero_le _, rfl, owns_lit1 w _ 34 _ rfl, (Below.refl _ _).alloc (Nat.le_refl _) _⟩
  case round =>
    obtain ⟨k, hk, rfl, hown, hb⟩ := hrel
    have hql := qb_take_len s k hk
    have hsz := hb.size
    by_cases hlt : k < s.size
    · have hqs := qb_step s k hlt
      have HQ : Hid (qb (s.data.toList.take (k + 1)) = qb (s.data.toList.take k) ++ esc s[k]) := hqs
      clear hqs
      by_cases h10 : s[k] = 10
      · have he : Hid (esc s[k] = [92, 110]) := esc_nl h10
        go_wp2_with (at_builtin; go_must (refine wpList_append_own _ rfl _ _ 22 rfl w.heap.size 5 i0 (.int .u8 0) 1 1 Tryd.underlying22 hi hz0 hz1 hz2 rfl (by decide) _ _ _ rfl (hown.alloc _) ⟨wr.heap.size, 0, none⟩ 2 2 (bc [92, 110]) rfl rfl ?c1 ?c2 ?c3 ?c4 ?c5 ?_))
        case c1 => exact lit_cells wr _ [92, 110]
        case c2 => exact bc_oneCell _
        case c3 => unfold maxLen; omega
        case c4 => omega
        case c5 => simp; omega
        intro v' w1 hown' hgrow _
        have hb' := below_app hb hsz hown hgrow
        have ho' := own_step hown' (HQ.out.trans (by rw [he.out])) rfl
        clear hown' hgrow he
        go_wp2
        go_roundw
        case rel => exact ⟨k + 1, by omega, by go_num, ho', hb'⟩
        case measure => simp [intOf]; omega
      · by_cases h34 : s[k] = 34
        · have he : Hid (esc s[k] = [92, s[k]]) := esc_q h10 (.inl h34)
          have h92 : ¬ s[k] = 92 := by rw [h34]; decide
          go_wp2_with (at_builtin; go_must (refine wpList_append_own _ rfl _ _ 22 rfl w.heap.size 5 i0 (.int .u8 0) 1 1 Tryd.underlying22 hi hz0 hz1 hz2 rfl (by decide) _ _ _ rfl (hown.alloc _) ⟨wr.heap.size, 0, none⟩ 2 2 (bc [92, 34]) rfl rfl ?c1 ?c2 ?c3 ?c4 ?c5 ?_))
          case c1 => exact lit_cells wr _ [92, 34]
          case c2 => exact bc_oneCell _
          case c3 => unfold maxLen; omega
          case c4 => omega
          case c5 => simp; omega
          intro v' w1 hown' hgrow _
          have hb' := below_app hb hsz hown hgrow
          have ho' := own_step hown' (HQ.out.trans (by rw [he.out, h34])) rfl
          clear hown' hgrow he
          go_wp2
          go_roundw
          case rel => exact ⟨k + 1, by omega, by go_num, ho', hb'⟩
          case measure => simp [intOf]; omega
        · by_cases h92 : s[k] = 92
          · have he : Hid (esc s[k] = [92, s[k]]) := esc_q h10 (.inr h92)
            go_wp2_with (at_builtin; go_must (refine wpList_append_own _ rfl _ _ 22 rfl w.heap.size 5 i0 (.int .u8 0) 1 1 Tryd.underlying22 hi hz0 hz1 hz2 rfl (by decide) _ _ _ rfl (hown.alloc _) ⟨wr.heap.size, 0, none⟩ 2 2 (bc [92, 92]) rfl rfl ?c1 ?c2 ?c3 ?c4 ?c5 ?_))
            case c1 => exact lit_cells wr _ [92, 92]
            case c2 => exact bc_oneCell _
            case c3 => unfold maxLen; omega
            case c4 => omega
            case c5 => simp; omega
            intro v' w1 hown' hgrow _
            have hb' := below_app hb hsz hown hgrow
            have ho' := own_step hown' (HQ.out.trans (by rw [he.out, h92])) rfl
            clear hown' hgrow he
            go_wp2
            go_roundw
            case rel => exact ⟨k + 1, by omega, by go_num, ho', hb'⟩
            case measure => simp [intOf]; omega
          · have he : Hid (esc s[k] = [s[k]]) := esc_o h10 (by simp [h34, h92])
            have n10 := u8_ne (n := 10) h10 rfl
            have n34 := u8_ne (n := 34) h34 rfl
            have n92 := u8_ne (n := 92) h92 rfl
            go_wp2_with (at_builtin; go_must (refine wpList_append_own _ rfl _ _ 22 rfl w.heap.size 5 i0 (.int .u8 0) 1 1 Tryd.underlying22 hi hz0 hz1 hz2 rfl (by decide) _ _ _ rfl (hown.alloc _) ⟨wr.heap.size, 0, none⟩ 1 1 (bc [s[k]]) rfl rfl ?c1 ?c2 ?c3 ?c4 ?c5 ?_))
            case c1 => exact lit_cells wr _ [s[k]]
            case c2 => exact bc_oneCell _
            case c3 => unfold maxLen; omega
            case c4 => omega
            case c5 => simp; omega
            intro v' w1 hown' hgrow _
            have hb' := below_app hb hsz hown hgrow
            have ho' := own_step hown' (HQ.out.trans (by rw [he.out])) rfl
            clear hown' hgrow he
            go_wp2
            go_roundw
            case rel => exact ⟨k + 1, by omega, by go_num, ho', hb'⟩
            case measure => simp [intOf]; omega
    · rw [take_all s k hlt] at hown hql
      go_wp2_with (at_builtin; go_must (refine wpList_append_own _ rfl _ _ 22 rfl w.heap.size 5 i0 (.int .u8 0) 1 1 Tryd.underlying22 hi hz0 hz1 hz2 rfl (by decide) _ _ _ rfl (hown.alloc _) ⟨wr.heap.size, 0, none⟩ 1 1 (bc [34]) rfl rfl ?c1 ?c2 ?c3 ?c4 ?c5 ?_))
      case c1 => exact lit_cells wr _ [34]
      case c2 => exact bc_oneCell _
      case c3 => unfold maxLen; omega
      case c4 => omega
      case c5 => simp; omega
      intro v' w1 hown' hgrow _
      have hb' := below_app hb hsz hown hgrow
      have ho' := own_step hown' rfl rfl
      have hcv := run_own_string (P := Tryd.prog) 22 9 5 Tryd.underlying22 Tryd.underlying5 Tryd.underlying9 ho'
      clear hown' hgrow
      go_wp2
      go_ret
      exact ⟨rfl, hb'⟩
end Go.Proofs.YtjepokoeljpflaaDoor
