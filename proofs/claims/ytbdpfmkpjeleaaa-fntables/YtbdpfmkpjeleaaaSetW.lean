/- A row of pairs with a key put anew: the specification's. -/
import Derived.Test.YtbdpfmkpjeleaaaHeapT
import Derived.Test.YtbdpfmkpjeleaaaHeapH
namespace Go.Proofs.Ytbdpfmkpjeleaaa
open Go.RowKit

def withF (k v : Vl) : Bool → List Pr → List Pr
  | put, [] => if put then [] else [⟨k, v⟩]
  | put, p :: ps => if p.key.beq k = true then (if put then withF k v put ps else ⟨k, v⟩ :: withF k v true ps) else p :: withF k v put ps
theorem withF_drop (k v : Vl) (put : Bool) (ps : List Pr) (i : Nat) (h : i < ps.length) : withF k v put (ps.drop i) = if ps[i].key.beq k = true then (if put then withF k v put (ps.drop (i + 1)) else ⟨k, v⟩ :: withF k v true (ps.drop (i + 1))) else ps[i] :: withF k v put (ps.drop (i + 1)) := by
  rw [List.drop_eq_getElem_cons h]; rfl
theorem withF_len (k v : Vl) : ∀ (ps : List Pr) (put : Bool), (withF k v put ps).length ≤ ps.length + 1 := by
  intro ps
  induction ps with
  | nil => intro put; cases put <;> simp [withF]
  | cons p ps ih =>
    intro put
    have h0 := ih put
    have h1 := ih true
    unfold withF
    split
    · split
      · simp; omega
      · simp; omega
    · simp; omega
theorem withF_all {Q : Pr → Prop} (k v : Vl) (hkv : Q ⟨k, v⟩) : ∀ (ps : List Pr) (put : Bool), (∀ p ∈ ps, Q p) → ∀ p ∈ withF k v put ps, Q p := by
  intro ps
  induction ps with
  | nil =>
    intro put _ p hp
    cases put <;> simp [withF] at hp
    subst hp; exact hkv
  | cons x ps ih =>
    intro put h p hp
    have hx := h x (by simp)
    have hr := fun put => ih put (fun q hq => h q (by simp [hq]))
    unfold withF at hp
    split at hp
    · split at hp
      · exact hr _ p hp
      · rcases List.mem_cons.1 hp with rfl | hp
        · exact hkv
        · exact hr _ p hp
    · rcases List.mem_cons.1 hp with rfl | hp
      · exact hx
      · exact hr _ p hp

set_option maxRecDepth 100000 in
set_option maxHeartbeats 1600000 in
theorem with_spec (ps : List Pr) (a : Option Addr) (ca lo hi : Nat) (kk kn : Int) (ks : ByteArray) (vk vn : Int) (vs : ByteArray) (w : World) (hh : hi ≤ w.heap.size) (hn : ps.length ≤ 1048576) (hS : PAt w lo hi ps a) :
    Calls Try.prog 50 #[.slice a ps.length ca, .agg #[.int .i64 kk, .int .i64 kn, .string ks], .agg #[.int .i64 vk, .int .i64 vn, .string vs]] w fun e w' => (∃ s : Sl, e = .returned s.v ∧ s.n = (withF ⟨kk, kn, ks⟩ ⟨vk, vn, vs⟩ (decide (vk = 0)) ps).length ∧ Row w' w.heap.size w'.heap.size 61 6 s (flatP (withF ⟨kk, kn, ks⟩ ⟨vk, vn, vs⟩ (decide (vk = 0)) ps))) ∧ Below w.heap.size w w' := by
  obtain ⟨i1, hi1, hy0, hy1, hy2⟩ := info_parts info_pr
  obtain ⟨rK, rV, rE, hs0, B0⟩ := rows3 w (Obj.cells #[.int .i64 kk, .int .i64 kn, .string ks] 32) (Obj.cells #[.int .i64 vk, .int .i64 vn, .string vs] 32) (Obj.cells #[] 61)
  have own0 := own_lit0 ((w.alloc (Obj.cells #[.int .i64 kk, .int .i64 kn, .string ks] 32)).alloc (Obj.cells #[.int .i64 vk, .int .i64 vn, .string vs] 32)) w.heap.size 61 6 (by simp; omega)
  rw [show ((w.alloc (Obj.cells #[.int .i64 kk, .int .i64 kn, .string ks] 32)).alloc (Obj.cells #[.int .i64 vk, .int .i64 vn, .string vs] 32)).heap.size = w.heap.size + 1 + 1 by simp] at own0
  obtain ⟨W0, hW0⟩ : ∃ W0, W0 = ((w.alloc (Obj.cells #[.int .i64 kk, .int .i64 kn, .string ks] 32)).alloc (Obj.cells #[.int .i64 vk, .int .i64 vn, .string vs] 32)).alloc (Obj.cells #[] 61) := ⟨_, rfl⟩
  go_enter Try.func50, Try.ntmps50
  go_wp2_with fail
  rw [← hW0] at rK rV rE hs0 B0 own0 ⊢
  clear hW0
  go_loopw [7, 8, 9] (fun x y z wr => ∃ (i : Nat) (put : Bool) (acc : List Pr) (b : Option Addr) (c : Nat), x = .slice b acc.length c ∧ y = .bool put ∧ z = .int .i64 i ∧ i ≤ ps.length ∧ acc.length ≤ i ∧ wr.ownsRow w.heap.size 61 6 (.slice b acc.length c) acc.length (flatP acc) ∧ Hid (acc ++ withF ⟨kk, kn, ks⟩ ⟨vk, vn, vs⟩ put (ps.drop i) = withF ⟨kk, kn, ks⟩ ⟨vk, vn, vs⟩ (decide (vk = 0)) ps) ∧ wr.heap[w.heap.size]? = some (Obj.cells #[.int .i64 kk, .int .i64 kn, .string ks] 32) ∧ wr.heap[w.heap.size + 1]? = some (Obj.cells #[.int .i64 vk, .int .i64 vn, .string vs] 32) ∧ Below w.heap.size w wr) (fun _ _ z _ => ps.length - (intOf z).toNat)
  case atStart => exact ⟨0, decide (vk = 0), [], _, _, rfl, by first | rfl | simp, rfl, Nat.zero_le _, Nat.le_refl _, own0, rfl, rK, rV, B0⟩
  case round =>
    clear own0 rK rV rE B0 hs0
    obtain ⟨i, put, acc, b, c, rfl, rfl, rfl, hil, hal, own, HF, hK, hV, hbl⟩ := hrel
    have k0 := cell_of_row _ _ 0 _ _ _ hK
    have k1 := cell_of_row _ _ 1 _ _ _ hK
    have k2 := cell_of_row _ _ 2 _ _ _ hK
    simp only [List.getElem?_toArray, List.getElem?_cons_zero, List.getElem?_cons_succ] at k0 k1 k2
    have hsz := hbl.size
    have nK : w.heap.size < wr.heap.size := (Array.getElem?_eq_some_iff.1 hK).1
    by_cases hlt : i < ps.length
    · obtain ⟨_, g, o, rfl, _, hg, hc⟩ := hS i hlt
      have x0 := (hbl.cell (p := ⟨g, o + 6 * i + 0, none⟩) (by show g < _; omega)).trans (hc 0 (by decide))
      have x1 := (hbl.cell (p := ⟨g, o + 6 * i + 1, none⟩) (by show g < _; omega)).trans (hc 1 (by decide))
      have x2 := (hbl.cell (p := ⟨g, o + 6 * i + 2, none⟩) (by show g < _; omega)).trans (hc 2 (by decide))
      have x3 := (hbl.cell (p := ⟨g, o + 6 * i + 3, none⟩) (by show g < _; omega)).trans (hc 3 (by decide))
      have x4 := (hbl.cell (p := ⟨g, o + 6 * i + 4, none⟩) (by show g < _; omega)).trans (hc 4 (by decide))
      have x5 := (hbl.cell (p := ⟨g, o + 6 * i + 5, none⟩) (by show g < _; omega)).trans (hc 5 (by decide))
      simp only [Pr.cs, List.getElem?_cons_zero, List.getElem?_cons_succ, Nat.add_zero] at x0 x1 x2 x3 x4 x5
      have mc : i * 6 = 6 * i := Nat.mul_comm _ _
      have hgw : g < wr.heap.size := by omega
      have HWD : Hid (withF ⟨kk, kn, ks⟩ ⟨vk, vn, vs⟩ put (ps.drop i) = if ps[i].key.beq ⟨kk, kn, ks⟩ = true then (if put then withF ⟨kk, kn, ks⟩ ⟨vk, vn, vs⟩ put (ps.drop (i + 1)) else ⟨⟨kk, kn, ks⟩, ⟨vk, vn, vs⟩⟩ :: withF ⟨kk, kn, ks⟩ ⟨vk, vn, vs⟩ true (ps.drop (i + 1))) else ps[i] :: withF ⟨kk, kn, ks⟩ ⟨vk, vn, vs⟩ put (ps.drop (i + 1))) := withF_drop _ _ put ps i hlt
      clear hc hS
      generalize ps[i] = p at *
      obtain ⟨pk, ⟨pvk, pvn, pvs⟩⟩ := p
      dsimp only at x0 x1 x2 x3 x4 x5
      have HOWN : Hid (wr.ownsRow w.heap.size 61 6 (.slice b acc.length c) acc.length (flatP acc)) := own
      have HRK : Hid (wr.heap[w.heap.size]? = some (Obj.cells #[.int .i64 kk, .int .i64 kn, .string ks] 32)) := hK
      have HRV : Hid (wr.heap[w.heap.size + 1]? = some (Obj.cells #[.int .i64 vk, .int .i64 vn, .string vs] 32)) := hV
      have K4 : Hid (∀ (w4 : World) (O : Obj), (wr.drew.alloc O).grownBy w4 (Value.slice b acc.length c).ownBlock → w4.heap[w.heap.size]? = some (Obj.cells #[.int .i64 kk, .int .i64 kn, .string ks] 32) ∧ w4.heap[w.heap.size + 1]? = some (Obj.cells #[.int .i64 vk, .int .i64 vn, .string vs] 32) ∧ Below w.heap.size w w4) := fun w4 O hg => by
        have hb : Below wr.heap.size wr (wr.drew.alloc O) := (Below.refl _ _).drew.alloc (Nat.le_refl _) O
        have o' := own_below HOWN.out hb
        have rk := (hb.block _ (Array.getElem?_eq_some_iff.1 HRK.out).1).trans HRK.out
        have rv := (hb.block _ (Array.getElem?_eq_some_iff.1 HRV.out).1).trans HRV.out
        exact ⟨(hg.block _ (Array.getElem?_eq_some_iff.1 rk).1 (own_ne o' rk (by decide))).trans rk, (hg.block _ (Array.getElem?_eq_some_iff.1 rv).1 (own_ne o' rv (by decide))).trans rv, (hbl.trans (hb.mono hsz)).grown hg (Nat.le_trans hsz hb.size) (fun q hq => (o'.lt q hq).1)⟩
      have v0 := cell_of_row _ _ 0 _ _ _ hV
      have v1 := cell_of_row _ _ 1 _ _ _ hV
      have v2 := cell_of_row _ _ 2 _ _ _ hV
      simp only [List.getElem?_toArray, List.getElem?_cons_zero, List.getElem?_cons_succ] at v0 v1 v2
      clear own hK hV
      rcases beq_cases pk kk kn ks with ⟨hb, rfl⟩ | ⟨hb, hne⟩
      · have HB : Hid ((⟨kk, kn, ks⟩ : Vl).beq ⟨kk, kn, ks⟩ = true) := hb
        clear hb
        dsimp only at x0 x1 x2
        cases put
        · go_wp2_with fail
          go_region
          go_wp2_with (at_builtin; go_must (refine wpList_append_any _ rfl _ _ 59 rfl w.heap.size 61 i1 _ 6 64 Try.underlying59 hi1 hy0 hy1 hy2 rfl (by decide) _ _ _ rfl (show (wr.drew.alloc _).ownsRow w.heap.size 61 6 (.slice b acc.length c) acc.length (flatP acc) from World.ownsRow.alloc (World.ownsRow.drew HOWN.out) _) (some ⟨wr.heap.size, 0, none⟩) 1 1 [.int .i64 kk, .int .i64 kn, .string ks, .int .i64 vk, .int .i64 vn, .string vs] rfl rfl (fun j u hu => ⟨_, rfl, World.news_of_block (heap_alloc_new wr.drew _) j u hu⟩) (by simp [Value.oneCell']) (by unfold maxLen; omega) (by omega) (show w.heap.size ≤ (wr.drew.alloc _).heap.size by rw [size_alloc]; exact Nat.le_succ_of_le hsz) _ rfl ?_; intro b4 c4 w4 own4 gr4 at4))
          all_goals
            obtain ⟨qk, qv, qb⟩ := K4.out w4 _ gr4
            go_roundw
            case rel => exact ⟨i + 1, true, acc ++ [⟨⟨kk, kn, ks⟩, ⟨vk, vn, vs⟩⟩], b4, c4, by simp, rfl, by go_num, by omega, by simp; omega, by rw [flatP_snoc, List.length_append]; exact own4, by show _ = _; rw [← HF.out, HWD.out, if_pos HB.out]; simp, qk, qv, qb⟩
            case measure => simp [intOf]; omega
        · go_wp2_with fail
          go_region
          go_wp2_with fail
          all_goals
            go_roundw
            case rel => exact ⟨i + 1, true, acc, b, c, rfl, rfl, by go_num, by omega, by omega, World.ownsRow.drew HOWN.out, by show _ = _; rw [← HF.out, HWD.out, if_pos HB.out]; rfl, HRK.out, HRV.out, hbl.drew⟩
            case measure => simp [intOf]; omega
      · have HB : Hid (pk.beq ⟨kk, kn, ks⟩ = false) := hb
        clear hb
        obtain ⟨pkk, pkn, pks⟩ := pk
        dsimp only at hne x0 x1 x2
        rcases hne with h1 | ⟨h1, h2⟩ | ⟨h1, h2, h3⟩
        all_goals
          (try subst h1)
          (try subst h2)
          go_wp2_with fail
          go_region
          go_wp2_with (at_builtin; go_must (refine wpList_append_any _ rfl _ _ 59 rfl w.heap.size 61 i1 _ 6 64 Try.underlying59 hi1 hy0 hy1 hy2 rfl (by decide) _ _ _ rfl (show (wr.drew.alloc _).ownsRow w.heap.size 61 6 (.slice b acc.length c) acc.length (flatP acc) from World.ownsRow.alloc (World.ownsRow.drew HOWN.out) _) (some ⟨wr.heap.size, 0, none⟩) 1 1 [.int .i64 pkk, .int .i64 pkn, .string pks, .int .i64 pvk, .int .i64 pvn, .string pvs] rfl rfl (fun j u hu => ⟨_, rfl, World.news_of_block (heap_alloc_new wr.drew _) j u hu⟩) (by simp [Value.oneCell']) (by unfold maxLen; omega) (by omega) (show w.heap.size ≤ (wr.drew.alloc _).heap.size by rw [size_alloc]; exact Nat.le_succ_of_le hsz) _ rfl ?_; intro b4 c4 w4 own4 gr4 at4))
          obtain ⟨qk, qv, qb⟩ := K4.out w4 _ gr4
          go_roundw
          case rel => exact ⟨i + 1, put, acc ++ [⟨⟨pkk, pkn, pks⟩, ⟨pvk, pvn, pvs⟩⟩], b4, c4, by simp, rfl, by go_num, by omega, by simp; omega, by rw [flatP_snoc, List.length_append]; exact own4, by show _ = _; rw [← HF.out, HWD.out, if_neg (by rw [HB.out]; decide)]; simp, qk, qv, qb⟩
          case measure => simp [intOf]; omega
    · obtain rfl : i = ps.length := by omega
      have v0 := cell_of_row _ _ 0 _ _ _ hV
      have v1 := cell_of_row _ _ 1 _ _ _ hV
      have v2 := cell_of_row _ _ 2 _ _ _ hV
      simp only [List.getElem?_toArray, List.getElem?_cons_zero, List.getElem?_cons_succ] at v0 v1 v2
      have HOWN : Hid (wr.ownsRow w.heap.size 61 6 (.slice b acc.length c) acc.length (flatP acc)) := own
      have hE := HF.out
      rw [List.drop_length] at hE
      have HE : Hid (acc ++ withF ⟨kk, kn, ks⟩ ⟨vk, vn, vs⟩ put [] = withF ⟨kk, kn, ks⟩ ⟨vk, vn, vs⟩ (decide (vk = 0)) ps) := hE
      clear own hE hS hK hV
      cases put
      · go_wp2_with (at_builtin; go_must (refine wpList_append_any _ rfl _ _ 59 rfl w.heap.size 61 i1 _ 6 64 Try.underlying59 hi1 hy0 hy1 hy2 rfl (by decide) _ _ _ rfl (show (wr.alloc _).ownsRow w.heap.size 61 6 (.slice b acc.length c) acc.length (flatP acc) from World.ownsRow.alloc HOWN.out _) (some ⟨wr.heap.size, 0, none⟩) 1 1 [.int .i64 kk, .int .i64 kn, .string ks, .int .i64 vk, .int .i64 vn, .string vs] rfl rfl (fun j u hu => ⟨_, rfl, World.news_of_block (heap_alloc_new wr _) j u hu⟩) (by simp [Value.oneCell']) (by unfold maxLen; omega) (by omega) (by rw [size_alloc]; exact Nat.le_succ_of_le hsz) _ rfl ?_; intro b4 c4 w4 own4 gr4 at4))
        go_ret
        have e : withF ⟨kk, kn, ks⟩ ⟨vk, vn, vs⟩ (decide (vk = 0)) ps = acc ++ [⟨⟨kk, kn, ks⟩, ⟨vk, vn, vs⟩⟩] := HE.out.symm
        have o' := World.ownsRow.alloc HOWN.out (Obj.cells #[.int .i64 kk, .int .i64 kn, .string ks, .int .i64 vk, .int .i64 vn, .string vs] 61)
        rw [e]
        refine ⟨⟨⟨b4, acc.length + 1, c4⟩, rfl, by simp, ?_⟩, ((hbl.trans ((bel_alloc wr _).mono hsz))).grown gr4 (by rw [size_alloc]; exact Nat.le_succ_of_le hsz) (fun q hq => (o'.lt q hq).1)⟩
        rw [flatP_snoc]
        exact row_of_own (s := ⟨b4, acc.length + 1, c4⟩) own4
      · go_wp2_with fail
        go_ret
        have e : withF ⟨kk, kn, ks⟩ ⟨vk, vn, vs⟩ (decide (vk = 0)) ps = acc := by rw [← HE.out]; simp [withF]
        rw [e]
        exact ⟨⟨⟨b, acc.length, c⟩, rfl, rfl, row_of_own (s := ⟨b, acc.length, c⟩) HOWN.out⟩, hbl⟩
end Go.Proofs.Ytbdpfmkpjeleaaa
