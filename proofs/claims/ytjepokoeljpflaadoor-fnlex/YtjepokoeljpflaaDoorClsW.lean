/- impl.byteClasses: the table of classes. -/
import Derived.Test.YtjepokoeljpflaaDoorLexN
import Derived.Lib.OthersKept
import Derived.Laws.Tables
namespace Go.Proofs.YtjepokoeljpflaaDoor
open Go.RowKit Go.Lib

def table (f : Nat → Nat) : Array Value := ((List.range 256).map fun j => Value.int .u8 (f j)).toArray
def upd (f : Nat → Nat) (j v : Nat) : Nat → Nat := fun x => if x = j then v else f x
theorem table_get (f : Nat → Nat) (j : Nat) (h : j < 256) : (table f)[j]? = some (.int .u8 (f j)) := by simp [table, h]
theorem table_size (f : Nat → Nat) : (table f).size = 256 := by simp [table]
theorem table_set (f : Nat → Nat) (j v : Nat) : (table f).setIfInBounds j (.int .u8 v) = table (upd f j v) := by
  apply Array.ext_getElem?
  intro i
  rw [Array.getElem?_setIfInBounds]
  by_cases hi : i < 256
  · rw [table_get _ _ hi, table_get _ _ hi, table_size]
    unfold upd
    by_cases h : j = i
    · subst h; simp [hi]
    · rw [if_neg h, if_neg (Ne.symm h)]
  · have h1 : (table f)[i]? = none := by simp [table]; omega
    have h2 : (table (upd f j v))[i]? = none := by simp [table]; omega
    rw [h1, h2, table_size]
    by_cases h : j = i
    · subst h; simp; omega
    · rw [if_neg h]
theorem table_one (f : Nat → Nat) : (table f).all (·.oneCell') = true := by simp [table, Value.oneCell']

/-- The table at its block, the answer's own block, and nothing that was there turned. -/
structure ClsAt (b : Nat) (w wr : World) (f : Nat → Nat) : Prop where
  row : wr.heap[b + 1]? = some (.cells (table f) 41 (0, 0))
  res : wr.heap[b]? = some (.cells Tryd.zeroCells41 41 (0, 0))
  below : Below w.heap.size w wr
  at' : b = w.heap.size
theorem ClsAt.size {b : Nat} {w wr : World} {f : Nat → Nat} (h : ClsAt b w wr f) : b + 2 ≤ wr.heap.size := by
  have := (Array.getElem?_eq_some_iff.1 h.row).1; omega
theorem ClsAt.set {b : Nat} {w wr : World} {f : Nat → Nat} (h : ClsAt b w wr f) (j v : Nat) : ClsAt b w (wr.setCell ⟨b + 1, j, none⟩ (.int .u8 v)) (upd f j v) :=
  ⟨by rw [heap_setCell_same _ _ _ _ _ _ h.row, table_set], by rw [heap_setCell_other _ _ _ _ (by simp)]; exact h.res, h.below.setCell (by have := h.at'; simp; omega) _, h.at'⟩
theorem ClsAt.alloc {b : Nat} {w wr : World} {f : Nat → Nat} (h : ClsAt b w wr f) (o : Obj) : ClsAt b w (wr.alloc o) f :=
  ⟨by rw [Below.heap_alloc _ _ _ (by have := h.size; omega)]; exact h.row, by rw [Below.heap_alloc _ _ _ (by have := h.size; omega)]; exact h.res, h.below.alloc (by have := h.size; have := h.at'; omega) o, h.at'⟩
theorem ClsAt.iter {b : Nat} {w wr : World} {f : Nat → Nat} (h : ClsAt b w wr f) (k : Nat) (s : ByteArray) (p : Nat) (hk : b + 2 ≤ k) : ClsAt b w (wr.iterAt k s p) f :=
  ⟨by rw [iterAt_other _ _ _ _ _ (by omega)]; exact h.row, by rw [iterAt_other _ _ _ _ _ (by omega)]; exact h.res, below_iterAt h.below (by have := h.at'; omega) s p, h.at'⟩
theorem ClsAt.cell {b : Nat} {w wr : World} {f : Nat → Nat} (h : ClsAt b w wr f) (j : Nat) (hj : j < 256) : wr.cell? ⟨b + 1, j, none⟩ = some (.int .u8 (f j)) := by
  rw [cell_of_row _ _ _ _ _ (0, 0) h.row, table_get _ _ hj]
theorem ClsAt.free {b : Nat} {w wr : World} {f : Nat → Nat} (h : ClsAt b w wr f) (j : Nat) : wr.frozen? ⟨b + 1, j, none⟩ = false := frozen_of_row _ _ _ _ _ h.row
theorem ClsAt.start (w : World) (hz : Tryd.zeroCells41 = table fun _ => 0) : ClsAt w.heap.size w ((w.alloc (.cells Tryd.zeroCells41 41)).alloc (.cells Tryd.zeroCells41 41)) fun _ => 0 := by
  have h1 : (w.alloc (.cells Tryd.zeroCells41 41)).heap.size = w.heap.size + 1 := by simp
  refine ⟨?_, ?_, ((Below.refl _ w).alloc (Nat.le_refl _) _).alloc (by simp) _, rfl⟩
  · have := heap_alloc_new (w.alloc (.cells Tryd.zeroCells41 41)) (.cells Tryd.zeroCells41 41)
    rw [h1] at this
    rw [this, hz]
  · rw [Below.heap_alloc _ _ _ (by omega)]; exact heap_alloc_new w _

def f1 (b : Nat) : Nat → Nat := fun x => if (97 ≤ x ∧ x < b) ∨ (65 ≤ x ∧ x + 32 < b) then 2 else 0
def f2 : Nat → Nat := upd (f1 123) 95 2
def f3 (b : Nat) : Nat → Nat := fun x => if 48 ≤ x ∧ x < b then 4 else f2 x
def blS : ByteArray := ⟨#[32, 9, 10]⟩
def sgS : ByteArray := ⟨#[43, 45, 42, 37, 60, 62, 61, 40, 41, 123, 125, 91, 93, 44, 46, 59, 35]⟩
def f4 (p : Nat) : Nat → Nat := fun x => if x ∈ (blS.data.toList.take p).map UInt8.toNat then 1 else f3 58 x
def f5 (p : Nat) : Nat → Nat := fun x => if x ∈ (sgS.data.toList.take p).map UInt8.toNat then 8 else f4 3 x
/-- The class of a byte. -/
def clsN : Nat → Nat := f5 17
theorem f1_step (b : Nat) (h : 97 ≤ b) : upd (upd (f1 b) b 2) (b - 97 + 65) 2 = f1 (b + 1) := by
  funext x; unfold upd f1; repeat' split
  all_goals first | rfl | (exfalso; omega)
theorem f3_step (b : Nat) (h : 48 ≤ b) : upd (f3 b) b 4 = f3 (b + 1) := by
  funext x; unfold upd f3; repeat' split
  all_goals first | rfl | (exfalso; omega)
theorem f3_start : f3 48 = f2 := by funext x; unfold f3; rw [if_neg (by omega)]
theorem f4_start : f4 0 = f3 58 := by funext x; simp [f4]
theorem f5_start : f5 0 = f4 3 := by funext x; simp [f5]
theorem f4_step (p : Nat) (h : p < blS.size) : upd (f4 p) blS[p].toNat 1 = f4 (p + 1) := by
  funext x; unfold upd f4
  rw [take_snoc blS p h, List.map_append]
  by_cases hx : x = blS[p].toNat
  · simp [hx]
  · simp [hx]
theorem f5_step (p : Nat) (h : p < sgS.size) : upd (f5 p) sgS[p].toNat 8 = f5 (p + 1) := by
  funext x; unfold upd f5
  rw [take_snoc sgS p h, List.map_append]
  by_cases hx : x = sgS[p].toNat
  · simp [hx]
  · simp [hx]

theorem blS_ascii (p : Nat) (h : p < blS.size) : blS[p].toNat < 128 := by
  have : ∀ b ∈ blS.data.toList, b.toNat < 128 := by decide
  exact this _ (by simp [ByteArray.getElem_eq_getElem_data])
theorem sgS_ascii (p : Nat) (h : p < sgS.size) : sgS[p].toNat < 128 := by
  have : ∀ b ∈ sgS.data.toList, b.toNat < 128 := by decide
  exact this _ (by simp [ByteArray.getElem_eq_getElem_data])

set_option maxRecDepth 100000 in
set_option maxHeartbeats 4000000 in
theorem cls_any (w : World) (hz : Tryd.zeroCells41 = table fun _ => 0) :
    Calls Tryd.prog 24 #[] w fun e w' => e = .returned (.agg (table clsN)) ∧ Below w.heap.size w w' := by
  have hst := ClsAt.start w hz
  have HZ : Hid (Tryd.zeroCells41 = table fun _ => 0) := hz
  clear hz
  go_enter Tryd.func24, Tryd.ntmps24
  go_wp2_with fail
  go_loopw [2] (fun a wr => ∃ b : Nat, a = .int .i32 b ∧ 97 ≤ b ∧ b ≤ 123 ∧ ClsAt w.heap.size w wr (f1 b)) (fun a _ => 200 - (intOf a).toNat)
  case atStart => exact ⟨97, rfl, by omega, by omega, by have e : f1 97 = fun _ => 0 := by { funext x; unfold f1; rw [if_neg (by omega)] }; rw [e]; exact hst⟩
  case round =>
    obtain ⟨b, rfl, hb1, hb2, hC⟩ := hrel
    by_cases hlt : b ≤ 122
    · have c1 := hC.cell b (by omega)
      have z1 := hC.free b
      have hC1 := hC.set b 2
      have c2 := hC.cell (b - 97 + 65) (by omega)
      have z2 := hC.free (b - 97 + 65)
      have hC2 := hC1.set (b - 97 + 65) 2
      rw [f1_step b hb1] at hC2
      have HC : Hid (ClsAt w.heap.size w ((wr.setCell ⟨w.heap.size + 1, b, none⟩ (.int .u8 2)).setCell ⟨w.heap.size + 1, b - 97 + 65, none⟩ (.int .u8 2)) (f1 (b + 1))) := hC2
      clear hC hC1 hC2 hst
      go_wp2_with fail
      go_roundw
      case rel => exact ⟨b + 1, by go_num, by omega, by omega, HC.out⟩
      case measure => simp [intOf]; omega
    · have e123 : b = 123 := by omega
      subst e123
      have c1 := hC.cell 95 (by omega)
      have z1 := hC.free 95
      have hC1 := hC.set 95 2
      have HC : Hid (ClsAt w.heap.size w (wr.setCell ⟨w.heap.size + 1, 95, none⟩ (.int .u8 2)) (f3 48)) := by rw [f3_start]; exact hC1
      clear hC hC1 hst
      go_wp2_with fail
      go_loopw [3] (fun a w2 => ∃ b : Nat, a = .int .i32 b ∧ 48 ≤ b ∧ b ≤ 58 ∧ ClsAt w.heap.size w w2 (f3 b)) (fun a _ => 200 - (intOf a).toNat)
      case atStart => exact ⟨48, rfl, by omega, by omega, HC.out⟩
      case round =>
        obtain ⟨d, rfl, hd1, hd2, hC⟩ := hrel
        by_cases hltd : d ≤ 57
        · have c3 := hC.cell d (by omega)
          have z3 := hC.free d
          have hC2 := hC.set d 4
          rw [f3_step d hd1] at hC2
          have HC : Hid (ClsAt w.heap.size w (wr.setCell ⟨w.heap.size + 1, d, none⟩ (.int .u8 4)) (f3 (d + 1))) := hC2
          clear hC hC2
          go_wp2_with fail
          go_roundw
          case rel => exact ⟨d + 1, by go_num, by omega, by omega, HC.out⟩
          case measure => simp [intOf]; omega
        · have e58 : d = 58 := by omega
          subst e58
          clear HC
          obtain ⟨wo, hwo⟩ : ∃ wo : World, wo = wr := ⟨_, rfl⟩
          subst hwo
          have hsz := hC.size
          have hCi := hC.alloc (.stringIter blS 0)
          have hk0 : (wo.alloc (.stringIter blS 0)).heap[wo.heap.size]? = some (.stringIter blS 0) := heap_alloc_new wo _
          have HC : Hid (ClsAt w.heap.size w (wo.alloc (.stringIter blS 0)) (f4 0)) := by rw [f4_start]; exact hCi
          clear hC hCi
          go_wp2_with fail
          go_loopw [26] (fun _ wx => ∃ p : Nat, p ≤ 3 ∧ wx.heap[wo.heap.size]? = some (.stringIter blS p) ∧ ClsAt w.heap.size w wx (f4 p)) (fun _ wx => 3 - wx.iterPos wo.heap.size)
          case atStart => exact ⟨0, Nat.zero_le _, hk0, HC.out⟩
          case round =>
            clear HC hk0
            obtain ⟨p, hp, hk, hC⟩ := hrel
            by_cases hltp : p < 3
            · have hps : p < (blS).size := hltp
              have ha := blS_ascii p hps
              have hnx := fun ty => run_next_ascii_at (P := Tryd.prog) wr wo.heap.size blS p ty hk hps ha
              have hCn := hC.iter wo.heap.size blS (p + 1) hsz
              have hkn := iterAt_heap wr wo.heap.size blS p (p + 1) hk
              have c4 := hCn.cell (blS[p]).toNat (by omega)
              have z4 := hCn.free (blS[p]).toNat
              have hCs := hCn.set (blS[p]).toNat 1
              rw [f4_step p hps] at hCs
              have hks : ((wr.iterAt wo.heap.size blS (p + 1)).setCell ⟨w.heap.size + 1, (blS[p]).toNat, none⟩ (.int .u8 1)).heap[wo.heap.size]? = some (.stringIter blS (p + 1)) := by
                rw [heap_setCell_other _ _ _ _ (by simp; omega)]; exact hkn
              have HC : Hid (ClsAt w.heap.size w ((wr.iterAt wo.heap.size blS (p + 1)).setCell ⟨w.heap.size + 1, (blS[p]).toNat, none⟩ (.int .u8 1)) (f4 (p + 1))) := hCs
              have HK : Hid (((wr.iterAt wo.heap.size blS (p + 1)).setCell ⟨w.heap.size + 1, (blS[p]).toNat, none⟩ (.int .u8 1)).heap[wo.heap.size]? = some (.stringIter blS (p + 1))) := hks
              have HP : Hid (wr.iterPos wo.heap.size = p) := by show wr.iterPos wo.heap.size = p; simp [World.iterPos, hk]
              have HQ : Hid (((wr.iterAt wo.heap.size blS (p + 1)).setCell ⟨w.heap.size + 1, (blS[p]).toNat, none⟩ (.int .u8 1)).iterPos wo.heap.size = p + 1) := by show _ = _; simp only [World.iterPos, hks]
              generalize (blS[p]).toNat = bb at *
              clear hC hCn hkn hCs hks hk
              go_wp2_with fail
              go_roundw
              case rel => exact ⟨p + 1, by omega, HK.out, HC.out⟩
              case measure => rw [HP.out, HQ.out]; omega
            · have hpe : p = 3 := by omega
              subst hpe
              have hnx := fun ty => run_next_end_at (P := Tryd.prog) wr wo.heap.size blS 3 ty hk (by decide)
              clear hk
              obtain ⟨wo, hwo⟩ : ∃ wo : World, wo = wr := ⟨_, rfl⟩
              subst hwo
              have hsz := hC.size
              have hCi := hC.alloc (.stringIter sgS 0)
              have hk0 : (wo.alloc (.stringIter sgS 0)).heap[wo.heap.size]? = some (.stringIter sgS 0) := heap_alloc_new wo _
              have HC : Hid (ClsAt w.heap.size w (wo.alloc (.stringIter sgS 0)) (f5 0)) := by rw [f5_start]; exact hCi
              clear hC hCi
              go_wp2_with fail
              go_loopw [32] (fun _ wx => ∃ p : Nat, p ≤ 17 ∧ wx.heap[wo.heap.size]? = some (.stringIter sgS p) ∧ ClsAt w.heap.size w wx (f5 p)) (fun _ wx => 17 - wx.iterPos wo.heap.size)
              case atStart => exact ⟨0, Nat.zero_le _, hk0, HC.out⟩
              case round =>
                clear HC hk0
                obtain ⟨p, hp, hk, hC⟩ := hrel
                by_cases hltp : p < 17
                · have hps : p < (sgS).size := hltp
                  have ha := sgS_ascii p hps
                  have hnx := fun ty => run_next_ascii_at (P := Tryd.prog) wr wo.heap.size sgS p ty hk hps ha
                  have hCn := hC.iter wo.heap.size sgS (p + 1) hsz
                  have hkn := iterAt_heap wr wo.heap.size sgS p (p + 1) hk
                  have c4 := hCn.cell (sgS[p]).toNat (by omega)
                  have z4 := hCn.free (sgS[p]).toNat
                  have hCs := hCn.set (sgS[p]).toNat 8
                  rw [f5_step p hps] at hCs
                  have hks : ((wr.iterAt wo.heap.size sgS (p + 1)).setCell ⟨w.heap.size + 1, (sgS[p]).toNat, none⟩ (.int .u8 8)).heap[wo.heap.size]? = some (.stringIter sgS (p + 1)) := by
                    rw [heap_setCell_other _ _ _ _ (by simp; omega)]; exact hkn
                  have HC : Hid (ClsAt w.heap.size w ((wr.iterAt wo.heap.size sgS (p + 1)).setCell ⟨w.heap.size + 1, (sgS[p]).toNat, none⟩ (.int .u8 8)) (f5 (p + 1))) := hCs
                  have HK : Hid (((wr.iterAt wo.heap.size sgS (p + 1)).setCell ⟨w.heap.size + 1, (sgS[p]).toNat, none⟩ (.int .u8 8)).heap[wo.heap.size]? = some (.stringIter sgS (p + 1))) := hks
                  have HP : Hid (wr.iterPos wo.heap.size = p) := by show wr.iterPos wo.heap.size = p; simp [World.iterPos, hk]
                  have HQ : Hid (((wr.iterAt wo.heap.size sgS (p + 1)).setCell ⟨w.heap.size + 1, (sgS[p]).toNat, none⟩ (.int .u8 8)).iterPos wo.heap.size = p + 1) := by show _ = _; simp only [World.iterPos, hks]
                  generalize (sgS[p]).toNat = bb at *
                  clear hC hCn hkn hCs hks hk
                  go_wp2_with fail
                  go_roundw
                  case rel => exact ⟨p + 1, by omega, HK.out, HC.out⟩
                  case measure => rw [HP.out, HQ.out]; omega
                · have hpe : p = 17 := by omega
                  subst hpe
                  have hnx := fun ty => run_next_end_at (P := Tryd.prog) wr wo.heap.size sgS 17 ty hk (by decide)
                  clear hk
                  go_wp2_with (first | (refine wpList_load_row rfl 41 _ rfl (w.heap.size + 1) rfl 41 _ (0, 0) _ hC.row Tryd.underlying41 rfl (by rw [table_size]; kernel_rfl) ?_) | (refine wpList_store_row rfl 41 _ _ rfl w.heap.size (table clsN) rfl rfl 41 _ hC.res (by rw [table_size]; kernel_rfl) (by rw [HZ.out, table_size, table_size]) (table_one _) ?_))
                  have hrow := setRow_heap wr w.heap.size _ (table clsN) _ (0, 0) hC.res
                  have hbel : Below w.heap.size w (wr.setRow w.heap.size (table clsN)) := hC.below.trans ⟨rfl, rfl, rfl, by simp, fun k hk => setRow_other _ _ _ _ (by omega)⟩
                  exact bodyPost_ret (v := .agg (table clsN)) (results_cell_row Tryd.results24 _ _ w.heap.size _ (table clsN) (0, 0) _ rfl hrow Tryd.underlying41 rfl (by rw [table_size]; kernel_rfl)) rfl ⟨rfl, hbel⟩
end Go.Proofs.YtjepokoeljpflaaDoor
