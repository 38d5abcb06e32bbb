/- The draws of the laws on commands. -/
import Derived.Test.YtadjhnaiphnpoaaDoorDrD
namespace Go.Proofs.YtadjhnaiphnpoaaDoor
open Go.RowKit

set_option maxRecDepth 100000 in
set_option maxHeartbeats 1600000 in
theorem drawCmd_any (a : Option Addr) (len cap : Nat) (w : World) (hc : IsCode w w.heap.size a len cap) :
    Calls Tryd.prog 32 #[.slice a len cap] w fun e w' => ∃ (s : ByteArray) (n : Int) (x : ByteArray), e = .returned (.agg #[.string s, .int .i64 n, .string x]) ∧ s.size ≤ 10 ∧ -1 ≤ n ∧ n ≤ 1000000 ∧ x.size ≤ 50000 ∧ Below w.heap.size w w' := by
  have r0 := heap_alloc_new w (.cells #[.string ⟨#[]⟩, .int .i64 0, .string ⟨#[]⟩] 35)
  have b0 := bel_alloc w (.cells #[.string ⟨#[]⟩, .int .i64 0, .string ⟨#[]⟩] 35)
  have s0 : w.heap.size < (w.alloc (.cells #[.string ⟨#[]⟩, .int .i64 0, .string ⟨#[]⟩] 35)).heap.size := by rw [size_alloc]; omega
  have hc0 : IsCode (w.alloc (.cells #[.string ⟨#[]⟩, .int .i64 0, .string ⟨#[]⟩] 35)) w.heap.size a len cap := ⟨hc.small, fun j hj => by
    obtain ⟨b, off, y, e, hb, hx, h0, h1⟩ := hc.cells j hj
    exact ⟨b, off, y, e, hb, (b0.cell (p := ⟨b, off + j, none⟩) hb).trans hx, h0, h1⟩⟩
  clear hc
  go_enter Tryd.func32, Tryd.ntmps32
  go_wp2_with fail
  generalize w.alloc (.cells #[.string ⟨#[]⟩, .int .i64 0, .string ⟨#[]⟩] 35) = wa at *
  refine (new_any w.heap.size a len cap _ hc0 b0.size).mono ?_
  rintro e w1 ⟨rfl, hC1, hb1⟩
  go_wp2_with fail
  refine (cmdDraw_any w.heap.size wa.heap.size _ hC1).mono ?_
  rintro e w2 ⟨s, n, x, rfl, hs, hn0, hn1, hx, hd2⟩
  have B1 := b0.trans (hb1.mono b0.size)
  have B2 := B1.trans (hd2.below (Nat.le_trans b0.size hb1.size))
  have r2 := (hd2.by'.block w.heap.size (by have := hb1.size; omega) (by simp; omega)).trans ((hb1.block w.heap.size (by omega)).trans r0)
  have c0 := cell_of_row _ _ 0 _ _ _ r2
  have c1 := cell_of_row _ _ 1 _ _ _ r2
  have c2 := cell_of_row _ _ 2 _ _ _ r2
  simp only [List.getElem?_toArray, List.getElem?_cons_zero, List.getElem?_cons_succ] at c0 c1 c2
  have f0 := frozen_of_row _ _ 0 _ _ r2
  have f1 := frozen_of_row _ _ 1 _ _ r2
  have f2 := frozen_of_row _ _ 2 _ _ r2
  clear r0 b0 s0 hc0 hb1 hC1 hd2 B1 r2
  go_wp2_with fail
  exact bodyPost_ret (v := .agg #[.string s, .int .i64 n, .string x]) (by simp [results, Tryd.results32, go_sem, *]) rfl ⟨s, n, x, rfl, hs, hn0, hn1, hx, by repeat (first | (with_reducible exact B2) | (with_reducible refine Below.setCell ?_ (by exact Nat.le_refl _) _))⟩

set_option maxRecDepth 100000 in
set_option maxHeartbeats 1600000 in
theorem drawRead_any (a : Option Addr) (len cap : Nat) (w : World) (hc : IsCode w w.heap.size a len cap) :
    Calls Tryd.prog 33 #[.slice a len cap] w fun e w' => ∃ t : ByteArray, e = .returned (.string t) ∧ t.size ≤ 60000 ∧ Below w.heap.size w w' := by
  go_enter Tryd.func33, Tryd.ntmps33
  go_wp2_with fail
  refine (new_any w.heap.size a len cap _ hc (Nat.le_refl _)).mono ?_
  rintro e w1 ⟨rfl, hC1, hb1⟩
  go_wp2_with fail
  refine (cmdDraw_any w.heap.size w.heap.size _ hC1).mono ?_
  rintro e w2 ⟨s, n, x, rfl, hs, hn0, hn1, hx, hd2⟩
  go_wp2_with fail
  refine (cmd_spec s n x _ (by omega) (by omega) (by omega) (by omega)).mono ?_
  rintro e w3 ⟨rfl, hb3⟩
  have hd3 := drawn_bel hd2 hb3
  have ht : (cmdT s n x).size ≤ 50050 := cmdT_size s n x hs hx (by omega) (by omega)
  generalize cmdT s n x = t at *
  go_wp2_with fail
  refine (spoil_any w.heap.size w.heap.size t _ (by omega) hd3.cur).mono ?_
  rintro e w4 ⟨u, rfl, hu, hd4⟩
  have hd := hd3.trans hd4
  go_wp2_with fail
  go_ret
  exact ⟨u, rfl, by omega, hb1.trans (hd.below hb1.size)⟩
end Go.Proofs.YtadjhnaiphnpoaaDoor
