/- The names in round brackets, as the reader takes them. -/
import Derived.Test.YtlmmomffanakiaaParA
import Derived.Test.YtlmmomffanakiaaTreeC
import Derived.Test.YtlmmomffanakiaaJmC
import Derived.Deep.AppendLies
import Derived.OwnWalk
namespace Go.Proofs.Ytlmmomffanakiaa
open Go.RowKit

theorem own_pg {w w1 : World} {B c : Nat} {e : TypeId} {sz n : Nat} {v : Value} {xs : List Value} (h : w.ownsRow B e sz v n xs) (hg : w.grownBy w1 (some c)) (hc : c < B) : w1.ownsRow B e sz v n xs :=
  ⟨h.1, h.2.imp id fun ⟨g, cap, cur, e1, e2, e3, e4⟩ => ⟨g, cap, cur, e1, e2, by rw [hg.block g (Array.getElem?_eq_some_iff.1 e3).1 (fun h => by have := Option.some.inj h; omega)]; exact e3, e4⟩⟩
theorem own_some {w : World} {B : Nat} {e : TypeId} {sz n : Nat} {v : Value} {xs : List Value} (h : w.ownsRow B e sz v n xs) (hn : 0 < n) : ∃ g cap, v = .slice (some ⟨g, 0, none⟩) n cap ∧ B ≤ g := by
  rcases h.2 with ⟨rfl, h0⟩ | ⟨g, cap, cur, rfl, hB, _⟩
  · omega
  · exact ⟨g, cap, rfl, hB⟩
theorem own_sat {w : World} {B : Nat} {T : TypeId} {v : Value} {ns : List ByteArray} (h : w.ownsRow B T 1 v ns.length (ns.map Value.string)) (hz : ∀ s ∈ ns, s.size ≤ 4000) :
    ∃ a ca, v = .slice a ns.length ca ∧ SAt w B w.heap.size ns a := by
  have hcells := fun g hg => h.cells (g := g) hg
  rcases h.2 with ⟨rfl, h0⟩ | ⟨g, cap, cur, rfl, hB, hg, hle, hm, hsz, htk⟩
  · exact ⟨none, 0, by rw [h0], fun i hi => by omega⟩
  · refine ⟨_, cap, rfl, fun i hi => ⟨by have := hz _ (List.getElem_mem hi); unfold maxLen; omega, g, 0, rfl, hB, (Array.getElem?_eq_some_iff.1 hg).1, ?_⟩⟩
    have := hcells g rfl i (.string ns[i]) (by simp [hi])
    have hadd : (⟨g, 0, none⟩ : Addr).add i = ⟨g, 0 + i, none⟩ := by unfold Addr.add; split <;> simp_all
    rw [hadd] at this
    exact this

theorem PS.grown {w w' : World} {c : Nat} {la : Option Addr} {cap : Nat} {L : List Tk} {i : Nat} {bad : Bool} {row : Option Nat} {o : Obj} (h : PS w c la cap L i bad) (hg : (w.alloc o).grownBy w' row) (hr : ∀ k, row = some k → c < k) : PS w' c la cap L i bad := by
  have h' := h.below (bel_alloc w o)
  exact ⟨(hg.block c h'.lt (fun e => by have := hr c e.symm; omega)).trans h'.row, fun j hj => by
    obtain ⟨g, e, hgc, hc⟩ := h'.toks j hj
    have hlt := h'.lt
    exact ⟨g, e, hgc, fun m hm => (World.cell?_of_block (w := w.alloc o) (hg.block g (by omega) (fun e => by have := hr g e.symm; omega))).trans (hc m hm)⟩, h.le, h.len, h.txt⟩
theorem pg_own {w a b : World} {o : Obj} {row : Option Nat} {c : Nat} (h : w.grownBy a (some c)) (hg : (a.alloc o).grownBy b row) (hr : ∀ k, row = some k → w.heap.size ≤ k) : w.grownBy b (some c) :=
  ⟨hg.os.trans h.os, hg.tape.trans h.tape, hg.output.trans h.output, Nat.le_trans h.size (Nat.le_trans (bel_alloc a o).size hg.size), fun k hk hne => by
    have hs := h.size
    rw [hg.block k (by rw [size_alloc]; omega) (fun e => by have := hr k e.symm; omega), Below.heap_alloc _ _ _ (by omega)]
    exact h.block k hk hne⟩
theorem one_cell (wx : World) (e : TypeId) (s : ByteArray) (nb : Nat) (hn : nb = wx.heap.size) : ∀ j u, [Value.string s][j]? = some u → (wx.alloc (.cells #[.string s] e)).cell? ((⟨nb, 0, none⟩ : Addr).add j) = some u := by
  intro j u hu
  subst hn
  have hadd : (⟨wx.heap.size, 0, none⟩ : Addr).add j = ⟨wx.heap.size, j, none⟩ := by unfold Addr.add; split <;> simp_all
  rw [hadd, cell_of_row _ wx.heap.size j _ e (0, 0) (heap_alloc_new wx _)]
  simpa using hu
theorem str_step {w1 : World} {B : Nat} {e : TypeId} {v' : Value} {ns : List ByteArray} {s : ByteArray} (h : w1.ownsRow B e 1 v' (ns.length + 1) (ns.map Value.string ++ [.string s])) : w1.ownsRow B e 1 v' (ns ++ [s]).length ((ns ++ [s]).map Value.string) := by
  rw [List.length_append, List.map_append]; exact h

/-- What is left to be read; nothing where a word did not fit. -/
def pm (w : World) (c n : Nat) : Nat :=
  match w.cell? ⟨c, 1, none⟩, w.cell? ⟨c, 2, none⟩ with
  | some (Value.int _ i), some (Value.bool b) => if b then 0 else n - i.toNat + 1
  | _, _ => 0
theorem PS.pm {w : World} {c : Nat} {la : Option Addr} {cap : Nat} {L : List Tk} {i : Nat} {bad : Bool} (h : PS w c la cap L i bad) : pm w c L.length = if bad then 0 else L.length - i + 1 := by
  unfold Go.Proofs.Ytlmmomffanakiaa.pm
  rw [h.c1, h.c2]
  simp
def lenOf : Value → Nat
  | .slice _ n _ => n
  | _ => 0

set_option maxRecDepth 100000 in
set_option maxHeartbeats 3200000 in
theorem names_any (c : Nat) (la : Option Addr) (cap : Nat) (L : List Tk) (i : Nat) (bad : Bool) (w : World) (h : PS w c la cap L i bad) :
    Calls Try.prog 78 #[.pointer (some ⟨c, 0, none⟩)] w fun e w' => (∃ (ns : List ByteArray) (v : Value) (i' : Nat) (bad' : Bool), e = .returned v ∧ w'.ownsRow w.heap.size 9 1 v ns.length (ns.map Value.string) ∧ (∀ s ∈ ns, s.size ≤ 4000) ∧ ns.length ≤ 9 ∧ PS w' c la cap L i' bad' ∧ i ≤ i' ∧ (bad = true → bad' = true ∧ i' = i) ∧ (bad' = false → ns.length + 2 ≤ i' - i)) ∧ w.grownBy w' (some c) := by
  obtain ⟨i0, hi0, hz0, hz1, hz2⟩ := info_parts info_str
  have hcw := h.lt
  go_enter Try.func78, Try.ntmps78
  go_wp2_with fail
  have h0 := h.below (bel_alloc w (.cells #[] 9))
  refine (take_any c la cap L i bad ⟨#[40]⟩ _ h0).mono ?_
  rintro e w1 ⟨rfl, j1, bd1, h1, ht1, hg1⟩
  have hg1' := pg_trans (pg_below (bel_alloc w (.cells #[] 9))) hg1
  have hown1 := own_pg (owns_none w 9 1) hg1 hcw
  go_wp2_with fail
  go_loopw [3] (fun v wr => ∃ (ns : List ByteArray) (j : Nat) (bd : Bool), (∃ g cp, v = .slice (some ⟨g, 0, none⟩) ns.length cp) ∧ wr.ownsRow w.heap.size 9 1 v ns.length (ns.map Value.string) ∧ (∀ s ∈ ns, s.size ≤ 4000) ∧ ns.length ≤ 9 ∧ (bd = false → ns.length ≤ 8) ∧ PS wr c la cap L j bd ∧ i ≤ j ∧ (bad = true → bd = true ∧ j = i) ∧ (bd = false → ns.length + 1 ≤ j - i) ∧ w.grownBy wr (some c)) (fun v _ => 9 - lenOf v)
  case atStart => exact ⟨[], j1, bd1, ⟨_, _, rfl⟩, hown1, (fun s hs => by cases hs), by decide, fun _ => by decide, h1, by rcases ht1 with ⟨_, _, _, rfl⟩ | ⟨_, rfl⟩ <;> omega, fun hb => by rcases ht1 with ⟨h, _⟩ | ⟨h, h'⟩ <;> simp_all, fun hb => by rcases ht1 with ⟨_, _, _, rfl⟩ | ⟨h, _⟩ <;> simp_all, hg1'⟩
  case round =>
    obtain ⟨ns, j, bd, ⟨g, cp, rfl⟩, hown, hz, hn9, hn8, hP, hij, hbad, hcount, hgr⟩ := hrel
    have p2 := hP.c2
    cases bd
    · have hn8' : ns.length ≤ 8 := hn8 (by simp)
      go_wp2_with fail
      refine (is_any c la cap L j false ⟨#[41]⟩ _ hP).mono ?_
      rintro e w2 ⟨⟨b2, rfl, _⟩, hb2⟩
      have hP2 := hP.below hb2
      have hown2 := own_later hown hb2
      have hgr2 := pg_trans hgr (pg_below (row := some c) hb2)
      clear hown hP hgr p2 hn8
      cases b2
      · by_cases hn0 : ns.length < 1
        · have p1 := hP2.c1
          go_wp2_with fail
          refine (name_any c la cap L j false _ hP2).mono ?_
          rintro e w4 ⟨⟨s, rfl, hs⟩, j4, bd4, h4, ht4, hg4⟩
          have hown4 := own_pg hown2 hg4 hcw
          have hgr4 := pg_trans hgr2 hg4
          have hj4 : j ≤ j4 ∧ (bd4 = false → j4 = j + 1 ∧ false = false) := by rcases ht4 with ⟨q1, q2, q3, q4⟩ | ⟨q1, q2⟩ <;> simp_all
          have q1 := h4.c1
          have q2 := h4.c2
          have f1 := h4.f 1
          have f2 := h4.f 2
          cases bd4
          · obtain ⟨rfl, hB0⟩ := hj4.2 rfl
            have hcells : ∀ (k : Nat) (t : ByteArray), ns[k]? = some t → w4.cell? ⟨g, k, none⟩ = some (.string t) := fun k t ht => by
              have := hown4.cells rfl k (.string t) (by simp [ht])
              have hadd : (⟨g, 0, none⟩ : Addr).add k = ⟨g, k, none⟩ := by unfold Addr.add; split <;> simp_all
              rw [hadd] at this; exact this
            have HC : Hid (∀ (k : Nat) (t : ByteArray), ns[k]? = some t → w4.cell? ⟨g, k, none⟩ = some (.string t)) := hcells
            clear hcells
            go_wp2_with fail
            refine (has_any ns s g cp _ (by omega) HC.out).mono ?_
            rintro e w5 ⟨rfl, rfl⟩
            clear HC
            have hPB := h4.bad!
            have hPI : PS ((w4.setCell ⟨c, 2, none⟩ (.bool true)).setCell ⟨c, 1, none⟩ (.int .i64 (j : Nat))) c la cap L j true := hPB.next _ j rfl (by have := h4.le; omega)
            have hGI := pg_trans (pg_trans hgr4 (pg_set w4 c 2 (.bool true))) (pg_set _ c 1 (.int .i64 (j : Nat)))
            have hOI := own_pg (own_pg hown4 (pg_set w4 c 2 (.bool true)) hcw) (pg_set _ c 1 (.int .i64 (j : Nat))) hcw
            have fi1 := hPB.f 1
            have qi1 := hPB.c1
            generalize hasS ns s = hb at *
            cases hb
            · have h8 : ¬ 8 ≤ ns.length := by omega
              go_wp2_with (at_builtin; go_must (refine wpList_append_own _ rfl _ _ 24 rfl w.heap.size 9 i0 (.string ByteArray.empty) 1 16 Try.underlying24 hi0 hz0 hz1 hz2 rfl (by decide) _ _ _ rfl ((hown4).alloc _) ⟨w4.heap.size, 0, none⟩ 1 1 [.string s] rfl rfl ?c1 ?c2 ?c3 ?c4 ?c5 ?_))
              case c1 => exact one_cell _ _ _ _ (by simp)
              case c2 => intro u hu; simp at hu; subst hu; rfl
              case c3 => unfold maxLen; omega
              case c4 => omega
              case c5 => have := hgr4.size; simp; omega
              intro v' w6 hown6 hgrow _
              obtain ⟨g6, cp6, rfl, hg6⟩ := own_some hown6 (by omega)
              have hown7 := str_step (ns := ns) (s := s) hown6
              have hP6 := PS.grown h4 hgrow (fun k hk => by have := ((hown4).lt k hk).1; omega)
              have hgr6 := pg_own hgr4 hgrow (fun k hk => ((hown4).lt k hk).1)
              go_wp2_with fail
              go_roundw
              case rel => exact ⟨ns ++ [s], (j + 1), false, ⟨g6, cp6, by simp⟩, hown7, (fun x hx => (List.mem_append.1 hx).elim (hz x) (fun hx => by rw [List.mem_singleton] at hx; subst hx; exact hs)), by simp; omega, (fun _ => by simp; omega), hP6, by omega, (fun hb => by have := (hbad hb).1; cases this), (fun _ => by have := hcount (by simp); simp; omega), hgr6⟩
              case measure => simp [lenOf]; omega
            · go_wp2_with (at_builtin; go_must (refine wpList_append_own _ rfl _ _ 24 rfl w.heap.size 9 i0 (.string ByteArray.empty) 1 16 Try.underlying24 hi0 hz0 hz1 hz2 rfl (by decide) _ _ _ rfl ((hOI).alloc _) ⟨w4.heap.size, 0, none⟩ 1 1 [.string s] rfl rfl ?c1 ?c2 ?c3 ?c4 ?c5 ?_))
              case c1 => exact one_cell _ _ _ _ (by simp)
              case c2 => intro u hu; simp at hu; subst hu; rfl
              case c3 => unfold maxLen; omega
              case c4 => omega
              case c5 => have := hgr4.size; simp; omega
              intro v' w6 hown6 hgrow _
              obtain ⟨g6, cp6, rfl, hg6⟩ := own_some hown6 (by omega)
              have hown7 := str_step (ns := ns) (s := s) hown6
              have hP6 := PS.grown hPI hgrow (fun k hk => by have := ((hOI).lt k hk).1; omega)
              have hgr6 := pg_own hGI hgrow (fun k hk => ((hOI).lt k hk).1)
              go_wp2_with fail
              go_roundw
              case rel => exact ⟨ns ++ [s], j, true, ⟨g6, cp6, by simp⟩, hown7, (fun x hx => (List.mem_append.1 hx).elim (hz x) (fun hx => by rw [List.mem_singleton] at hx; subst hx; exact hs)), by simp; omega, (fun hb => by cases hb), hP6, by omega, (fun hb => by have := (hbad hb).1; cases this), (fun hb => by cases hb), hgr6⟩
              case measure => simp [lenOf]; omega
          · go_wp2_with (at_builtin; go_must (refine wpList_append_own _ rfl _ _ 24 rfl w.heap.size 9 i0 (.string ByteArray.empty) 1 16 Try.underlying24 hi0 hz0 hz1 hz2 rfl (by decide) _ _ _ rfl ((hown4).alloc _) ⟨w4.heap.size, 0, none⟩ 1 1 [.string s] rfl rfl ?c1 ?c2 ?c3 ?c4 ?c5 ?_))
            case c1 => exact one_cell _ _ _ _ (by simp)
            case c2 => intro u hu; simp at hu; subst hu; rfl
            case c3 => unfold maxLen; omega
            case c4 => omega
            case c5 => have := hgr4.size; simp; omega
            intro v' w6 hown6 hgrow _
            obtain ⟨g6, cp6, rfl, hg6⟩ := own_some hown6 (by omega)
            have hown7 := str_step (ns := ns) (s := s) hown6
            have hP6 := PS.grown h4 hgrow (fun k hk => by have := ((hown4).lt k hk).1; omega)
            have hgr6 := pg_own hgr4 hgrow (fun k hk => ((hown4).lt k hk).1)
            go_wp2_with fail
            go_roundw
            case rel => exact ⟨ns ++ [s], j4, true, ⟨g6, cp6, by simp⟩, hown7, (fun x hx => (List.mem_append.1 hx).elim (hz x) (fun hx => by rw [List.mem_singleton] at hx; subst hx; exact hs)), by simp; omega, (fun hb => by cases hb), hP6, by omega, (fun hb => by have := (hbad hb).1; cases this), (fun hb => by cases hb), hgr6⟩
            case measure => simp [lenOf]; omega
        · go_wp2_with fail
          refine (take_any c la cap L j false ⟨#[44]⟩ _ hP2).mono ?_
          rintro e w3 ⟨rfl, j3, bd3, h3, ht3, hg3⟩
          have hown3 := own_pg hown2 hg3 hcw
          have hgr3 := pg_trans hgr2 hg3
          have hj3 : j ≤ j3 := by rcases ht3 with ⟨_, _, _, rfl⟩ | ⟨_, rfl⟩ <;> omega
          clear hown2 hgr2 hP2 hg3 ht3
          have p1 := h3.c1
          go_wp2_with fail
          refine (name_any c la cap L j3 bd3 _ h3).mono ?_
          rintro e w4 ⟨⟨s, rfl, hs⟩, j4, bd4, h4, ht4, hg4⟩
          have hown4 := own_pg hown3 hg4 hcw
          have hgr4 := pg_trans hgr3 hg4
          have hj4 : j3 ≤ j4 ∧ (bd4 = false → j4 = j3 + 1 ∧ bd3 = false) := by rcases ht4 with ⟨q1, q2, q3, q4⟩ | ⟨q1, q2⟩ <;> simp_all
          have q1 := h4.c1
          have q2 := h4.c2
          have f1 := h4.f 1
          have f2 := h4.f 2
          cases bd4
          · obtain ⟨rfl, hB0⟩ := hj4.2 rfl
            have hcells : ∀ (k : Nat) (t : ByteArray), ns[k]? = some t → w4.cell? ⟨g, k, none⟩ = some (.string t) := fun k t ht => by
              have := hown4.cells rfl k (.string t) (by simp [ht])
              have hadd : (⟨g, 0, none⟩ : Addr).add k = ⟨g, k, none⟩ := by unfold Addr.add; split <;> simp_all
              rw [hadd] at this; exact this
            have HC : Hid (∀ (k : Nat) (t : ByteArray), ns[k]? = some t → w4.cell? ⟨g, k, none⟩ = some (.string t)) := hcells
            clear hcells
            go_wp2_with fail
            refine (has_any ns s g cp _ (by omega) HC.out).mono ?_
            rintro e w5 ⟨rfl, rfl⟩
            clear HC
            have hPB := h4.bad!
            have hPI : PS ((w4.setCell ⟨c, 2, none⟩ (.bool true)).setCell ⟨c, 1, none⟩ (.int .i64 (j3 : Nat))) c la cap L j3 true := hPB.next _ j3 rfl (by have := h4.le; omega)
            have hGI := pg_trans (pg_trans hgr4 (pg_set w4 c 2 (.bool true))) (pg_set _ c 1 (.int .i64 (j3 : Nat)))
            have hOI := own_pg (own_pg hown4 (pg_set w4 c 2 (.bool true)) hcw) (pg_set _ c 1 (.int .i64 (j3 : Nat))) hcw
            have fi1 := hPB.f 1
            have qi1 := hPB.c1
            generalize hasS ns s = hb at *
            cases hb
            · by_cases h8 : 8 ≤ ns.length
              · go_wp2_with (at_builtin; go_must (refine wpList_append_own _ rfl _ _ 24 rfl w.heap.size 9 i0 (.string ByteArray.empty) 1 16 Try.underlying24 hi0 hz0 hz1 hz2 rfl (by decide) _ _ _ rfl ((hOI).alloc _) ⟨w4.heap.size, 0, none⟩ 1 1 [.string s] rfl rfl ?c1 ?c2 ?c3 ?c4 ?c5 ?_))
                case c1 => exact one_cell _ _ _ _ (by simp)
                case c2 => intro u hu; simp at hu; subst hu; rfl
                case c3 => unfold maxLen; omega
                case c4 => omega
                case c5 => have := hgr4.size; simp; omega
                intro v' w6 hown6 hgrow _
                obtain ⟨g6, cp6, rfl, hg6⟩ := own_some hown6 (by omega)
                have hown7 := str_step (ns := ns) (s := s) hown6
                have hP6 := PS.grown hPI hgrow (fun k hk => by have := ((hOI).lt k hk).1; omega)
                have hgr6 := pg_own hGI hgrow (fun k hk => ((hOI).lt k hk).1)
                go_wp2_with fail
                go_roundw
                case rel => exact ⟨ns ++ [s], j3, true, ⟨g6, cp6, by simp⟩, hown7, (fun x hx => (List.mem_append.1 hx).elim (hz x) (fun hx => by rw [List.mem_singleton] at hx; subst hx; exact hs)), by simp; omega, (fun hb => by cases hb), hP6, by omega, (fun hb => by have := (hbad hb).1; cases this), (fun hb => by cases hb), hgr6⟩
                case measure => simp [lenOf]; omega
              · go_wp2_with (at_builtin; go_must (refine wpList_append_own _ rfl _ _ 24 rfl w.heap.size 9 i0 (.string ByteArray.empty) 1 16 Try.underlying24 hi0 hz0 hz1 hz2 rfl (by decide) _ _ _ rfl ((hown4).alloc _) ⟨w4.heap.size, 0, none⟩ 1 1 [.string s] rfl rfl ?c1 ?c2 ?c3 ?c4 ?c5 ?_))
                case c1 => exact one_cell _ _ _ _ (by simp)
                case c2 => intro u hu; simp at hu; subst hu; rfl
                case c3 => unfold maxLen; omega
                case c4 => omega
                case c5 => have := hgr4.size; simp; omega
                intro v' w6 hown6 hgrow _
                obtain ⟨g6, cp6, rfl, hg6⟩ := own_some hown6 (by omega)
                have hown7 := str_step (ns := ns) (s := s) hown6
                have hP6 := PS.grown h4 hgrow (fun k hk => by have := ((hown4).lt k hk).1; omega)
                have hgr6 := pg_own hgr4 hgrow (fun k hk => ((hown4).lt k hk).1)
                go_wp2_with fail
                go_roundw
                case rel => exact ⟨ns ++ [s], (j3 + 1), false, ⟨g6, cp6, by simp⟩, hown7, (fun x hx => (List.mem_append.1 hx).elim (hz x) (fun hx => by rw [List.mem_singleton] at hx; subst hx; exact hs)), by simp; omega, (fun _ => by simp; omega), hP6, by omega, (fun hb => by have := (hbad hb).1; cases this), (fun _ => by have := hcount (by simp); simp; omega), hgr6⟩
                case measure => simp [lenOf]; omega
            · go_wp2_with (at_builtin; go_must (refine wpList_append_own _ rfl _ _ 24 rfl w.heap.size 9 i0 (.string ByteArray.empty) 1 16 Try.underlying24 hi0 hz0 hz1 hz2 rfl (by decide) _ _ _ rfl ((hOI).alloc _) ⟨w4.heap.size, 0, none⟩ 1 1 [.string s] rfl rfl ?c1 ?c2 ?c3 ?c4 ?c5 ?_))
              case c1 => exact one_cell _ _ _ _ (by simp)
              case c2 => intro u hu; simp at hu; subst hu; rfl
              case c3 => unfold maxLen; omega
              case c4 => omega
              case c5 => have := hgr4.size; simp; omega
              intro v' w6 hown6 hgrow _
              obtain ⟨g6, cp6, rfl, hg6⟩ := own_some hown6 (by omega)
              have hown7 := str_step (ns := ns) (s := s) hown6
              have hP6 := PS.grown hPI hgrow (fun k hk => by have := ((hOI).lt k hk).1; omega)
              have hgr6 := pg_own hGI hgrow (fun k hk => ((hOI).lt k hk).1)
              go_wp2_with fail
              go_roundw
              case rel => exact ⟨ns ++ [s], j3, true, ⟨g6, cp6, by simp⟩, hown7, (fun x hx => (List.mem_append.1 hx).elim (hz x) (fun hx => by rw [List.mem_singleton] at hx; subst hx; exact hs)), by simp; omega, (fun hb => by cases hb), hP6, by omega, (fun hb => by have := (hbad hb).1; cases this), (fun hb => by cases hb), hgr6⟩
              case measure => simp [lenOf]; omega
          · go_wp2_with (at_builtin; go_must (refine wpList_append_own _ rfl _ _ 24 rfl w.heap.size 9 i0 (.string ByteArray.empty) 1 16 Try.underlying24 hi0 hz0 hz1 hz2 rfl (by decide) _ _ _ rfl ((hown4).alloc _) ⟨w4.heap.size, 0, none⟩ 1 1 [.string s] rfl rfl ?c1 ?c2 ?c3 ?c4 ?c5 ?_))
            case c1 => exact one_cell _ _ _ _ (by simp)
            case c2 => intro u hu; simp at hu; subst hu; rfl
            case c3 => unfold maxLen; omega
            case c4 => omega
            case c5 => have := hgr4.size; simp; omega
            intro v' w6 hown6 hgrow _
            obtain ⟨g6, cp6, rfl, hg6⟩ := own_some hown6 (by omega)
            have hown7 := str_step (ns := ns) (s := s) hown6
            have hP6 := PS.grown h4 hgrow (fun k hk => by have := ((hown4).lt k hk).1; omega)
            have hgr6 := pg_own hgr4 hgrow (fun k hk => ((hown4).lt k hk).1)
            go_wp2_with fail
            go_roundw
            case rel => exact ⟨ns ++ [s], j4, true, ⟨g6, cp6, by simp⟩, hown7, (fun x hx => (List.mem_append.1 hx).elim (hz x) (fun hx => by rw [List.mem_singleton] at hx; subst hx; exact hs)), by simp; omega, (fun hb => by cases hb), hP6, by omega, (fun hb => by have := (hbad hb).1; cases this), (fun hb => by cases hb), hgr6⟩
            case measure => simp [lenOf]; omega
      · go_wp2_with fail
        refine (take_any c la cap L j false ⟨#[41]⟩ _ hP2).mono ?_
        rintro e w8 ⟨rfl, j8, bd8, h8, ht8, hg8⟩
        have hown8 := own_pg hown2 hg8 hcw
        have hgr8 := pg_trans hgr2 hg8
        go_wp2_with fail
        go_ret
        exact ⟨⟨ns, _, j8, bd8, rfl, hown8, hz, hn9, h8, by rcases ht8 with ⟨_, _, _, rfl⟩ | ⟨_, rfl⟩ <;> omega, fun hb => by
          obtain ⟨q1, q2⟩ := hbad hb
          rcases ht8 with ⟨h, _⟩ | ⟨h, h'⟩ <;> simp_all, fun hb => by
          rcases ht8 with ⟨q0, _, _, rfl⟩ | ⟨h, _⟩
          · have := hcount (by simp); omega
          · simp_all⟩, hgr8⟩
    · go_wp2_with fail
      refine (take_any c la cap L j true ⟨#[41]⟩ _ hP).mono ?_
      rintro e w8 ⟨rfl, j8, bd8, h8, ht8, hg8⟩
      have hown8 := own_pg hown hg8 hcw
      have hgr8 := pg_trans hgr hg8
      go_wp2_with fail
      go_ret
      exact ⟨⟨ns, _, j8, bd8, rfl, hown8, hz, hn9, h8, by rcases ht8 with ⟨_, _, _, rfl⟩ | ⟨_, rfl⟩ <;> omega, fun hb => by
        obtain ⟨q1, q2⟩ := hbad hb
        rcases ht8 with ⟨h, _⟩ | ⟨h, h'⟩ <;> simp_all, fun hb => by
        rcases ht8 with ⟨q0, _, _, rfl⟩ | ⟨h, _⟩
        · cases q0
        · simp_all⟩, hgr8⟩
end Go.Proofs.Ytlmmomffanakiaa
namespace Go.Proofs.Ytlmmomffanakiaa
open Go.RowKit

theorem own_sl {w : World} {B : Nat} {T : TypeId} {k : Nat} {v : Value} {n : Nat} {xs : List Value} (h : w.ownsRow B T k v n xs) : ∃ a c, v = .slice a n c := by
  rcases h.2 with ⟨rfl, h0⟩ | ⟨g, cap, cur, e, _⟩
  · exact ⟨none, 0, by rw [h0]⟩
  · exact ⟨_, _, e⟩
theorem own_keep {w w' : World} {B : Nat} {T : TypeId} {k : Nat} {v : Value} {n : Nat} {xs : List Value} (h : w.ownsRow B T k v n xs) (hk : ∀ g cs, v.ownBlock = some g → w.heap[g]? = some (.cells cs T (0, 0)) → w'.heap[g]? = w.heap[g]?) : w'.ownsRow B T k v n xs := by
  obtain ⟨h1, h2⟩ := h
  refine ⟨h1, h2.imp_right ?_⟩
  rintro ⟨g, cap, cur, e, hB, hg, hr⟩
  exact ⟨g, cap, cur, e, hB, (hk g cur (by rw [e]; rfl) hg).trans hg, hr⟩
theorem own_below {w w' : World} {B : Nat} {T : TypeId} {k : Nat} {v : Value} {n : Nat} {xs : List Value} (h : w.ownsRow B T k v n xs) (hb : Below w.heap.size w w') : w'.ownsRow B T k v n xs :=
  own_keep h fun g _ _ hg => hb.block g (Array.getElem?_eq_some_iff.1 hg).1
theorem own_lit0 (w : World) (B : Nat) (e : TypeId) (k : Nat) (hB : B ≤ w.heap.size) : (w.alloc (.cells #[] e)).ownsRow B e k (.slice (some ⟨w.heap.size, 0, none⟩) 0 0) 0 [] := by
  have := World.ownsRow_lit (base := B) (e := e) (size := k) w #[] 0 hB (by decide) (by simp)
  simpa using this
/- Append, whatever is appended. -/
section
variable {P : Program} (w : World)
theorem run_append_zero (base : Nat) (t ty e : TypeId) (i : TypeInfo) (size : Nat) (ht : P.underlying t = some (.slice e)) (hi : P.info? e = some i)
    (v : Value) (n : Nat) (xs : List Value) (hown : w.ownsRow base e size v n xs) (b : Option Addr) (c : Nat) :
    (Builtin.append_ #[t, t] ty #[v, .slice b 0 c]).run P w = .ok v w := by
  rcases hown.2 with ⟨rfl, rfl⟩ | ⟨g, cap, cur, rfl, _, _, hnc, _⟩ <;> cases b <;>
    simp [Builtin.append_, run_underlying ht, sizeOf, typeInfo, Builtin.lenOf, Builtin.firstCells, storeCells, loadCells, loadCellsFrom, *, Result.andThen]

theorem run_append_any (t ty : TypeId) (base : Nat) (e : TypeId) (i : TypeInfo) (z : Value) (size bytes : Nat) (ht : P.underlying t = some (.slice e)) (hi : P.info? e = some i) (hz : i.zero = some z)
    (hsize : i.size = size) (hby : i.bytes = bytes) (hzs : z.cells.size = size) (hsz : 0 < size)
    (v : Value) (n : Nat) (xs : List Value) (hown : w.ownsRow base e size v n xs)
    (b : Option Addr) (m c : Nat) (news : List Value) (hl : news.length = m * size) (hnews : ∀ j u, news[j]? = some u → ∃ ad, b = some ad ∧ w.cell? (ad.add j) = some u) (h1 : ∀ u ∈ news, u.oneCell' = true)
    (h63 : n + m ≤ maxLen) (hbytes : (n + m) * bytes ≤ 140737488355328) (hbase : base ≤ w.heap.size) (H : Nat) (hH : w.heap.size = H) :
    ∃ b' cap w', (Builtin.append_ #[t, t] ty #[v, .slice b m c]).run P w = .ok (.slice b' (n + m) cap) w' ∧
      w'.ownsRow base e size (.slice b' (n + m) cap) (n + m) (xs ++ news) ∧ w.grownBy w' v.ownBlock ∧ ((Value.slice b' (n + m) cap).ownBlock = v.ownBlock ∨ (Value.slice b' (n + m) cap).ownBlock = some H) := by
  by_cases hm : m = 0
  · subst hm
    obtain rfl : news = [] := List.length_eq_zero_iff.1 (by rw [hl]; omega)
    obtain ⟨a, cc, rfl⟩ := own_sl hown
    refine ⟨a, cc, w, run_append_zero w base t ty e i size ht hi _ n xs hown b c, ?_, ⟨rfl, rfl, rfl, Nat.le_refl _, fun _ _ _ => rfl⟩, .inl rfl⟩
    simpa using hown
  · have hpos : 0 < news.length := by rw [hl]; exact Nat.mul_pos (by omega) hsz
    obtain ⟨ad, rfl, _⟩ := hnews 0 news[0] (List.getElem?_eq_getElem hpos)
    obtain ⟨g, cap, w', hr, h2, h3, h4, h5⟩ := run_append_lies (P := P) w t ty base e i z size bytes ht hi hz hsize hby hzs hsz v n xs hown ad m c news hl (fun j u hu => by obtain ⟨_, e1, e2⟩ := hnews j u hu; cases e1; exact e2) h1 (by omega) h63 hbytes hbase H hH
    refine ⟨_, _, w', hr, h2, h3, ?_⟩
    rcases h4 with h4 | h4
    · exact .inl h4.symm
    · exact .inr (by rw [h4]; rfl)

theorem wp_append_any {o : Oper} {a : Act} {K : Act → World → Prop} {Q : Exit → Act → World → Prop} (s x : Operand) (t : TypeId)
    (ho : o.op = .call { callee := .builtin .append, args := #[s, x], argTypes := #[t, t] })
    (base : Nat) (e : TypeId) (i : TypeInfo) (z : Value) (size bytes : Nat) (ht : P.underlying t = some (.slice e)) (hi : P.info? e = some i) (hz : i.zero = some z)
    (hsize : i.size = size) (hby : i.bytes = bytes) (hzs : z.cells.size = size) (hsz : 0 < size)
    (v : Value) (n : Nat) (xs : List Value) (hs : a.eval s = v) (hown : w.ownsRow base e size v n xs)
    (b : Option Addr) (m c : Nat) (news : List Value) (hx : a.eval x = .slice b m c) (hl : news.length = m * size) (hnews : ∀ j u, news[j]? = some u → ∃ ad, b = some ad ∧ w.cell? (ad.add j) = some u) (h1 : ∀ u ∈ news, u.oneCell' = true)
    (h63 : n + m ≤ maxLen) (hbytes : (n + m) * bytes ≤ 140737488355328) (hbase : base ≤ w.heap.size) (H : Nat) (hH : w.heap.size = H)
    (h : ∀ b' cap w', w'.ownsRow base e size (.slice b' (n + m) cap) (n + m) (xs ++ news) → w.grownBy w' v.ownBlock → ((Value.slice b' (n + m) cap).ownBlock = v.ownBlock ∨ (Value.slice b' (n + m) cap).ownBlock = some H) → K (a.put o.dst (.slice b' (n + m) cap)) w') : o.wp P a w K Q := by
  obtain ⟨g, cap, w', hr, h2, h3, h4⟩ := run_append_any (P := P) w t o.type base e i z size bytes ht hi hz hsize hby hzs hsz v n xs hown b m c news hl hnews h1 h63 hbytes hbase H hH
  unfold Oper.wp execOp
  simp only [ho, resolve, invoke, builtin, Sem.run_bind, Sem.run_pure, Result.andThen_ok, List.map_toArray, List.map_cons, List.map_nil, hs, hx, hr]
  exact h g cap w' h2 h3 h4

theorem wpList_append_any {ops : Array Oper} {rest : List Oper} {o : Oper} {a : Act} {Q : Exit → Act → World → Prop} (hgd : o.guard = none) (s x : Operand) (t : TypeId)
    (ho : o.op = .call { callee := .builtin .append, args := #[s, x], argTypes := #[t, t] })
    (base : Nat) (e : TypeId) (i : TypeInfo) (z : Value) (size bytes : Nat) (ht : P.underlying t = some (.slice e)) (hi : P.info? e = some i) (hz : i.zero = some z)
    (hsize : i.size = size) (hby : i.bytes = bytes) (hzs : z.cells.size = size) (hsz : 0 < size)
    (v : Value) (n : Nat) (xs : List Value) (hs : a.eval s = v) (hown : w.ownsRow base e size v n xs)
    (b : Option Addr) (m c : Nat) (news : List Value) (hx : a.eval x = .slice b m c) (hl : news.length = m * size) (hnews : ∀ j u, news[j]? = some u → ∃ ad, b = some ad ∧ w.cell? (ad.add j) = some u) (h1 : ∀ u ∈ news, u.oneCell' = true)
    (h63 : n + m ≤ maxLen) (hbytes : (n + m) * bytes ≤ 140737488355328) (hbase : base ≤ w.heap.size) (H : Nat) (hH : w.heap.size = H)
    (h : ∀ b' cap w', w'.ownsRow base e size (.slice b' (n + m) cap) (n + m) (xs ++ news) → w.grownBy w' v.ownBlock → ((Value.slice b' (n + m) cap).ownBlock = v.ownBlock ∨ (Value.slice b' (n + m) cap).ownBlock = some H) → wpList P ops Q rest (a.put o.dst (.slice b' (n + m) cap)) w') : wpList P ops Q (o :: rest) a w :=
  wpList_plain hgd fun _ hK => wp_append_any w s x t ho base e i z size bytes ht hi hz hsize hby hzs hsz v n xs hs hown b m c news hx hl hnews h1 h63 hbytes hbase H hH fun b' cap w' h2 h3 h4 => hK _ _ (h b' cap w' h2 h3 h4)

theorem step_append_any {ops : Array Oper} {o : Oper} {a : Act} {K : Act → World → Prop} {Q : Exit → Act → World → Prop} {E : Prop} (hgd : o.guard = none) (s x : Operand) (t : TypeId)
    (ho : o.op = .call { callee := .builtin .append, args := #[s, x], argTypes := #[t, t] })
    (base : Nat) (e : TypeId) (i : TypeInfo) (z : Value) (size bytes : Nat) (ht : P.underlying t = some (.slice e)) (hi : P.info? e = some i) (hz : i.zero = some z)
    (hsize : i.size = size) (hby : i.bytes = bytes) (hzs : z.cells.size = size) (hsz : 0 < size)
    (v : Value) (n : Nat) (xs : List Value) (hs : a.eval s = v) (hown : w.ownsRow base e size v n xs)
    (b : Option Addr) (m c : Nat) (news : List Value) (hx : a.eval x = .slice b m c) (hl : news.length = m * size) (hnews : ∀ j u, news[j]? = some u → ∃ ad, b = some ad ∧ w.cell? (ad.add j) = some u) (h1 : ∀ u ∈ news, u.oneCell' = true)
    (h63 : n + m ≤ maxLen) (hbytes : (n + m) * bytes ≤ 140737488355328) (hbase : base ≤ w.heap.size) (H : Nat) (hH : w.heap.size = H)
    (h : ∀ b' cap w', w'.ownsRow base e size (.slice b' (n + m) cap) (n + m) (xs ++ news) → w.grownBy w' v.ownBlock → ((Value.slice b' (n + m) cap).ownBlock = v.ownBlock ∨ (Value.slice b' (n + m) cap).ownBlock = some H) → K (a.put o.dst (.slice b' (n + m) cap)) w') :
    if Region.wanted o (yielded ops a.tmps) = true then Oper.wp P o a w K Q else E := by
  have hw : Region.wanted o (yielded ops a.tmps) = true := by simp [Region.wanted, hgd]
  rw [if_pos hw]
  exact wp_append_any w s x t ho base e i z size bytes ht hi hz hsize hby hzs hsz v n xs hs hown b m c news hx hl hnews h1 h63 hbytes hbase H hH h
end
end Go.Proofs.Ytlmmomffanakiaa
namespace Go.Proofs.Ytlmmomffanakiaa
open Go.RowKit

/-- A row of texts of one's own: no block below B. -/
def Ws (w : World) (B : Nat) (v : Value) (ss : List ByteArray) : Prop := w.ownsRow B 9 1 v ss.length (ss.map Value.string)
theorem ws_len {w : World} {B : Nat} {v : Value} {ss : List ByteArray} (h : Ws w B v ss) : ∃ a c, v = .slice a ss.length c := own_sl h
theorem ws_news {w : World} {B : Nat} {a : Option Addr} {n c : Nat} {ss : List ByteArray} (h : Ws w B (.slice a n c) ss) : ∀ j u, (ss.map Value.string)[j]? = some u → ∃ ad, a = some ad ∧ w.cell? (ad.add j) = some u := by
  intro j u hu
  have hcells := fun g hg => World.ownsRow.cells h (g := g) hg
  rcases h.2 with ⟨e, h0⟩ | ⟨g, cap, cur, e, _⟩
  · have hn : ss = [] := List.eq_nil_of_length_eq_zero (by omega)
    subst hn
    simp at hu
  · simp only [Value.slice.injEq] at e
    obtain ⟨rfl, _, _⟩ := e
    exact ⟨_, rfl, hcells g rfl j u hu⟩
theorem ws_one (ss : List ByteArray) : ∀ u ∈ ss.map Value.string, u.oneCell' = true := by
  intro u hu
  obtain ⟨s, _, rfl⟩ := List.mem_map.1 hu
  rfl
theorem ws_lit (w : World) (B : Nat) (ss : List ByteArray) (hB : B ≤ w.heap.size) (hs : ss.length ≤ 1000) : Ws (w.alloc (.cells (ss.map Value.string).toArray 9)) B (.slice (some ⟨w.heap.size, 0, none⟩) ss.length ss.length) ss := by
  have := World.ownsRow_lit (base := B) (e := 9) (size := 1) w (ss.map Value.string).toArray ss.length hB (by unfold maxLen; omega) (by simp)
  unfold Ws
  simpa using this
theorem ws_lit1 (w : World) (B : Nat) (s : ByteArray) (hB : B ≤ w.heap.size) : Ws (w.alloc (.cells #[.string s] 9)) B (.slice (some ⟨w.heap.size, 0, none⟩) 1 1) [s] := ws_lit w B [s] hB (by simp)
theorem ws_below {w w' : World} {B : Nat} {v : Value} {ss : List ByteArray} (h : Ws w B v ss) (hb : Below w.heap.size w w') : Ws w' B v ss := own_below h hb
theorem ws_app {w : World} {B n : Nat} {v : Value} {xs ys : List ByteArray} (hn : n = xs.length + ys.length) (h : w.ownsRow B 9 1 v n (xs.map Value.string ++ ys.map Value.string)) : Ws w B v (xs ++ ys) := by
  unfold Ws
  rw [List.length_append, List.map_append, ← hn]
  exact h
theorem ws_grow {w0 w w' : World} {o : Option Nat} (h : Below w0.heap.size w0 w) (hg : w.grownBy w' o) (ho : ∀ k, o = some k → w0.heap.size ≤ k) : Below w0.heap.size w0 w' :=
  h.trans ⟨hg.os, hg.tape, hg.output, hg.size, fun k hk => hg.block k (by have := h.size; omega) (fun e => by have := ho k e.symm; omega)⟩

set_option maxRecDepth 100000 in
set_option maxHeartbeats 1600000 in
theorem wrap_any (v : Value) (ss : List ByteArray) (B : Nat) (w : World) (h : Ws w B v ss) (hl : ss.length ≤ 1000000) :
    Calls Try.prog 72 #[v] w fun e w' => ∃ v', e = .returned v' ∧ Ws w' w.heap.size v' ([⟨#[40]⟩] ++ ss ++ [⟨#[41]⟩]) ∧ Below w.heap.size w w' := by
  obtain ⟨i0, hi0, hz0, hz1, hz2⟩ := info_parts info_str
  obtain ⟨a, c, rfl⟩ := ws_len h
  have B0 := bel_alloc w (.cells #[.string ⟨#[40]⟩] 9)
  have own0 : (w.alloc (.cells #[.string ⟨#[40]⟩] 9)).ownsRow w.heap.size 9 1 (.slice (some ⟨w.heap.size, 0, none⟩) 1 1) 1 ([⟨#[40]⟩].map Value.string) := ws_lit w w.heap.size [⟨#[40]⟩] (Nat.le_refl _) (by decide)
  have h0 := ws_below h B0
  have s0 := size_alloc w (.cells #[.string ⟨#[40]⟩] 9)
  go_enter Try.func72, Try.ntmps72
  go_wp2_with (at_builtin; go_must (refine wpList_append_any _ rfl _ _ 24 rfl w.heap.size 9 i0 (.string ByteArray.empty) 1 16 Try.underlying24 hi0 hz0 hz1 hz2 rfl (by decide) _ _ _ rfl own0 a ss.length c (ss.map Value.string) rfl (by simp) (ws_news h0) (ws_one _) (by unfold maxLen; omega) (by omega) (by rw [s0]; omega) _ rfl ?_))
  intro b1 c1 w1 own1 gr1 at1
  have B1 := ws_grow (w0 := w) B0 gr1 (fun k hk => by simp [Value.ownBlock] at hk; omega)
  have W1 : Ws w1 w.heap.size (.slice b1 (1 + ss.length) c1) ([⟨#[40]⟩] ++ ss) := ws_app (by simp) own1
  have s1 := size_alloc w1 (.cells #[.string ⟨#[41]⟩] 9)
  have sb := B1.size
  clear own0 own1 at1 gr1 h0 B0
  have own2 := World.ownsRow.alloc W1 (.cells #[.string ⟨#[41]⟩] 9)
  go_wp2_with (at_builtin; go_must (refine wpList_append_any _ rfl _ _ 24 rfl w.heap.size 9 i0 (.string ByteArray.empty) 1 16 Try.underlying24 hi0 hz0 hz1 hz2 rfl (by decide) _ _ _ rfl own2 (some ⟨w1.heap.size, 0, none⟩) 1 1 ([⟨#[41]⟩].map Value.string) rfl rfl (ws_news (ws_lit1 w1 w.heap.size ⟨#[41]⟩ sb)) (ws_one _) (by unfold maxLen; simp; omega) (by simp; omega) (by rw [s1]; omega) _ rfl ?_))
  intro b2 c2 w2 own3 gr2 at2
  have B2 := ws_grow (w0 := w) (B1.trans ((bel_alloc w1 (.cells #[.string ⟨#[41]⟩] 9)).mono sb)) gr2 (fun k hk => (World.ownsRow.lt W1 k hk).1)
  have W2 : Ws w2 w.heap.size (.slice b2 ((([⟨#[40]⟩] : List ByteArray) ++ ss).length + 1) c2) ([⟨#[40]⟩] ++ ss ++ [⟨#[41]⟩]) := ws_app (by simp) own3
  clear own2 own3 at2 gr2 W1 B1
  go_wp2_with fail
  go_ret
  exact ⟨_, rfl, W2, B2⟩
/-- A text more. -/
theorem ws_app1 {w wr w2 : World} {o : Obj} {v : Value} {ss : List ByteArray} {s : ByteArray} {n : Nat} {b2 : Option Addr} {c2 : Nat} (hn : ss.length = n) (hW : Ws wr w.heap.size v ss) (hB : Below w.heap.size w wr) (own : w2.ownsRow w.heap.size 9 1 (.slice b2 (n + 1) c2) (n + 1) (ss.map Value.string ++ [s].map Value.string)) (gr : (wr.alloc o).grownBy w2 v.ownBlock) : Ws w2 w.heap.size (.slice b2 (n + 1) c2) (ss ++ [s]) ∧ Below w.heap.size w w2 :=
  ⟨ws_app (by simp [hn]) own, ws_grow (w0 := w) (hB.trans ((bel_alloc wr o).mono hB.size)) gr (fun k hk => (World.ownsRow.lt hW k hk).1)⟩

set_option maxRecDepth 100000 in
set_option maxHeartbeats 3200000 in
theorem nameWords_any (ns : List ByteArray) (a : Option Addr) (ca lo hi : Nat) (w : World) (hS : SAt w lo hi ns a) (hh : hi ≤ w.heap.size) (hl : ns.length ≤ 1048576) (hz : ∀ s ∈ ns, s.size ≤ 4000) :
    Calls Try.prog 59 #[.slice a ns.length ca] w fun e w' => ∃ v ss, e = .returned v ∧ Ws w' w.heap.size v ss ∧ ss.length ≤ 2 * ns.length + 2 ∧ (∀ s ∈ ss, s.size ≤ 9000) ∧ Below w.heap.size w w' := by
  obtain ⟨i0, hi0, hz0, hz1, hz2⟩ := info_parts info_str
  have W0 := ws_lit1 w w.heap.size ⟨#[40]⟩ (Nat.le_refl _)
  have B0 := bel_alloc w (.cells #[.string ⟨#[40]⟩] 9)
  go_enter Try.func59, Try.ntmps59
  go_wp2_with fail
  go_loopw [3, 4] (fun v x wr => ∃ (ss : List ByteArray) (i : Nat) (b : Option Addr) (c : Nat), v = .slice b ss.length c ∧ x = .int .i64 i ∧ i ≤ ns.length ∧ Ws wr w.heap.size v ss ∧ ss.length ≤ 2 * i + 1 ∧ (∀ s ∈ ss, s.size ≤ 9000) ∧ Below w.heap.size w wr) (fun _ x _ => ns.length - (intOf x).toNat)
  case atStart => exact ⟨[⟨#[40]⟩], 0, _, _, rfl, rfl, Nat.zero_le _, W0, by simp, by intro s hs; simp at hs; subst hs; decide, B0⟩
  case round =>
    obtain ⟨ss, i, b, c, rfl, rfl, hi, hW, hsl, hsz, hB⟩ := hrel
    clear W0 B0
    have hs1 := hB.size
    by_cases hlt : i < ns.length
    · obtain ⟨_, g, o, rfl, _, hg, hc⟩ := hS i hlt
      have hz1' := hz _ (List.getElem_mem hlt)
      have hx := fun (W : World) (h : Below w.heap.size w W) => (h.cell (p := ⟨g, o + i, none⟩) (by show g < _; omega)).trans hc
      clear hS hc hz
      generalize ns[i] = s at *
      by_cases h0 : 0 < i
      · have h0' : ((0 : Int) < (i : Int)) := by omega
        have own1 := World.ownsRow.alloc hW (.cells #[.string ⟨#[44]⟩] 9)
        go_wp2_with (at_builtin; go_must (refine wpList_append_any _ rfl _ _ 24 rfl w.heap.size 9 i0 (.string ByteArray.empty) 1 16 Try.underlying24 hi0 hz0 hz1 hz2 rfl (by decide) _ _ _ rfl own1 (some ⟨wr.heap.size, 0, none⟩) 1 1 ([⟨#[44]⟩].map Value.string) rfl rfl (ws_news (ws_lit1 wr w.heap.size ⟨#[44]⟩ hs1)) (ws_one _) (by unfold maxLen; omega) (by omega) (by rw [size_alloc]; omega) _ rfl ?_))
        intro b1 c1 w1 own2 gr1 _
        obtain ⟨W1, B1⟩ := ws_app1 rfl hW hB own2 gr1
        have hs2 := B1.size
        have x0 := hx w1 B1
        have hl1 : (ss ++ ([⟨#[44]⟩] : List ByteArray)).length = ss.length + 1 := by simp
        have own3 := World.ownsRow.alloc W1 (.cells #[.string s] 9)
        rw [hl1] at own3
        clear own1 own2 gr1 hx
        go_wp2_with (at_builtin; go_must (refine wpList_append_any _ rfl _ _ 24 rfl w.heap.size 9 i0 (.string ByteArray.empty) 1 16 Try.underlying24 hi0 hz0 hz1 hz2 rfl (by decide) _ _ _ rfl own3 (some ⟨w1.heap.size, 0, none⟩) 1 1 ([s].map Value.string) rfl rfl (ws_news (ws_lit1 w1 w.heap.size s hs2)) (ws_one _) (by unfold maxLen; omega) (by omega) (by rw [size_alloc]; omega) _ rfl ?_))
        intro b2 c2 w2 own4 gr2 _
        obtain ⟨W2, B2⟩ := ws_app1 (s := s) (b2 := b2) (c2 := c2) hl1 W1 B1 (by simpa using own4) gr2
        clear own3 own4 gr2 W1 B1 hl1
        go_wp2_with fail
        go_roundw
        case rel => exact ⟨ss ++ [⟨#[44]⟩] ++ [s], i + 1, b2, c2, by simp, by go_num, by omega, W2, by simp; omega, fun t ht => by
          simp only [List.mem_append, List.mem_singleton] at ht
          rcases ht with (ht | rfl) | rfl
          · exact hsz t ht
          · decide
          · omega, B2⟩
        case measure => simp [intOf]; omega
      · have h0' : ¬ ((0 : Int) < (i : Int)) := by omega
        have x0 := hx wr hB
        have own1 := World.ownsRow.alloc hW (.cells #[.string s] 9)
        clear hx
        go_wp2_with (at_builtin; go_must (refine wpList_append_any _ rfl _ _ 24 rfl w.heap.size 9 i0 (.string ByteArray.empty) 1 16 Try.underlying24 hi0 hz0 hz1 hz2 rfl (by decide) _ _ _ rfl own1 (some ⟨wr.heap.size, 0, none⟩) 1 1 ([s].map Value.string) rfl rfl (ws_news (ws_lit1 wr w.heap.size s hs1)) (ws_one _) (by unfold maxLen; omega) (by omega) (by rw [size_alloc]; omega) _ rfl ?_))
        intro b1 c1 w1 own2 gr1 _
        obtain ⟨W1, B1⟩ := ws_app1 rfl hW hB own2 gr1
        clear own1 own2 gr1
        go_wp2_with fail
        go_roundw
        case rel => exact ⟨ss ++ [s], i + 1, b1, c1, by simp, by go_num, by omega, W1, by simp; omega, fun t ht => by
          simp only [List.mem_append, List.mem_singleton] at ht
          rcases ht with ht | rfl
          · exact hsz t ht
          · omega, B1⟩
        case measure => simp [intOf]; omega
    · obtain rfl : i = ns.length := by omega
      clear hS
      have own1 := World.ownsRow.alloc hW (.cells #[.string ⟨#[41]⟩] 9)
      go_wp2_with (at_builtin; go_must (refine wpList_append_any _ rfl _ _ 24 rfl w.heap.size 9 i0 (.string ByteArray.empty) 1 16 Try.underlying24 hi0 hz0 hz1 hz2 rfl (by decide) _ _ _ rfl own1 (some ⟨wr.heap.size, 0, none⟩) 1 1 ([⟨#[41]⟩].map Value.string) rfl rfl (ws_news (ws_lit1 wr w.heap.size ⟨#[41]⟩ hs1)) (ws_one _) (by unfold maxLen; omega) (by omega) (by rw [size_alloc]; omega) _ rfl ?_))
      intro b1 c1 w1 own2 gr1 _
      obtain ⟨W1, B1⟩ := ws_app1 rfl hW hB own2 gr1
      clear own1 own2 gr1
      go_wp2_with fail
      go_ret
      exact ⟨_, _, rfl, W1, by simp; omega, fun t ht => by
        simp only [List.mem_append, List.mem_singleton] at ht
        rcases ht with ht | rfl
        · exact hsz t ht
        · decide, B1⟩
end Go.Proofs.Ytlmmomffanakiaa
