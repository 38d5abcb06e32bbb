/- DrawSetAt. -/
import Derived.Test.YtbdpfmkpjeleaaaCodeHp
import Derived.Test.YtbdpfmkpjeleaaaHeapI
import Derived.Deep.RegionHeld3
namespace Go.Proofs.Ytbdpfmkpjeleaaa
open Go.RowKit

theorem tm_step {W W' : World} {L M : Nat} {ts : List (List Pr)} {vs : List Vl} {a b : Option Addr} (h : TAt W L M ts a ∧ VAt W L M vs b) (hf : ∀ k, L ≤ k → k < M → W'.heap[k]? = W.heap[k]?) : TAt W' L M ts a ∧ VAt W' L M vs b :=
  ⟨h.1.later (Nat.le_refl _) (Nat.le_refl _) fun p h1 h2 => World.cell?_of_block (w := W) (hf p.block h1 h2), h.2.later (Nat.le_refl _) (Nat.le_refl _) fun p h1 h2 => World.cell?_of_block (w := W) (hf p.block h1 h2)⟩
theorem tm_tv {W : World} {L M lo : Nat} {h : Hp} {a b : Option Addr} (hT : TAt W L M h.ts a ∧ VAt W L M h.vs b) (hl : lo ≤ L) (hh : M ≤ W.heap.size) : TV W lo h a b :=
  ⟨hT.1.later hl hh fun _ _ _ => rfl, hT.2.later hl hh fun _ _ _ => rfl⟩
set_option maxRecDepth 100000 in
set_option maxHeartbeats 3200000 in
theorem drawSetAt_any (a : Option Addr) (len cap B : Nat) (w : World) (hcode : IsCode w B a len cap) (hB : B ≤ w.heap.size) :
    Calls Try.prog 19 #[.slice a len cap] w fun e w' => (∃ h pa pc ua uc tk tn ts kk kn ks vk vn vs, e = .returned (.tuple #[.agg #[.slice pa h.ts.length pc, .slice ua h.vs.length uc], .agg #[.int .i64 tk, .int .i64 tn, .string ts], .agg #[.int .i64 kk, .int .i64 kn, .string ks], .agg #[.int .i64 vk, .int .i64 vn, .string vs]]) ∧ HDr h ∧ TV w' w.heap.size h pa ua ∧ VDraw tk tn ts ∧ VDraw kk kn ks ∧ VDraw vk vn vs) ∧ Below w.heap.size w w' := by
  obtain ⟨r0, r1, r2, r3, hs0, hB0⟩ := rows4 w (Obj.cells #[.slice none 0 0, .slice none 0 0] 30) (Obj.cells #[.int .i64 0, .int .i64 0, .string ⟨#[]⟩] 32) (Obj.cells #[.int .i64 0, .int .i64 0, .string ⟨#[]⟩] 32) (Obj.cells #[.int .i64 0, .int .i64 0, .string ⟨#[]⟩] 32)
  obtain ⟨W0, hW0⟩ : ∃ W0, W0 = ((((w.alloc (Obj.cells #[.slice none 0 0, .slice none 0 0] 30)).alloc (Obj.cells #[.int .i64 0, .int .i64 0, .string ⟨#[]⟩] 32)).alloc (Obj.cells #[.int .i64 0, .int .i64 0, .string ⟨#[]⟩] 32)).alloc (Obj.cells #[.int .i64 0, .int .i64 0, .string ⟨#[]⟩] 32)) := ⟨_, rfl⟩
  rw [← hW0] at r0 r1 r2 r3 hs0 hB0
  have hcode0 : IsCode W0 w.heap.size a len cap := code_later (code_up hcode hB) hB0
  go_enter Try.func19, Try.ntmps19
  go_wp2_with fail
  rw [← hW0]
  clear hW0
  refine (new_any w.heap.size a len cap W0 hcode0 (by omega)).mono ?_
  rw [hs0]
  rintro e w1 ⟨rfl, hC1, hb1⟩
  have zz1 := hb1.size
  have q1 : Below w.heap.size w w1 := hB0.trans (hb1.mono (by omega))
  have z1 : w.heap.size + 4 < w1.heap.size := cur_lt hC1
  have r0 := (hb1.block (w.heap.size) (by omega)).trans r0
  have r1 := (hb1.block (w.heap.size + 1) (by omega)).trans r1
  have r2 := (hb1.block (w.heap.size + 1 + 1) (by omega)).trans r2
  have r3 := (hb1.block (w.heap.size + 1 + 1 + 1) (by omega)).trans r3
  clear hb1 zz1 hB0 hs0 hcode0 hcode
  go_wp2_with fail
  refine (heap_draw w.heap.size (w.heap.size + 4) w1 hC1).mono ?_
  rintro e wh ⟨⟨h, sp, cl, ss, rfl, hg, h1, h2, hO⟩, hd⟩
  have zh := hd.by'.size
  obtain ⟨pa, pn, pc⟩ := sp
  obtain ⟨ua, un, uc⟩ := cl
  have hpn := hO.1
  have hun := hO.2.1
  dsimp only at hpn hun
  subst hpn
  subst hun
  have hD := hdr_mk hg h1 h2
  have qh : Below w.heap.size w wh := q1.trans (hd.below q1.size)
  have hCh := hd.cur
  have Th : TAt wh w1.heap.size wh.heap.size h.ts pa ∧ VAt wh w1.heap.size wh.heap.size h.vs ua := tv_lay hO.2.2.lay hD.good.ok (Nat.le_refl _) hD.wt
  have r0 := (hd.by'.block (w.heap.size) (by omega) (by first | (simp; done) | (simp; omega))).trans r0
  have r1 := (hd.by'.block (w.heap.size + 1) (by omega) (by first | (simp; done) | (simp; omega))).trans r1
  have r2 := (hd.by'.block (w.heap.size + 1 + 1) (by omega) (by first | (simp; done) | (simp; omega))).trans r2
  have r3 := (hd.by'.block (w.heap.size + 1 + 1 + 1) (by omega) (by first | (simp; done) | (simp; omega))).trans r3
  clear hO hg h1 h2 hd
  dsimp only [Sl.v]
  obtain ⟨Whb, hWhb⟩ : ∃ W, W = wh.alloc (Obj.cells #[.slice pa h.ts.length pc, .slice ua h.vs.length uc] 30) := ⟨_, rfl⟩
  have hbhb : Below wh.heap.size wh Whb := hWhb ▸ bel_alloc wh _
  have rh : Whb.heap[wh.heap.size]? = some (Obj.cells #[.slice pa h.ts.length pc, .slice ua h.vs.length uc] 30) := by rw [hWhb]; exact heap_alloc_new _ _
  have hChb : Cur Whb w.heap.size (w.heap.size + 4) := by rw [hWhb]; exact cur_alloc hCh _
  have zhb : Whb.heap.size = wh.heap.size + 1 := by rw [hWhb]; exact size_alloc _ _
  have qhb : Below w.heap.size w Whb := qh.trans (hbhb.mono qh.size)
  have Thb := tm_step Th fun k _ hk => hbhb.block k (by omega)
  have r0 := (hbhb.block (w.heap.size) (by omega)).trans r0
  have r1 := (hbhb.block (w.heap.size + 1) (by omega)).trans r1
  have r2 := (hbhb.block (w.heap.size + 1 + 1) (by omega)).trans r2
  have r3 := (hbhb.block (w.heap.size + 1 + 1 + 1) (by omega)).trans r3
  clear hbhb Th hCh qh
  go_wp2_with fail
  rw [← hWhb]
  clear hWhb
  refine (value_any w.heap.size (w.heap.size + 4) Whb hChb).mono ?_
  rintro e wt ⟨tk, tn, ts, rfl, hVt, hdt⟩
  have zt := hdt.by'.size
  have hCt := hdt.cur
  have qt : Below w.heap.size w wt := qhb.trans (hdt.below qhb.size)
  have Tt := tm_step Thb fun k h1 hk => hdt.by'.block k (by omega) (by first | (simp; done) | (simp; omega))
  have r0 := (hdt.by'.block (w.heap.size) (by omega) (by first | (simp; done) | (simp; omega))).trans r0
  have r1 := (hdt.by'.block (w.heap.size + 1) (by omega) (by first | (simp; done) | (simp; omega))).trans r1
  have r2 := (hdt.by'.block (w.heap.size + 1 + 1) (by omega) (by first | (simp; done) | (simp; omega))).trans r2
  have r3 := (hdt.by'.block (w.heap.size + 1 + 1 + 1) (by omega) (by first | (simp; done) | (simp; omega))).trans r3
  have rh := (hdt.by'.block (wh.heap.size) (by omega) (by first | (simp; done) | (simp; omega))).trans rh
  clear hdt Thb hChb qhb
  obtain ⟨Wtb, hWtb⟩ : ∃ W, W = wt.alloc (Obj.cells #[.int .i64 tk, .int .i64 tn, .string ts] 32) := ⟨_, rfl⟩
  have hbtb : Below wt.heap.size wt Wtb := hWtb ▸ bel_alloc wt _
  have rt : Wtb.heap[wt.heap.size]? = some (Obj.cells #[.int .i64 tk, .int .i64 tn, .string ts] 32) := by rw [hWtb]; exact heap_alloc_new _ _
  have hCtb : Cur Wtb w.heap.size (w.heap.size + 4) := by rw [hWtb]; exact cur_alloc hCt _
  have ztb : Wtb.heap.size = wt.heap.size + 1 := by rw [hWtb]; exact size_alloc _ _
  have qtb : Below w.heap.size w Wtb := qt.trans (hbtb.mono qt.size)
  have Ttb := tm_step Tt fun k _ hk => hbtb.block k (by omega)
  have r0 := (hbtb.block (w.heap.size) (by omega)).trans r0
  have r1 := (hbtb.block (w.heap.size + 1) (by omega)).trans r1
  have r2 := (hbtb.block (w.heap.size + 1 + 1) (by omega)).trans r2
  have r3 := (hbtb.block (w.heap.size + 1 + 1 + 1) (by omega)).trans r3
  have rh := (hbtb.block (wh.heap.size) (by omega)).trans rh
  clear hbtb Tt hCt qt
  go_wp2_with fail
  rw [← hWtb]
  clear hWtb
  refine (once_any w.heap.size (w.heap.size + 4) 2 Wtb hCtb (by decide)).mono ?_
  rintro e wo ⟨x, rfl, hdo⟩
  have zo := hdo.by'.size
  have hCo := hdo.cur
  have qo : Below w.heap.size w wo := qtb.trans (hdo.below qtb.size)
  have To := tm_step Ttb fun k h1 hk => hdo.by'.block k (by omega) (by first | (simp; done) | (simp; omega))
  have r0 := (hdo.by'.block (w.heap.size) (by omega) (by first | (simp; done) | (simp; omega))).trans r0
  have r1 := (hdo.by'.block (w.heap.size + 1) (by omega) (by first | (simp; done) | (simp; omega))).trans r1
  have r2 := (hdo.by'.block (w.heap.size + 1 + 1) (by omega) (by first | (simp; done) | (simp; omega))).trans r2
  have r3 := (hdo.by'.block (w.heap.size + 1 + 1 + 1) (by omega) (by first | (simp; done) | (simp; omega))).trans r3
  have rh := (hdo.by'.block (wh.heap.size) (by omega) (by first | (simp; done) | (simp; omega))).trans rh
  have rt := (hdo.by'.block (wt.heap.size) (by omega) (by first | (simp; done) | (simp; omega))).trans rt
  clear hdo Ttb hCtb qtb
  cases x with
  | false =>
    go_wp2_with fail
    refine (value_any w.heap.size (w.heap.size + 4) wo hCo).mono ?_
    rintro e wk ⟨kk, kn, ks, rfl, hVk, hdk⟩
    have zk := hdk.by'.size
    have hCk := hdk.cur
    have qk : Below w.heap.size w wk := qo.trans (hdk.below qo.size)
    have Tk := tm_step To fun k h1 hk => hdk.by'.block k (by omega) (by first | (simp; done) | (simp; omega))
    have r0 := (hdk.by'.block (w.heap.size) (by omega) (by first | (simp; done) | (simp; omega))).trans r0
    have r1 := (hdk.by'.block (w.heap.size + 1) (by omega) (by first | (simp; done) | (simp; omega))).trans r1
    have r2 := (hdk.by'.block (w.heap.size + 1 + 1) (by omega) (by first | (simp; done) | (simp; omega))).trans r2
    have r3 := (hdk.by'.block (w.heap.size + 1 + 1 + 1) (by omega) (by first | (simp; done) | (simp; omega))).trans r3
    have rh := (hdk.by'.block (wh.heap.size) (by omega) (by first | (simp; done) | (simp; omega))).trans rh
    have rt := (hdk.by'.block (wt.heap.size) (by omega) (by first | (simp; done) | (simp; omega))).trans rt
    clear hdk To hCo qo
    obtain ⟨Wkb, hWkb⟩ : ∃ W, W = wk.alloc (Obj.cells #[.int .i64 kk, .int .i64 kn, .string ks] 32) := ⟨_, rfl⟩
    have hbkb : Below wk.heap.size wk Wkb := hWkb ▸ bel_alloc wk _
    have rk : Wkb.heap[wk.heap.size]? = some (Obj.cells #[.int .i64 kk, .int .i64 kn, .string ks] 32) := by rw [hWkb]; exact heap_alloc_new _ _
    have hCkb : Cur Wkb w.heap.size (w.heap.size + 4) := by rw [hWkb]; exact cur_alloc hCk _
    have zkb : Wkb.heap.size = wk.heap.size + 1 := by rw [hWkb]; exact size_alloc _ _
    have qkb : Below w.heap.size w Wkb := qk.trans (hbkb.mono qk.size)
    have Tkb := tm_step Tk fun k _ hk => hbkb.block k (by omega)
    have r0 := (hbkb.block (w.heap.size) (by omega)).trans r0
    have r1 := (hbkb.block (w.heap.size + 1) (by omega)).trans r1
    have r2 := (hbkb.block (w.heap.size + 1 + 1) (by omega)).trans r2
    have r3 := (hbkb.block (w.heap.size + 1 + 1 + 1) (by omega)).trans r3
    have rh := (hbkb.block (wh.heap.size) (by omega)).trans rh
    have rt := (hbkb.block (wt.heap.size) (by omega)).trans rt
    clear hbkb Tk hCk qk
    go_wp2_with fail
    rw [← hWkb]
    clear hWkb
    have xrh0 := cell_of_row _ _ 0 _ _ _ rh
    have xrh1 := cell_of_row _ _ 1 _ _ _ rh
    have xrt0 := cell_of_row _ _ 0 _ _ _ rt
    have xrt1 := cell_of_row _ _ 1 _ _ _ rt
    have xrt2 := cell_of_row _ _ 2 _ _ _ rt
    have xrk0 := cell_of_row _ _ 0 _ _ _ rk
    have xrk1 := cell_of_row _ _ 1 _ _ _ rk
    have xrk2 := cell_of_row _ _ 2 _ _ _ rk
    simp only [List.getElem?_toArray, List.getElem?_cons_zero, List.getElem?_cons_succ] at xrh0 xrh1 xrt0 xrt1 xrt2 xrk0 xrk1 xrk2
    have n00 : ¬ wh.heap.size = w.heap.size := by omega
    have m00 : ¬ w.heap.size = wh.heap.size := by omega
    have n01 : ¬ wt.heap.size = w.heap.size := by omega
    have m01 : ¬ w.heap.size = wt.heap.size := by omega
    have n02 : ¬ wk.heap.size = w.heap.size := by omega
    have m02 : ¬ w.heap.size = wk.heap.size := by omega
    have n10 : ¬ wh.heap.size = w.heap.size + 1 := by omega
    have m10 : ¬ w.heap.size + 1 = wh.heap.size := by omega
    have n11 : ¬ wt.heap.size = w.heap.size + 1 := by omega
    have m11 : ¬ w.heap.size + 1 = wt.heap.size := by omega
    have n12 : ¬ wk.heap.size = w.heap.size + 1 := by omega
    have m12 : ¬ w.heap.size + 1 = wk.heap.size := by omega
    have n20 : ¬ wh.heap.size = w.heap.size + 1 + 1 := by omega
    have m20 : ¬ w.heap.size + 1 + 1 = wh.heap.size := by omega
    have n21 : ¬ wt.heap.size = w.heap.size + 1 + 1 := by omega
    have m21 : ¬ w.heap.size + 1 + 1 = wt.heap.size := by omega
    have n22 : ¬ wk.heap.size = w.heap.size + 1 + 1 := by omega
    have m22 : ¬ w.heap.size + 1 + 1 = wk.heap.size := by omega
    have n30 : ¬ wh.heap.size = w.heap.size + 1 + 1 + 1 := by omega
    have m30 : ¬ w.heap.size + 1 + 1 + 1 = wh.heap.size := by omega
    have n31 : ¬ wt.heap.size = w.heap.size + 1 + 1 + 1 := by omega
    have m31 : ¬ w.heap.size + 1 + 1 + 1 = wt.heap.size := by omega
    have n32 : ¬ wk.heap.size = w.heap.size + 1 + 1 + 1 := by omega
    have m32 : ¬ w.heap.size + 1 + 1 + 1 = wk.heap.size := by omega
    have hCd := cur_drew hCkb
    go_region_held3 (fun w' => w'.cell? ⟨wh.heap.size, 0, none⟩ = some (.slice pa h.ts.length pc) ∧ w'.cell? ⟨wh.heap.size, 1, none⟩ = some (.slice ua h.vs.length uc) ∧ w'.cell? ⟨wt.heap.size, 0, none⟩ = some (.int .i64 tk) ∧ w'.cell? ⟨wt.heap.size, 1, none⟩ = some (.int .i64 tn) ∧ w'.cell? ⟨wt.heap.size, 2, none⟩ = some (.string ts) ∧ w'.cell? ⟨wk.heap.size, 0, none⟩ = some (.int .i64 kk) ∧ w'.cell? ⟨wk.heap.size, 1, none⟩ = some (.int .i64 kn) ∧ w'.cell? ⟨wk.heap.size, 2, none⟩ = some (.string ks)) (go_keep) (first | (go_at_call 46; refine (value_any w.heap.size (w.heap.size + 4) _ hCd).mono ?_; rintro e wl ⟨vk, vn, vs, rfl, hVv, hdl⟩; have zl : Wkb.heap.size ≤ wl.heap.size := hdl.by'.size; have ql : Below w.heap.size w wl := qkb.drew.trans (hdl.below qkb.drew.size); have Tl := tm_step Tkb (W' := wl) fun k h1 hk => hdl.by'.block k (by show k < Wkb.heap.size; omega) (by first | (simp; done) | (simp; omega)); have xrh0 := cell_of_row _ _ 0 _ _ _ ((hdl.by'.block (wh.heap.size) (by show wh.heap.size < Wkb.heap.size; omega) (by first | (simp; done) | (simp; omega))).trans rh); have xrh1 := cell_of_row _ _ 1 _ _ _ ((hdl.by'.block (wh.heap.size) (by show wh.heap.size < Wkb.heap.size; omega) (by first | (simp; done) | (simp; omega))).trans rh); have xrt0 := cell_of_row _ _ 0 _ _ _ ((hdl.by'.block (wt.heap.size) (by show wt.heap.size < Wkb.heap.size; omega) (by first | (simp; done) | (simp; omega))).trans rt); have xrt1 := cell_of_row _ _ 1 _ _ _ ((hdl.by'.block (wt.heap.size) (by show wt.heap.size < Wkb.heap.size; omega) (by first | (simp; done) | (simp; omega))).trans rt); have xrt2 := cell_of_row _ _ 2 _ _ _ ((hdl.by'.block (wt.heap.size) (by show wt.heap.size < Wkb.heap.size; omega) (by first | (simp; done) | (simp; omega))).trans rt); have xrk0 := cell_of_row _ _ 0 _ _ _ ((hdl.by'.block (wk.heap.size) (by show wk.heap.size < Wkb.heap.size; omega) (by first | (simp; done) | (simp; omega))).trans rk); have xrk1 := cell_of_row _ _ 1 _ _ _ ((hdl.by'.block (wk.heap.size) (by show wk.heap.size < Wkb.heap.size; omega) (by first | (simp; done) | (simp; omega))).trans rk); have xrk2 := cell_of_row _ _ 2 _ _ _ ((hdl.by'.block (wk.heap.size) (by show wk.heap.size < Wkb.heap.size; omega) (by first | (simp; done) | (simp; omega))).trans rk); simp only [List.getElem?_toArray, List.getElem?_cons_zero, List.getElem?_cons_succ] at xrh0 xrh1 xrt0 xrt1 xrt2 xrk0 xrk1 xrk2; have y0 := (hdl.by'.block (w.heap.size) (by show w.heap.size < Wkb.heap.size; omega) (by first | (simp; done) | (simp; omega))).trans r0; have fy00 := frozen_of_row _ _ 0 _ _ y0; have cy00 := cell_of_row _ _ 0 _ _ _ y0; have fy01 := frozen_of_row _ _ 1 _ _ y0; have cy01 := cell_of_row _ _ 1 _ _ _ y0; have y1 := (hdl.by'.block (w.heap.size + 1) (by show w.heap.size + 1 < Wkb.heap.size; omega) (by first | (simp; done) | (simp; omega))).trans r1; have fy10 := frozen_of_row _ _ 0 _ _ y1; have cy10 := cell_of_row _ _ 0 _ _ _ y1; have fy11 := frozen_of_row _ _ 1 _ _ y1; have cy11 := cell_of_row _ _ 1 _ _ _ y1; have fy12 := frozen_of_row _ _ 2 _ _ y1; have cy12 := cell_of_row _ _ 2 _ _ _ y1; have y2 := (hdl.by'.block (w.heap.size + 1 + 1) (by show w.heap.size + 1 + 1 < Wkb.heap.size; omega) (by first | (simp; done) | (simp; omega))).trans r2; have fy20 := frozen_of_row _ _ 0 _ _ y2; have cy20 := cell_of_row _ _ 0 _ _ _ y2; have fy21 := frozen_of_row _ _ 1 _ _ y2; have cy21 := cell_of_row _ _ 1 _ _ _ y2; have fy22 := frozen_of_row _ _ 2 _ _ y2; have cy22 := cell_of_row _ _ 2 _ _ _ y2; have y3 := (hdl.by'.block (w.heap.size + 1 + 1 + 1) (by show w.heap.size + 1 + 1 + 1 < Wkb.heap.size; omega) (by first | (simp; done) | (simp; omega))).trans r3; have fy30 := frozen_of_row _ _ 0 _ _ y3; have cy30 := cell_of_row _ _ 0 _ _ _ y3; have fy31 := frozen_of_row _ _ 1 _ _ y3; have cy31 := cell_of_row _ _ 1 _ _ _ y3; have fy32 := frozen_of_row _ _ 2 _ _ y3; have cy32 := cell_of_row _ _ 2 _ _ _ y3; simp only [List.getElem?_toArray, List.getElem?_cons_zero, List.getElem?_cons_succ] at cy00 cy01 cy10 cy11 cy12 cy20 cy21 cy22 cy30 cy31 cy32))
    all_goals
      go_wp2_with fail
      refine bodyPost_ret (v := .tuple #[.agg #[.slice pa h.ts.length pc, .slice ua h.vs.length uc], .agg #[.int .i64 tk, .int .i64 tn, .string ts], .agg #[.int .i64 kk, .int .i64 kn, .string ks], .agg #[.int .i64 vk, .int .i64 vn, .string vs]]) (by simp [results, Try.results19, go_sem, *]) rfl ⟨⟨h, pa, pc, ua, uc, tk, tn, ts, kk, kn, ks, vk, vn, vs, rfl, hD, tm_tv (tm_step Tl fun k h1 hk => ?_) (by omega) (by first | (simp; done) | (simp; omega)), hVt, hVk, hVv⟩, ?_⟩
      · repeat (first | (with_reducible refine (drew_at _ _).trans ?_) | (with_reducible refine (heap_setCell_other _ _ _ _ (by dsimp only; omega)).trans ?_))
        with_reducible rfl
      · repeat (first | (with_reducible exact ql) | (with_reducible refine Below.drew ?_) | (with_reducible refine Below.setCell ?_ (by dsimp only; omega) _))
  | true =>
    have f0 := frozen_of_row _ _ 0 _ _ rt
    have e0 := cell_of_row _ _ 0 _ _ _ rt
    have f1 := frozen_of_row _ _ 1 _ _ rt
    have e1 := cell_of_row _ _ 1 _ _ _ rt
    have f2 := frozen_of_row _ _ 2 _ _ rt
    have e2 := cell_of_row _ _ 2 _ _ _ rt
    simp only [List.getElem?_toArray, List.getElem?_cons_zero, List.getElem?_cons_succ] at e0 e1 e2
    go_wp2_with fail
    obtain ⟨Ws, hWs⟩ : ∃ W, W = (((wo.setCell ⟨wt.heap.size, 0, none⟩ (.int .i64 4)).setCell ⟨wt.heap.size, 1, none⟩ (.int .i64 0)).setCell ⟨wt.heap.size, 2, none⟩ (.string ⟨#[]⟩)) := ⟨_, rfl⟩
    have fs : ∀ k, k ≠ wt.heap.size → Ws.heap[k]? = wo.heap[k]? := fun k hk => by rw [hWs, heap_setCell_other _ _ _ _ (by exact hk), heap_setCell_other _ _ _ _ (by exact hk), heap_setCell_other _ _ _ _ (by exact hk)]
    have r0 := (fs (w.heap.size) (by omega)).trans r0
    have r1 := (fs (w.heap.size + 1) (by omega)).trans r1
    have r2 := (fs (w.heap.size + 1 + 1) (by omega)).trans r2
    have r3 := (fs (w.heap.size + 1 + 1 + 1) (by omega)).trans r3
    have rh := (fs (wh.heap.size) (by omega)).trans rh
    have rt : Ws.heap[wt.heap.size]? = some (Obj.cells #[.int .i64 4, .int .i64 0, .string ⟨#[]⟩] 32) := by rw [hWs, heap_setCell_same _ _ _ _ _ _ (heap_setCell_same _ _ _ _ _ _ (heap_setCell_same _ _ _ _ _ _ rt))]; rfl
    have hCs : Cur Ws w.heap.size (w.heap.size + 4) := by rw [hWs]; exact cur_put' (cur_put' (cur_put' hCo (by omega) (by omega)) (by omega) (by omega)) (by omega) (by omega)
    have qs : Below w.heap.size w Ws := by rw [hWs]; exact ((qo.setCell (by show w.heap.size ≤ wt.heap.size; omega) _).setCell (by show w.heap.size ≤ wt.heap.size; omega) _).setCell (by show w.heap.size ≤ wt.heap.size; omega) _
    have Ts := tm_step To fun k h1 hk => fs k (by omega)
    have zs : Ws.heap.size = wo.heap.size := by rw [hWs]; simp
    rw [← hWs]
    clear hWs fs f0 f1 f2 e0 e1 e2 To qo hCo hVt
    have hVt : VDraw 4 0 ⟨#[]⟩ := VDraw.num (by decide) (by decide) (by decide) (by decide)
    refine (value_any w.heap.size (w.heap.size + 4) Ws hCs).mono ?_
    rintro e wk ⟨kk, kn, ks, rfl, hVk, hdk⟩
    have zk := hdk.by'.size
    have hCk := hdk.cur
    have qk : Below w.heap.size w wk := qs.trans (hdk.below qs.size)
    have Tk := tm_step Ts fun k h1 hk => hdk.by'.block k (by omega) (by first | (simp; done) | (simp; omega))
    have r0 := (hdk.by'.block (w.heap.size) (by omega) (by first | (simp; done) | (simp; omega))).trans r0
    have r1 := (hdk.by'.block (w.heap.size + 1) (by omega) (by first | (simp; done) | (simp; omega))).trans r1
    have r2 := (hdk.by'.block (w.heap.size + 1 + 1) (by omega) (by first | (simp; done) | (simp; omega))).trans r2
    have r3 := (hdk.by'.block (w.heap.size + 1 + 1 + 1) (by omega) (by first | (simp; done) | (simp; omega))).trans r3
    have rh := (hdk.by'.block (wh.heap.size) (by omega) (by first | (simp; done) | (simp; omega))).trans rh
    have rt := (hdk.by'.block (wt.heap.size) (by omega) (by first | (simp; done) | (simp; omega))).trans rt
    clear hdk Ts hCs qs
    obtain ⟨Wkb, hWkb⟩ : ∃ W, W = wk.alloc (Obj.cells #[.int .i64 kk, .int .i64 kn, .string ks] 32) := ⟨_, rfl⟩
    have hbkb : Below wk.heap.size wk Wkb := hWkb ▸ bel_alloc wk _
    have rk : Wkb.heap[wk.heap.size]? = some (Obj.cells #[.int .i64 kk, .int .i64 kn, .string ks] 32) := by rw [hWkb]; exact heap_alloc_new _ _
    have hCkb : Cur Wkb w.heap.size (w.heap.size + 4) := by rw [hWkb]; exact cur_alloc hCk _
    have zkb : Wkb.heap.size = wk.heap.size + 1 := by rw [hWkb]; exact size_alloc _ _
    have qkb : Below w.heap.size w Wkb := qk.trans (hbkb.mono qk.size)
    have Tkb := tm_step Tk fun k _ hk => hbkb.block k (by omega)
    have r0 := (hbkb.block (w.heap.size) (by omega)).trans r0
    have r1 := (hbkb.block (w.heap.size + 1) (by omega)).trans r1
    have r2 := (hbkb.block (w.heap.size + 1 + 1) (by omega)).trans r2
    have r3 := (hbkb.block (w.heap.size + 1 + 1 + 1) (by omega)).trans r3
    have rh := (hbkb.block (wh.heap.size) (by omega)).trans rh
    have rt := (hbkb.block (wt.heap.size) (by omega)).trans rt
    clear hbkb Tk hCk qk
    go_wp2_with fail
    rw [← hWkb]
    clear hWkb
    have xrh0 := cell_of_row _ _ 0 _ _ _ rh
    have xrh1 := cell_of_row _ _ 1 _ _ _ rh
    have xrt0 := cell_of_row _ _ 0 _ _ _ rt
    have xrt1 := cell_of_row _ _ 1 _ _ _ rt
    have xrt2 := cell_of_row _ _ 2 _ _ _ rt
    have xrk0 := cell_of_row _ _ 0 _ _ _ rk
    have xrk1 := cell_of_row _ _ 1 _ _ _ rk
    have xrk2 := cell_of_row _ _ 2 _ _ _ rk
    simp only [List.getElem?_toArray, List.getElem?_cons_zero, List.getElem?_cons_succ] at xrh0 xrh1 xrt0 xrt1 xrt2 xrk0 xrk1 xrk2
    have n00 : ¬ wh.heap.size = w.heap.size := by omega
    have m00 : ¬ w.heap.size = wh.heap.size := by omega
    have n01 : ¬ wt.heap.size = w.heap.size := by omega
    have m01 : ¬ w.heap.size = wt.heap.size := by omega
    have n02 : ¬ wk.heap.size = w.heap.size := by omega
    have m02 : ¬ w.heap.size = wk.heap.size := by omega
    have n10 : ¬ wh.heap.size = w.heap.size + 1 := by omega
    have m10 : ¬ w.heap.size + 1 = wh.heap.size := by omega
    have n11 : ¬ wt.heap.size = w.heap.size + 1 := by omega
    have m11 : ¬ w.heap.size + 1 = wt.heap.size := by omega
    have n12 : ¬ wk.heap.size = w.heap.size + 1 := by omega
    have m12 : ¬ w.heap.size + 1 = wk.heap.size := by omega
    have n20 : ¬ wh.heap.size = w.heap.size + 1 + 1 := by omega
    have m20 : ¬ w.heap.size + 1 + 1 = wh.heap.size := by omega
    have n21 : ¬ wt.heap.size = w.heap.size + 1 + 1 := by omega
    have m21 : ¬ w.heap.size + 1 + 1 = wt.heap.size := by omega
    have n22 : ¬ wk.heap.size = w.heap.size + 1 + 1 := by omega
    have m22 : ¬ w.heap.size + 1 + 1 = wk.heap.size := by omega
    have n30 : ¬ wh.heap.size = w.heap.size + 1 + 1 + 1 := by omega
    have m30 : ¬ w.heap.size + 1 + 1 + 1 = wh.heap.size := by omega
    have n31 : ¬ wt.heap.size = w.heap.size + 1 + 1 + 1 := by omega
    have m31 : ¬ w.heap.size + 1 + 1 + 1 = wt.heap.size := by omega
    have n32 : ¬ wk.heap.size = w.heap.size + 1 + 1 + 1 := by omega
    have m32 : ¬ w.heap.size + 1 + 1 + 1 = wk.heap.size := by omega
    have hCd := cur_drew hCkb
    go_region_held3 (fun w' => w'.cell? ⟨wh.heap.size, 0, none⟩ = some (.slice pa h.ts.length pc) ∧ w'.cell? ⟨wh.heap.size, 1, none⟩ = some (.slice ua h.vs.length uc) ∧ w'.cell? ⟨wt.heap.size, 0, none⟩ = some (.int .i64 4) ∧ w'.cell? ⟨wt.heap.size, 1, none⟩ = some (.int .i64 0) ∧ w'.cell? ⟨wt.heap.size, 2, none⟩ = some (.string ⟨#[]⟩) ∧ w'.cell? ⟨wk.heap.size, 0, none⟩ = some (.int .i64 kk) ∧ w'.cell? ⟨wk.heap.size, 1, none⟩ = some (.int .i64 kn) ∧ w'.cell? ⟨wk.heap.size, 2, none⟩ = some (.string ks)) (go_keep) (first | (go_at_call 46; refine (value_any w.heap.size (w.heap.size + 4) _ hCd).mono ?_; rintro e wl ⟨vk, vn, vs, rfl, hVv, hdl⟩; have zl : Wkb.heap.size ≤ wl.heap.size := hdl.by'.size; have ql : Below w.heap.size w wl := qkb.drew.trans (hdl.below qkb.drew.size); have Tl := tm_step Tkb (W' := wl) fun k h1 hk => hdl.by'.block k (by show k < Wkb.heap.size; omega) (by first | (simp; done) | (simp; omega)); have xrh0 := cell_of_row _ _ 0 _ _ _ ((hdl.by'.block (wh.heap.size) (by show wh.heap.size < Wkb.heap.size; omega) (by first | (simp; done) | (simp; omega))).trans rh); have xrh1 := cell_of_row _ _ 1 _ _ _ ((hdl.by'.block (wh.heap.size) (by show wh.heap.size < Wkb.heap.size; omega) (by first | (simp; done) | (simp; omega))).trans rh); have xrt0 := cell_of_row _ _ 0 _ _ _ ((hdl.by'.block (wt.heap.size) (by show wt.heap.size < Wkb.heap.size; omega) (by first | (simp; done) | (simp; omega))).trans rt); have xrt1 := cell_of_row _ _ 1 _ _ _ ((hdl.by'.block (wt.heap.size) (by show wt.heap.size < Wkb.heap.size; omega) (by first | (simp; done) | (simp; omega))).trans rt); have xrt2 := cell_of_row _ _ 2 _ _ _ ((hdl.by'.block (wt.heap.size) (by show wt.heap.size < Wkb.heap.size; omega) (by first | (simp; done) | (simp; omega))).trans rt); have xrk0 := cell_of_row _ _ 0 _ _ _ ((hdl.by'.block (wk.heap.size) (by show wk.heap.size < Wkb.heap.size; omega) (by first | (simp; done) | (simp; omega))).trans rk); have xrk1 := cell_of_row _ _ 1 _ _ _ ((hdl.by'.block (wk.heap.size) (by show wk.heap.size < Wkb.heap.size; omega) (by first | (simp; done) | (simp; omega))).trans rk); have xrk2 := cell_of_row _ _ 2 _ _ _ ((hdl.by'.block (wk.heap.size) (by show wk.heap.size < Wkb.heap.size; omega) (by first | (simp; done) | (simp; omega))).trans rk); simp only [List.getElem?_toArray, List.getElem?_cons_zero, List.getElem?_cons_succ] at xrh0 xrh1 xrt0 xrt1 xrt2 xrk0 xrk1 xrk2; have y0 := (hdl.by'.block (w.heap.size) (by show w.heap.size < Wkb.heap.size; omega) (by first | (simp; done) | (simp; omega))).trans r0; have fy00 := frozen_of_row _ _ 0 _ _ y0; have cy00 := cell_of_row _ _ 0 _ _ _ y0; have fy01 := frozen_of_row _ _ 1 _ _ y0; have cy01 := cell_of_row _ _ 1 _ _ _ y0; have y1 := (hdl.by'.block (w.heap.size + 1) (by show w.heap.size + 1 < Wkb.heap.size; omega) (by first | (simp; done) | (simp; omega))).trans r1; have fy10 := frozen_of_row _ _ 0 _ _ y1; have cy10 := cell_of_row _ _ 0 _ _ _ y1; have fy11 := frozen_of_row _ _ 1 _ _ y1; have cy11 := cell_of_row _ _ 1 _ _ _ y1; have fy12 := frozen_of_row _ _ 2 _ _ y1; have cy12 := cell_of_row _ _ 2 _ _ _ y1; have y2 := (hdl.by'.block (w.heap.size + 1 + 1) (by show w.heap.size + 1 + 1 < Wkb.heap.size; omega) (by first | (simp; done) | (simp; omega))).trans r2; have fy20 := frozen_of_row _ _ 0 _ _ y2; have cy20 := cell_of_row _ _ 0 _ _ _ y2; have fy21 := frozen_of_row _ _ 1 _ _ y2; have cy21 := cell_of_row _ _ 1 _ _ _ y2; have fy22 := frozen_of_row _ _ 2 _ _ y2; have cy22 := cell_of_row _ _ 2 _ _ _ y2; have y3 := (hdl.by'.block (w.heap.size + 1 + 1 + 1) (by show w.heap.size + 1 + 1 + 1 < Wkb.heap.size; omega) (by first | (simp; done) | (simp; omega))).trans r3; have fy30 := frozen_of_row _ _ 0 _ _ y3; have cy30 := cell_of_row _ _ 0 _ _ _ y3; have fy31 := frozen_of_row _ _ 1 _ _ y3; have cy31 := cell_of_row _ _ 1 _ _ _ y3; have fy32 := frozen_of_row _ _ 2 _ _ y3; have cy32 := cell_of_row _ _ 2 _ _ _ y3; simp only [List.getElem?_toArray, List.getElem?_cons_zero, List.getElem?_cons_succ] at cy00 cy01 cy10 cy11 cy12 cy20 cy21 cy22 cy30 cy31 cy32))
    all_goals
      go_wp2_with fail
      refine bodyPost_ret (v := .tuple #[.agg #[.slice pa h.ts.length pc, .slice ua h.vs.length uc], .agg #[.int .i64 4, .int .i64 0, .string ⟨#[]⟩], .agg #[.int .i64 kk, .int .i64 kn, .string ks], .agg #[.int .i64 vk, .int .i64 vn, .string vs]]) (by simp [results, Try.results19, go_sem, *]) rfl ⟨⟨h, pa, pc, ua, uc, 4, 0, ⟨#[]⟩, kk, kn, ks, vk, vn, vs, rfl, hD, tm_tv (tm_step Tl fun k h1 hk => ?_) (by omega) (by first | (simp; done) | (simp; omega)), hVt, hVk, hVv⟩, ?_⟩
      · repeat (first | (with_reducible refine (drew_at _ _).trans ?_) | (with_reducible refine (heap_setCell_other _ _ _ _ (by dsimp only; omega)).trans ?_))
        with_reducible rfl
      · repeat (first | (with_reducible exact ql) | (with_reducible refine Below.drew ?_) | (with_reducible refine Below.setCell ?_ (by dsimp only; omega) _))
end Go.Proofs.Ytbdpfmkpjeleaaa
namespace Go.Proofs.Ytbdpfmkpjeleaaa
open Go.RowKit

set_option maxRecDepth 100000 in
set_option maxHeartbeats 3200000 in
theorem drawGetAt_any (a : Option Addr) (len cap B : Nat) (w : World) (hcode : IsCode w B a len cap) (hB : B ≤ w.heap.size) :
    Calls Try.prog 22 #[.slice a len cap] w fun e w' => (∃ h pa pc ua uc tk tn ts kk kn ks, e = .returned (.tuple #[.agg #[.slice pa h.ts.length pc, .slice ua h.vs.length uc], .agg #[.int .i64 tk, .int .i64 tn, .string ts], .agg #[.int .i64 kk, .int .i64 kn, .string ks]]) ∧ HDr h ∧ TV w' w.heap.size h pa ua ∧ VDraw tk tn ts ∧ VDraw kk kn ks) ∧ Below w.heap.size w w' := by
  obtain ⟨r0, r1, r2, hs0, hB0⟩ := rows3 w (Obj.cells #[.slice none 0 0, .slice none 0 0] 30) (Obj.cells #[.int .i64 0, .int .i64 0, .string ⟨#[]⟩] 32) (Obj.cells #[.int .i64 0, .int .i64 0, .string ⟨#[]⟩] 32)
  obtain ⟨W0, hW0⟩ : ∃ W0, W0 = (((w.alloc (Obj.cells #[.slice none 0 0, .slice none 0 0] 30)).alloc (Obj.cells #[.int .i64 0, .int .i64 0, .string ⟨#[]⟩] 32)).alloc (Obj.cells #[.int .i64 0, .int .i64 0, .string ⟨#[]⟩] 32)) := ⟨_, rfl⟩
  rw [← hW0] at r0 r1 r2 hs0 hB0
  have hcode0 : IsCode W0 w.heap.size a len cap := code_later (code_up hcode hB) hB0
  go_enter Try.func22, Try.ntmps22
  go_wp2_with fail
  rw [← hW0]
  clear hW0
  refine (new_any w.heap.size a len cap W0 hcode0 (by omega)).mono ?_
  rw [hs0]
  rintro e w1 ⟨rfl, hC1, hb1⟩
  have zz1 := hb1.size
  have q1 : Below w.heap.size w w1 := hB0.trans (hb1.mono (by omega))
  have z1 : w.heap.size + 3 < w1.heap.size := cur_lt hC1
  have r0 := (hb1.block (w.heap.size) (by omega)).trans r0
  have r1 := (hb1.block (w.heap.size + 1) (by omega)).trans r1
  have r2 := (hb1.block (w.heap.size + 1 + 1) (by omega)).trans r2
  clear hb1 zz1 hB0 hs0 hcode0 hcode
  go_wp2_with fail
  refine (heap_draw w.heap.size (w.heap.size + 3) w1 hC1).mono ?_
  rintro e wh ⟨⟨h, sp, cl, ss, rfl, hg, h1, h2, hO⟩, hd⟩
  have zh := hd.by'.size
  obtain ⟨pa, pn, pc⟩ := sp
  obtain ⟨ua, un, uc⟩ := cl
  have hpn := hO.1
  have hun := hO.2.1
  dsimp only at hpn hun
  subst hpn
  subst hun
  have hD := hdr_mk hg h1 h2
  have qh : Below w.heap.size w wh := q1.trans (hd.below q1.size)
  have hCh := hd.cur
  have Th : TAt wh w1.heap.size wh.heap.size h.ts pa ∧ VAt wh w1.heap.size wh.heap.size h.vs ua := tv_lay hO.2.2.lay hD.good.ok (Nat.le_refl _) hD.wt
  have r0 := (hd.by'.block (w.heap.size) (by omega) (by first | (simp; done) | (simp; omega))).trans r0
  have r1 := (hd.by'.block (w.heap.size + 1) (by omega) (by first | (simp; done) | (simp; omega))).trans r1
  have r2 := (hd.by'.block (w.heap.size + 1 + 1) (by omega) (by first | (simp; done) | (simp; omega))).trans r2
  clear hO hg h1 h2 hd
  dsimp only [Sl.v]
  obtain ⟨Whb, hWhb⟩ : ∃ W, W = wh.alloc (Obj.cells #[.slice pa h.ts.length pc, .slice ua h.vs.length uc] 30) := ⟨_, rfl⟩
  have hbhb : Below wh.heap.size wh Whb := hWhb ▸ bel_alloc wh _
  have rh : Whb.heap[wh.heap.size]? = some (Obj.cells #[.slice pa h.ts.length pc, .slice ua h.vs.length uc] 30) := by rw [hWhb]; exact heap_alloc_new _ _
  have hChb : Cur Whb w.heap.size (w.heap.size + 3) := by rw [hWhb]; exact cur_alloc hCh _
  have zhb : Whb.heap.size = wh.heap.size + 1 := by rw [hWhb]; exact size_alloc _ _
  have qhb : Below w.heap.size w Whb := qh.trans (hbhb.mono qh.size)
  have Thb := tm_step Th fun k _ hk => hbhb.block k (by omega)
  have r0 := (hbhb.block (w.heap.size) (by omega)).trans r0
  have r1 := (hbhb.block (w.heap.size + 1) (by omega)).trans r1
  have r2 := (hbhb.block (w.heap.size + 1 + 1) (by omega)).trans r2
  clear hbhb Th hCh qh
  go_wp2_with fail
  rw [← hWhb]
  clear hWhb
  refine (value_any w.heap.size (w.heap.size + 3) Whb hChb).mono ?_
  rintro e wt ⟨tk, tn, ts, rfl, hVt, hdt⟩
  have zt := hdt.by'.size
  have hCt := hdt.cur
  have qt : Below w.heap.size w wt := qhb.trans (hdt.below qhb.size)
  have Tt := tm_step Thb fun k h1 hk => hdt.by'.block k (by omega) (by first | (simp; done) | (simp; omega))
  have r0 := (hdt.by'.block (w.heap.size) (by omega) (by first | (simp; done) | (simp; omega))).trans r0
  have r1 := (hdt.by'.block (w.heap.size + 1) (by omega) (by first | (simp; done) | (simp; omega))).trans r1
  have r2 := (hdt.by'.block (w.heap.size + 1 + 1) (by omega) (by first | (simp; done) | (simp; omega))).trans r2
  have rh := (hdt.by'.block (wh.heap.size) (by omega) (by first | (simp; done) | (simp; omega))).trans rh
  clear hdt Thb hChb qhb
  obtain ⟨Wtb, hWtb⟩ : ∃ W, W = wt.alloc (Obj.cells #[.int .i64 tk, .int .i64 tn, .string ts] 32) := ⟨_, rfl⟩
  have hbtb : Below wt.heap.size wt Wtb := hWtb ▸ bel_alloc wt _
  have rt : Wtb.heap[wt.heap.size]? = some (Obj.cells #[.int .i64 tk, .int .i64 tn, .string ts] 32) := by rw [hWtb]; exact heap_alloc_new _ _
  have hCtb : Cur Wtb w.heap.size (w.heap.size + 3) := by rw [hWtb]; exact cur_alloc hCt _
  have ztb : Wtb.heap.size = wt.heap.size + 1 := by rw [hWtb]; exact size_alloc _ _
  have qtb : Below w.heap.size w Wtb := qt.trans (hbtb.mono qt.size)
  have Ttb := tm_step Tt fun k _ hk => hbtb.block k (by omega)
  have r0 := (hbtb.block (w.heap.size) (by omega)).trans r0
  have r1 := (hbtb.block (w.heap.size + 1) (by omega)).trans r1
  have r2 := (hbtb.block (w.heap.size + 1 + 1) (by omega)).trans r2
  have rh := (hbtb.block (wh.heap.size) (by omega)).trans rh
  clear hbtb Tt hCt qt
  go_wp2_with fail
  rw [← hWtb]
  clear hWtb
  refine (once_any w.heap.size (w.heap.size + 3) 2 Wtb hCtb (by decide)).mono ?_
  rintro e wo ⟨x, rfl, hdo⟩
  have zo := hdo.by'.size
  have hCo := hdo.cur
  have qo : Below w.heap.size w wo := qtb.trans (hdo.below qtb.size)
  have To := tm_step Ttb fun k h1 hk => hdo.by'.block k (by omega) (by first | (simp; done) | (simp; omega))
  have r0 := (hdo.by'.block (w.heap.size) (by omega) (by first | (simp; done) | (simp; omega))).trans r0
  have r1 := (hdo.by'.block (w.heap.size + 1) (by omega) (by first | (simp; done) | (simp; omega))).trans r1
  have r2 := (hdo.by'.block (w.heap.size + 1 + 1) (by omega) (by first | (simp; done) | (simp; omega))).trans r2
  have rh := (hdo.by'.block (wh.heap.size) (by omega) (by first | (simp; done) | (simp; omega))).trans rh
  have rt := (hdo.by'.block (wt.heap.size) (by omega) (by first | (simp; done) | (simp; omega))).trans rt
  clear hdo Ttb hCtb qtb
  cases x with
  | false =>
    go_wp2_with fail
    have xrh0 := cell_of_row _ _ 0 _ _ _ rh
    have xrh1 := cell_of_row _ _ 1 _ _ _ rh
    have xrt0 := cell_of_row _ _ 0 _ _ _ rt
    have xrt1 := cell_of_row _ _ 1 _ _ _ rt
    have xrt2 := cell_of_row _ _ 2 _ _ _ rt
    simp only [List.getElem?_toArray, List.getElem?_cons_zero, List.getElem?_cons_succ] at xrh0 xrh1 xrt0 xrt1 xrt2
    have n00 : ¬ wh.heap.size = w.heap.size := by omega
    have m00 : ¬ w.heap.size = wh.heap.size := by omega
    have n01 : ¬ wt.heap.size = w.heap.size := by omega
    have m01 : ¬ w.heap.size = wt.heap.size := by omega
    have n10 : ¬ wh.heap.size = w.heap.size + 1 := by omega
    have m10 : ¬ w.heap.size + 1 = wh.heap.size := by omega
    have n11 : ¬ wt.heap.size = w.heap.size + 1 := by omega
    have m11 : ¬ w.heap.size + 1 = wt.heap.size := by omega
    have n20 : ¬ wh.heap.size = w.heap.size + 1 + 1 := by omega
    have m20 : ¬ w.heap.size + 1 + 1 = wh.heap.size := by omega
    have n21 : ¬ wt.heap.size = w.heap.size + 1 + 1 := by omega
    have m21 : ¬ w.heap.size + 1 + 1 = wt.heap.size := by omega
    have hCd := cur_drew hCo
    go_region_held3 (fun w' => w'.cell? ⟨wh.heap.size, 0, none⟩ = some (.slice pa h.ts.length pc) ∧ w'.cell? ⟨wh.heap.size, 1, none⟩ = some (.slice ua h.vs.length uc) ∧ w'.cell? ⟨wt.heap.size, 0, none⟩ = some (.int .i64 tk) ∧ w'.cell? ⟨wt.heap.size, 1, none⟩ = some (.int .i64 tn) ∧ w'.cell? ⟨wt.heap.size, 2, none⟩ = some (.string ts)) (go_keep) (first | (go_at_call 46; refine (value_any w.heap.size (w.heap.size + 3) _ hCd).mono ?_; rintro e wl ⟨kk, kn, ks, rfl, hVk, hdl⟩; have zl : wo.heap.size ≤ wl.heap.size := hdl.by'.size; have ql : Below w.heap.size w wl := qo.drew.trans (hdl.below qo.drew.size); have Tl := tm_step To (W' := wl) fun k h1 hk => hdl.by'.block k (by show k < wo.heap.size; omega) (by first | (simp; done) | (simp; omega)); have xrh0 := cell_of_row _ _ 0 _ _ _ ((hdl.by'.block (wh.heap.size) (by show wh.heap.size < wo.heap.size; omega) (by first | (simp; done) | (simp; omega))).trans rh); have xrh1 := cell_of_row _ _ 1 _ _ _ ((hdl.by'.block (wh.heap.size) (by show wh.heap.size < wo.heap.size; omega) (by first | (simp; done) | (simp; omega))).trans rh); have xrt0 := cell_of_row _ _ 0 _ _ _ ((hdl.by'.block (wt.heap.size) (by show wt.heap.size < wo.heap.size; omega) (by first | (simp; done) | (simp; omega))).trans rt); have xrt1 := cell_of_row _ _ 1 _ _ _ ((hdl.by'.block (wt.heap.size) (by show wt.heap.size < wo.heap.size; omega) (by first | (simp; done) | (simp; omega))).trans rt); have xrt2 := cell_of_row _ _ 2 _ _ _ ((hdl.by'.block (wt.heap.size) (by show wt.heap.size < wo.heap.size; omega) (by first | (simp; done) | (simp; omega))).trans rt); simp only [List.getElem?_toArray, List.getElem?_cons_zero, List.getElem?_cons_succ] at xrh0 xrh1 xrt0 xrt1 xrt2; have y0 := (hdl.by'.block (w.heap.size) (by show w.heap.size < wo.heap.size; omega) (by first | (simp; done) | (simp; omega))).trans r0; have fy00 := frozen_of_row _ _ 0 _ _ y0; have cy00 := cell_of_row _ _ 0 _ _ _ y0; have fy01 := frozen_of_row _ _ 1 _ _ y0; have cy01 := cell_of_row _ _ 1 _ _ _ y0; have y1 := (hdl.by'.block (w.heap.size + 1) (by show w.heap.size + 1 < wo.heap.size; omega) (by first | (simp; done) | (simp; omega))).trans r1; have fy10 := frozen_of_row _ _ 0 _ _ y1; have cy10 := cell_of_row _ _ 0 _ _ _ y1; have fy11 := frozen_of_row _ _ 1 _ _ y1; have cy11 := cell_of_row _ _ 1 _ _ _ y1; have fy12 := frozen_of_row _ _ 2 _ _ y1; have cy12 := cell_of_row _ _ 2 _ _ _ y1; have y2 := (hdl.by'.block (w.heap.size + 1 + 1) (by show w.heap.size + 1 + 1 < wo.heap.size; omega) (by first | (simp; done) | (simp; omega))).trans r2; have fy20 := frozen_of_row _ _ 0 _ _ y2; have cy20 := cell_of_row _ _ 0 _ _ _ y2; have fy21 := frozen_of_row _ _ 1 _ _ y2; have cy21 := cell_of_row _ _ 1 _ _ _ y2; have fy22 := frozen_of_row _ _ 2 _ _ y2; have cy22 := cell_of_row _ _ 2 _ _ _ y2; simp only [List.getElem?_toArray, List.getElem?_cons_zero, List.getElem?_cons_succ] at cy00 cy01 cy10 cy11 cy12 cy20 cy21 cy22))
    all_goals
      go_wp2_with fail
      refine bodyPost_ret (v := .tuple #[.agg #[.slice pa h.ts.length pc, .slice ua h.vs.length uc], .agg #[.int .i64 tk, .int .i64 tn, .string ts], .agg #[.int .i64 kk, .int .i64 kn, .string ks]]) (by simp [results, Try.results22, go_sem, *]) rfl ⟨⟨h, pa, pc, ua, uc, tk, tn, ts, kk, kn, ks, rfl, hD, tm_tv (tm_step Tl fun k h1 hk => ?_) (by omega) (by first | (simp; done) | (simp; omega)), hVt, hVk⟩, ?_⟩
      · repeat (first | (with_reducible refine (drew_at _ _).trans ?_) | (with_reducible refine (heap_setCell_other _ _ _ _ (by dsimp only; omega)).trans ?_))
        with_reducible rfl
      · repeat (first | (with_reducible exact ql) | (with_reducible refine Below.drew ?_) | (with_reducible refine Below.setCell ?_ (by dsimp only; omega) _))
  | true =>
    have f0 := frozen_of_row _ _ 0 _ _ rt
    have e0 := cell_of_row _ _ 0 _ _ _ rt
    have f1 := frozen_of_row _ _ 1 _ _ rt
    have e1 := cell_of_row _ _ 1 _ _ _ rt
    have f2 := frozen_of_row _ _ 2 _ _ rt
    have e2 := cell_of_row _ _ 2 _ _ _ rt
    simp only [List.getElem?_toArray, List.getElem?_cons_zero, List.getElem?_cons_succ] at e0 e1 e2
    go_wp2_with fail
    obtain ⟨Ws, hWs⟩ : ∃ W, W = (((wo.setCell ⟨wt.heap.size, 0, none⟩ (.int .i64 4)).setCell ⟨wt.heap.size, 1, none⟩ (.int .i64 0)).setCell ⟨wt.heap.size, 2, none⟩ (.string ⟨#[]⟩)) := ⟨_, rfl⟩
    have fs : ∀ k, k ≠ wt.heap.size → Ws.heap[k]? = wo.heap[k]? := fun k hk => by rw [hWs, heap_setCell_other _ _ _ _ (by exact hk), heap_setCell_other _ _ _ _ (by exact hk), heap_setCell_other _ _ _ _ (by exact hk)]
    have r0 := (fs (w.heap.size) (by omega)).trans r0
    have r1 := (fs (w.heap.size + 1) (by omega)).trans r1
    have r2 := (fs (w.heap.size + 1 + 1) (by omega)).trans r2
    have rh := (fs (wh.heap.size) (by omega)).trans rh
    have rt : Ws.heap[wt.heap.size]? = some (Obj.cells #[.int .i64 4, .int .i64 0, .string ⟨#[]⟩] 32) := by rw [hWs, heap_setCell_same _ _ _ _ _ _ (heap_setCell_same _ _ _ _ _ _ (heap_setCell_same _ _ _ _ _ _ rt))]; rfl
    have hCs : Cur Ws w.heap.size (w.heap.size + 3) := by rw [hWs]; exact cur_put' (cur_put' (cur_put' hCo (by omega) (by omega)) (by omega) (by omega)) (by omega) (by omega)
    have qs : Below w.heap.size w Ws := by rw [hWs]; exact ((qo.setCell (by show w.heap.size ≤ wt.heap.size; omega) _).setCell (by show w.heap.size ≤ wt.heap.size; omega) _).setCell (by show w.heap.size ≤ wt.heap.size; omega) _
    have Ts := tm_step To fun k h1 hk => fs k (by omega)
    have zs : Ws.heap.size = wo.heap.size := by rw [hWs]; simp
    rw [← hWs]
    clear hWs fs f0 f1 f2 e0 e1 e2 To qo hCo hVt
    have hVt : VDraw 4 0 ⟨#[]⟩ := VDraw.num (by decide) (by decide) (by decide) (by decide)
    have xrh0 := cell_of_row _ _ 0 _ _ _ rh
    have xrh1 := cell_of_row _ _ 1 _ _ _ rh
    have xrt0 := cell_of_row _ _ 0 _ _ _ rt
    have xrt1 := cell_of_row _ _ 1 _ _ _ rt
    have xrt2 := cell_of_row _ _ 2 _ _ _ rt
    simp only [List.getElem?_toArray, List.getElem?_cons_zero, List.getElem?_cons_succ] at xrh0 xrh1 xrt0 xrt1 xrt2
    have n00 : ¬ wh.heap.size = w.heap.size := by omega
    have m00 : ¬ w.heap.size = wh.heap.size := by omega
    have n01 : ¬ wt.heap.size = w.heap.size := by omega
    have m01 : ¬ w.heap.size = wt.heap.size := by omega
    have n10 : ¬ wh.heap.size = w.heap.size + 1 := by omega
    have m10 : ¬ w.heap.size + 1 = wh.heap.size := by omega
    have n11 : ¬ wt.heap.size = w.heap.size + 1 := by omega
    have m11 : ¬ w.heap.size + 1 = wt.heap.size := by omega
    have n20 : ¬ wh.heap.size = w.heap.size + 1 + 1 := by omega
    have m20 : ¬ w.heap.size + 1 + 1 = wh.heap.size := by omega
    have n21 : ¬ wt.heap.size = w.heap.size + 1 + 1 := by omega
    have m21 : ¬ w.heap.size + 1 + 1 = wt.heap.size := by omega
    have hCd := cur_drew hCs
    go_region_held3 (fun w' => w'.cell? ⟨wh.heap.size, 0, none⟩ = some (.slice pa h.ts.length pc) ∧ w'.cell? ⟨wh.heap.size, 1, none⟩ = some (.slice ua h.vs.length uc) ∧ w'.cell? ⟨wt.heap.size, 0, none⟩ = some (.int .i64 4) ∧ w'.cell? ⟨wt.heap.size, 1, none⟩ = some (.int .i64 0) ∧ w'.cell? ⟨wt.heap.size, 2, none⟩ = some (.string ⟨#[]⟩)) (go_keep) (first | (go_at_call 46; refine (value_any w.heap.size (w.heap.size + 3) _ hCd).mono ?_; rintro e wl ⟨kk, kn, ks, rfl, hVk, hdl⟩; have zl : Ws.heap.size ≤ wl.heap.size := hdl.by'.size; have ql : Below w.heap.size w wl := qs.drew.trans (hdl.below qs.drew.size); have Tl := tm_step Ts (W' := wl) fun k h1 hk => hdl.by'.block k (by show k < Ws.heap.size; omega) (by first | (simp; done) | (simp; omega)); have xrh0 := cell_of_row _ _ 0 _ _ _ ((hdl.by'.block (wh.heap.size) (by show wh.heap.size < Ws.heap.size; omega) (by first | (simp; done) | (simp; omega))).trans rh); have xrh1 := cell_of_row _ _ 1 _ _ _ ((hdl.by'.block (wh.heap.size) (by show wh.heap.size < Ws.heap.size; omega) (by first | (simp; done) | (simp; omega))).trans rh); have xrt0 := cell_of_row _ _ 0 _ _ _ ((hdl.by'.block (wt.heap.size) (by show wt.heap.size < Ws.heap.size; omega) (by first | (simp; done) | (simp; omega))).trans rt); have xrt1 := cell_of_row _ _ 1 _ _ _ ((hdl.by'.block (wt.heap.size) (by show wt.heap.size < Ws.heap.size; omega) (by first | (simp; done) | (simp; omega))).trans rt); have xrt2 := cell_of_row _ _ 2 _ _ _ ((hdl.by'.block (wt.heap.size) (by show wt.heap.size < Ws.heap.size; omega) (by first | (simp; done) | (simp; omega))).trans rt); simp only [List.getElem?_toArray, List.getElem?_cons_zero, List.getElem?_cons_succ] at xrh0 xrh1 xrt0 xrt1 xrt2; have y0 := (hdl.by'.block (w.heap.size) (by show w.heap.size < Ws.heap.size; omega) (by first | (simp; done) | (simp; omega))).trans r0; have fy00 := frozen_of_row _ _ 0 _ _ y0; have cy00 := cell_of_row _ _ 0 _ _ _ y0; have fy01 := frozen_of_row _ _ 1 _ _ y0; have cy01 := cell_of_row _ _ 1 _ _ _ y0; have y1 := (hdl.by'.block (w.heap.size + 1) (by show w.heap.size + 1 < Ws.heap.size; omega) (by first | (simp; done) | (simp; omega))).trans r1; have fy10 := frozen_of_row _ _ 0 _ _ y1; have cy10 := cell_of_row _ _ 0 _ _ _ y1; have fy11 := frozen_of_row _ _ 1 _ _ y1; have cy11 := cell_of_row _ _ 1 _ _ _ y1; have fy12 := frozen_of_row _ _ 2 _ _ y1; have cy12 := cell_of_row _ _ 2 _ _ _ y1; have y2 := (hdl.by'.block (w.heap.size + 1 + 1) (by show w.heap.size + 1 + 1 < Ws.heap.size; omega) (by first | (simp; done) | (simp; omega))).trans r2; have fy20 := frozen_of_row _ _ 0 _ _ y2; have cy20 := cell_of_row _ _ 0 _ _ _ y2; have fy21 := frozen_of_row _ _ 1 _ _ y2; have cy21 := cell_of_row _ _ 1 _ _ _ y2; have fy22 := frozen_of_row _ _ 2 _ _ y2; have cy22 := cell_of_row _ _ 2 _ _ _ y2; simp only [List.getElem?_toArray, List.getElem?_cons_zero, List.getElem?_cons_succ] at cy00 cy01 cy10 cy11 cy12 cy20 cy21 cy22))
    all_goals
      go_wp2_with fail
      refine bodyPost_ret (v := .tuple #[.agg #[.slice pa h.ts.length pc, .slice ua h.vs.length uc], .agg #[.int .i64 4, .int .i64 0, .string ⟨#[]⟩], .agg #[.int .i64 kk, .int .i64 kn, .string ks]]) (by simp [results, Try.results22, go_sem, *]) rfl ⟨⟨h, pa, pc, ua, uc, 4, 0, ⟨#[]⟩, kk, kn, ks, rfl, hD, tm_tv (tm_step Tl fun k h1 hk => ?_) (by omega) (by first | (simp; done) | (simp; omega)), hVt, hVk⟩, ?_⟩
      · repeat (first | (with_reducible refine (drew_at _ _).trans ?_) | (with_reducible refine (heap_setCell_other _ _ _ _ (by dsimp only; omega)).trans ?_))
        with_reducible rfl
      · repeat (first | (with_reducible exact ql) | (with_reducible refine Below.drew ?_) | (with_reducible refine Below.setCell ?_ (by dsimp only; omega) _))
end Go.Proofs.Ytbdpfmkpjeleaaa
namespace Go.Proofs.Ytbdpfmkpjeleaaa
open Go.RowKit

def unS : List ByteArray := [⟨#[110, 111, 116]⟩, ⟨#[45]⟩, ⟨#[35]⟩, ⟨#[35]⟩, ⟨#[120]⟩]
theorem unS_lits (w : World) (T : TypeId) : ∀ (j : Nat) (t : ByteArray), unS[j]? = some t → (w.alloc (Obj.cells #[.string ⟨#[110, 111, 116]⟩, .string ⟨#[45]⟩, .string ⟨#[35]⟩, .string ⟨#[35]⟩, .string ⟨#[120]⟩] T)).cell? ⟨w.heap.size, j, none⟩ = some (.string t) := by
  intro j t h
  rw [cell_of_row _ _ j _ _ _ (heap_alloc_new w _)]
  match j, h with
  | 0, h => simpa [unS] using h
  | 1, h => simpa [unS] using h
  | 2, h => simpa [unS] using h
  | 3, h => simpa [unS] using h
  | 4, h => simpa [unS] using h
  | j + 5, h => simp [unS] at h
set_option maxRecDepth 100000 in
set_option maxHeartbeats 3200000 in
theorem drawUnary_any (a : Option Addr) (len cap B : Nat) (w : World) (hcode : IsCode w B a len cap) (hB : B ≤ w.heap.size) :
    Calls Try.prog 25 #[.slice a len cap] w fun e w' => (∃ op h pa pc ua uc vk vn vs, e = .returned (.tuple #[(.string op), .agg #[.slice pa h.ts.length pc, .slice ua h.vs.length uc], .agg #[.int .i64 vk, .int .i64 vn, .string vs]]) ∧ op ∈ unS ∧ HDr h ∧ TV w' w.heap.size h pa ua ∧ VDraw vk vn vs) ∧ Below w.heap.size w w' := by
  obtain ⟨r0, r1, hs0, hB0⟩ := rows2 w (Obj.cells #[.slice none 0 0, .slice none 0 0] 30) (Obj.cells #[.int .i64 0, .int .i64 0, .string ⟨#[]⟩] 32)
  obtain ⟨W0, hW0⟩ : ∃ W0, W0 = ((w.alloc (Obj.cells #[.slice none 0 0, .slice none 0 0] 30)).alloc (Obj.cells #[.int .i64 0, .int .i64 0, .string ⟨#[]⟩] 32)) := ⟨_, rfl⟩
  rw [← hW0] at r0 r1 hs0 hB0
  have hcode0 : IsCode W0 w.heap.size a len cap := code_later (code_up hcode hB) hB0
  go_enter Try.func25, Try.ntmps25
  go_wp2_with fail
  rw [← hW0]
  clear hW0
  refine (new_any w.heap.size a len cap W0 hcode0 (by omega)).mono ?_
  rw [hs0]
  rintro e w1 ⟨rfl, hC1, hb1⟩
  have zz1 := hb1.size
  have q1 : Below w.heap.size w w1 := hB0.trans (hb1.mono (by omega))
  have z1 : w.heap.size + 2 < w1.heap.size := cur_lt hC1
  have r0 := (hb1.block (w.heap.size) (by omega)).trans r0
  have r1 := (hb1.block (w.heap.size + 1) (by omega)).trans r1
  clear hb1 zz1 hB0 hs0 hcode0 hcode
  have zl0 := size_alloc w1 (Obj.cells #[.string ⟨#[110, 111, 116]⟩, .string ⟨#[45]⟩, .string ⟨#[35]⟩, .string ⟨#[35]⟩, .string ⟨#[120]⟩] 9)
  have hbl := bel_alloc w1 (Obj.cells #[.string ⟨#[110, 111, 116]⟩, .string ⟨#[45]⟩, .string ⟨#[35]⟩, .string ⟨#[35]⟩, .string ⟨#[120]⟩] 9)
  have ql : Below w.heap.size w (w1.alloc (Obj.cells #[.string ⟨#[110, 111, 116]⟩, .string ⟨#[45]⟩, .string ⟨#[35]⟩, .string ⟨#[35]⟩, .string ⟨#[120]⟩] 9)) := q1.trans (hbl.mono (by omega))
  go_wp2_with fail
  refine (pick_any w.heap.size (w.heap.size + 2) unS w1.heap.size 5 _ (cur_alloc hC1 _) (by omega) (by decide) (by decide) (unS_lits w1 _)).mono ?_
  rintro e wp ⟨op, rfl, hop, hdp⟩
  have r0 := (hbl.block (w.heap.size) (by omega)).trans r0
  have r1 := (hbl.block (w.heap.size + 1) (by omega)).trans r1
  have zp := hdp.by'.size
  have hCp := hdp.cur
  have qp : Below w.heap.size w wp := ql.trans (hdp.below ql.size)
  have r0 := (hdp.by'.block (w.heap.size) (by omega) (by first | (simp; done) | (simp; omega))).trans r0
  have r1 := (hdp.by'.block (w.heap.size + 1) (by omega) (by first | (simp; done) | (simp; omega))).trans r1
  clear hbl ql hdp hC1 q1
  go_wp2_with fail
  refine (heap_draw w.heap.size (w.heap.size + 2) wp hCp).mono ?_
  rintro e wh ⟨⟨h, sp, cl, ss, rfl, hg, h1, h2, hO⟩, hd⟩
  have zh := hd.by'.size
  obtain ⟨pa, pn, pc⟩ := sp
  obtain ⟨ua, un, uc⟩ := cl
  have hpn := hO.1
  have hun := hO.2.1
  dsimp only at hpn hun
  subst hpn
  subst hun
  have hD := hdr_mk hg h1 h2
  have qh : Below w.heap.size w wh := qp.trans (hd.below qp.size)
  have hCh := hd.cur
  have Th : TAt wh wp.heap.size wh.heap.size h.ts pa ∧ VAt wh wp.heap.size wh.heap.size h.vs ua := tv_lay hO.2.2.lay hD.good.ok (Nat.le_refl _) hD.wt
  have r0 := (hd.by'.block (w.heap.size) (by omega) (by first | (simp; done) | (simp; omega))).trans r0
  have r1 := (hd.by'.block (w.heap.size + 1) (by omega) (by first | (simp; done) | (simp; omega))).trans r1
  clear hO hg h1 h2 hd
  dsimp only [Sl.v]
  obtain ⟨Whb, hWhb⟩ : ∃ W, W = wh.alloc (Obj.cells #[.slice pa h.ts.length pc, .slice ua h.vs.length uc] 30) := ⟨_, rfl⟩
  have hbhb : Below wh.heap.size wh Whb := hWhb ▸ bel_alloc wh _
  have rh : Whb.heap[wh.heap.size]? = some (Obj.cells #[.slice pa h.ts.length pc, .slice ua h.vs.length uc] 30) := by rw [hWhb]; exact heap_alloc_new _ _
  have hChb : Cur Whb w.heap.size (w.heap.size + 2) := by rw [hWhb]; exact cur_alloc hCh _
  have zhb : Whb.heap.size = wh.heap.size + 1 := by rw [hWhb]; exact size_alloc _ _
  have qhb : Below w.heap.size w Whb := qh.trans (hbhb.mono qh.size)
  have Thb := tm_step Th fun k _ hk => hbhb.block k (by omega)
  have r0 := (hbhb.block (w.heap.size) (by omega)).trans r0
  have r1 := (hbhb.block (w.heap.size + 1) (by omega)).trans r1
  clear hbhb Th hCh qh
  go_wp2_with fail
  rw [← hWhb]
  clear hWhb
  have xrh0 := cell_of_row _ _ 0 _ _ _ rh
  have xrh1 := cell_of_row _ _ 1 _ _ _ rh
  simp only [List.getElem?_toArray, List.getElem?_cons_zero, List.getElem?_cons_succ] at xrh0 xrh1
  have n00 : ¬ wh.heap.size = w.heap.size := by omega
  have m00 : ¬ w.heap.size = wh.heap.size := by omega
  have n10 : ¬ wh.heap.size = w.heap.size + 1 := by omega
  have m10 : ¬ w.heap.size + 1 = wh.heap.size := by omega
  have hCd := cur_drew hChb
  go_region_held3 (fun w' => w'.cell? ⟨wh.heap.size, 0, none⟩ = some (.slice pa h.ts.length pc) ∧ w'.cell? ⟨wh.heap.size, 1, none⟩ = some (.slice ua h.vs.length uc)) (go_keep) (first | (go_at_call 46; refine (value_any w.heap.size (w.heap.size + 2) _ hCd).mono ?_; rintro e wl ⟨vk, vn, vs, rfl, hVv, hdl⟩; have zl : Whb.heap.size ≤ wl.heap.size := hdl.by'.size; have ql : Below w.heap.size w wl := qhb.drew.trans (hdl.below qhb.drew.size); have Tl := tm_step Thb (W' := wl) fun k h1 hk => hdl.by'.block k (by show k < Whb.heap.size; omega) (by first | (simp; done) | (simp; omega)); have xrh0 := cell_of_row _ _ 0 _ _ _ ((hdl.by'.block (wh.heap.size) (by show wh.heap.size < Whb.heap.size; omega) (by first | (simp; done) | (simp; omega))).trans rh); have xrh1 := cell_of_row _ _ 1 _ _ _ ((hdl.by'.block (wh.heap.size) (by show wh.heap.size < Whb.heap.size; omega) (by first | (simp; done) | (simp; omega))).trans rh); simp only [List.getElem?_toArray, List.getElem?_cons_zero, List.getElem?_cons_succ] at xrh0 xrh1; have y0 := (hdl.by'.block (w.heap.size) (by show w.heap.size < Whb.heap.size; omega) (by first | (simp; done) | (simp; omega))).trans r0; have fy00 := frozen_of_row _ _ 0 _ _ y0; have cy00 := cell_of_row _ _ 0 _ _ _ y0; have fy01 := frozen_of_row _ _ 1 _ _ y0; have cy01 := cell_of_row _ _ 1 _ _ _ y0; have y1 := (hdl.by'.block (w.heap.size + 1) (by show w.heap.size + 1 < Whb.heap.size; omega) (by first | (simp; done) | (simp; omega))).trans r1; have fy10 := frozen_of_row _ _ 0 _ _ y1; have cy10 := cell_of_row _ _ 0 _ _ _ y1; have fy11 := frozen_of_row _ _ 1 _ _ y1; have cy11 := cell_of_row _ _ 1 _ _ _ y1; have fy12 := frozen_of_row _ _ 2 _ _ y1; have cy12 := cell_of_row _ _ 2 _ _ _ y1; simp only [List.getElem?_toArray, List.getElem?_cons_zero, List.getElem?_cons_succ] at cy00 cy01 cy10 cy11 cy12))
  all_goals
    go_wp2_with fail
    refine bodyPost_ret (v := .tuple #[.string op, .agg #[.slice pa h.ts.length pc, .slice ua h.vs.length uc], .agg #[.int .i64 vk, .int .i64 vn, .string vs]]) (by simp [results, Try.results25, go_sem, *]) rfl ⟨⟨op, h, pa, pc, ua, uc, vk, vn, vs, rfl, hop, hD, tm_tv (tm_step Tl fun k h1 hk => ?_) (by omega) (by first | (simp; done) | (simp; omega)), hVv⟩, ?_⟩
    · repeat (first | (with_reducible refine (drew_at _ _).trans ?_) | (with_reducible refine (heap_setCell_other _ _ _ _ (by dsimp only; omega)).trans ?_))
      with_reducible rfl
    · repeat (first | (with_reducible exact ql) | (with_reducible refine Below.drew ?_) | (with_reducible refine Below.setCell ?_ (by dsimp only; omega) _))
end Go.Proofs.Ytbdpfmkpjeleaaa
