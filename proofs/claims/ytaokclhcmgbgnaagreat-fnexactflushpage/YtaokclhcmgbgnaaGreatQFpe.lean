/- impl.turnStore over FlushPage's function; impl.FlushPage. -/
import Derived.Test.YtaokclhcmgbgnaaGreatQFpd
import Derived.Test.YtaokclhcmgbgnaaGreatQZeh
namespace Go.Proofs.YtaokclhcmgbgnaaGreat
open Go.ChangeShapes Go.WideShapes Go.ChangeAt Go.RowKit Go.Deep Go.Joins
set_option linter.unusedVariables false
set_option linter.unusedSimpArgs false
set_option maxRecDepth 20000

theorem CbR.of {c v v' : Int} {R R' : Sto} {lo B : Nat} {col : Nat → Nat} {w w' : World} {e : Ending} (h : CbR c v R lo B col w e w') (hv : c = 0 → v = v' ∧ R = R') : CbR c v' R' lo B col w e w' := by
  obtain ⟨vv, R1, n1, xs1, col1, h1, h2, h3, h4, h5⟩ := h
  exact ⟨vv, R1, n1, xs1, col1, h1, fun hc => ⟨(h2 hc).1.trans (hv hc).1, (h2 hc).2.trans (hv hc).2⟩, h3, h4, h5⟩
set_option maxHeartbeats 16000000 in
theorem turnFlush_any (t : Sto) (a0 : Option Addr) (c0 : Nat) (a1 : Option Addr) (c1 : Nat) (a2 : Option Addr) (c2 : Nat) (a3 : Option Addr) (c3 : Nat) (a4 : Option Addr) (c4 : Nat) (a5 : Option Addr) (c5 : Nat) (a6 : Option Addr) (c6 : Nat) (X : Nat) (c v : Int) (R : Sto) (w : World) (hS : SmSt t) (hby : LogByt t.g) (h : InSt w a0 a1 a2 a3 a4 a5 a6 t) (hbad : stF t ≠ 0 → c = stF t ∧ v = 0 ∧ R = zSt) (hz : c ≠ 0 → v = 0 ∧ R = zSt)
    (hcb : stF t = 0 → ∀ (lo : Nat) (col : Nat → Nat) (B : Nat) (u : World), w.heap.size ≤ lo → Below w.heap.size w u → Wk t (cnt (aZ t.g) (t.g.n1 + t.g.n2)) (rvs (aZ t.g) (cnt (aZ t.g) (t.g.n1 + t.g.n2))) lo col B u → LgCap t.g.n1 B u → Calls Tryz.prog 38 #[.pointer (some ⟨B, 0, none⟩), .pointer (some ⟨X, 0, none⟩)] u (CbR c v R lo B col u)) :
    Calls Tryz.prog 37 #[.agg #[.int .i64 t.nx, .slice a0 t.pn c0, .slice a1 t.d.n c1, .slice a2 t.d.m c2, .slice a3 t.g.n1 c3, .slice a4 t.g.n2 c4, .slice a5 t.hn c5, .slice a6 t.on c6], .func (Fn.func 38) #[] #[.pointer (some ⟨X, 0, none⟩)]] w (SRes c v R w) := by
  have HA : Hid (InSt w a0 a1 a2 a3 a4 a5 a6 t) := h
  have HS : Hid (SmSt t) := hS
  have HBY : Hid (LogByt t.g) := hby
  have HCB : Hid (stF t = 0 → ∀ (lo : Nat) (col : Nat → Nat) (B : Nat) (u : World), w.heap.size ≤ lo → Below w.heap.size w u → Wk t (cnt (aZ t.g) (t.g.n1 + t.g.n2)) (rvs (aZ t.g) (cnt (aZ t.g) (t.g.n1 + t.g.n2))) lo col B u → LgCap t.g.n1 B u → Calls Tryz.prog 38 #[.pointer (some ⟨B, 0, none⟩), .pointer (some ⟨X, 0, none⟩)] u (CbR c v R lo B col u)) := hcb
  have HBAD : Hid (stF t ≠ 0 → c = stF t ∧ v = 0 ∧ R = zSt) := hbad
  have HZ : Hid (c ≠ 0 → v = 0 ∧ R = zSt) := hz
  have hmf : ∀ (fn : Fn) (first cap : Array Value) (w : World), (Instr.makeFunc fn first cap).run Tryz.prog w = .ok (.func fn first cap) w := fun _ _ _ _ => rfl
  clear h hS hby hcb hbad hz
  go_enter_defers Tryz.func37, Tryz.ntmps37
  go_wp2_with fail
  obtain ⟨W, hW⟩ : ∃ x, x = (w.alloc (.cells #[.int .i64 t.nx, .slice a0 t.pn c0, .slice a1 t.d.n c1, .slice a2 t.d.m c2, .slice a3 t.g.n1 c3, .slice a4 t.g.n2 c4, .slice a5 t.hn c5, .slice a6 t.on c6] 42)).alloc (.cells #[.int .i64 0, .int .i64 0, .int .i64 0, .slice none 0 0, .slice none 0 0, .slice none 0 0, .slice none 0 0, .slice none 0 0, .slice none 0 0, .slice none 0 0] 44) := ⟨_, rfl⟩
  have HBW : Hid (Below w.heap.size w W) := by rw [hW]; exact ((Below.refl _ _).alloc (Nat.le_refl _) _).alloc (by simp) _
  have HWS : Hid (W.heap.size = w.heap.size + 2) := by rw [hW]; simp [Hid]
  have HBX : Hid (BoxS W w.heap.size (.int .i64 t.nx) (.slice a0 t.pn c0) (.slice a1 t.d.n c1) (.slice a2 t.d.m c2) (.slice a3 t.g.n1 c3) (.slice a4 t.g.n2 c4) (.slice a5 t.hn c5) (.slice a6 t.on c6)) := by rw [hW]; exact (BoxS.new _ _ _ _ _ _ _ _ _ _).alloc _
  have HB10 : Hid (Bx10 W (w.heap.size + 1) 0 0 (.int .i64 0) (.slice none 0 0) (.slice none 0 0) (.slice none 0 0) (.slice none 0 0) (.slice none 0 0) (.slice none 0 0) (.slice none 0 0)) := by rw [hW]; simp [Hid, Bx10, go_sem]
  have HBF : Hid (∀ i, W.frozen? ⟨w.heap.size + 1, i, none⟩ = false) := fun i => by rw [hW]; simp [go_sem]
  rw [← hW]
  clear hW
  refine (implStf_any t a0 c0 a1 c1 a2 c2 a3 c3 a4 c4 a5 c5 a6 c6 W HS.out HBY.out (HA.out.below HBW.out)).mono ?_
  rintro e w1 ⟨rfl, hb1⟩
  have HB1 : Hid (Below W.heap.size W w1) := hb1
  have e1 : w1.heap[w.heap.size + 1]? = W.heap[w.heap.size + 1]? := hb1.block _ (by have := HWS.out; omega)
  by_cases hst : stF t = 0
  · have HST : Hid (stF t = 0) := hst
    rw [hst]
    have l1 := HBX.out.below hb1
    obtain ⟨x0, x1, x2, x3, x4, x5, x6, x7⟩ := l1
    have HC1 : Hid (Bx10 w1 (w.heap.size + 1) 0 0 (.int .i64 0) (.slice none 0 0) (.slice none 0 0) (.slice none 0 0) (.slice none 0 0) (.slice none 0 0) (.slice none 0 0) (.slice none 0 0) ∧ ∀ i, w1.frozen? ⟨w.heap.size + 1, i, none⟩ = false) := ⟨HB10.out.block e1, fun i => (frozB e1).trans (HBF.out i)⟩
    clear hb1 e1 hst
    go_wp2_with fail
    refine (workOn_any t a0 c0 a1 c1 a2 c2 a3 c3 a4 c4 a5 c5 a6 c6 w1 HS.out (stF_good HST.out) HBY.out ((HA.out.below HBW.out).below HB1.out)).mono ?_
    rintro e w2 hwr
    obtain ⟨B, col, rfl, hb2, hk2, hcap2⟩ := WRes.wk2 hwr
    have HCP2 : Hid (LgCap t.g.n1 B w2) := hcap2
    clear hcap2
    clear hwr x0 x1 x2 x3 x4 x5 x6 x7
    have HB2 : Hid (Below w1.heap.size w1 w2) := hb2
    have HW1 : Hid (w.heap.size + 2 ≤ w1.heap.size) := by have := HWS.out; have := HB1.out.size; show _ ≤ _; omega
    have e2 : w2.heap[w.heap.size + 1]? = w1.heap[w.heap.size + 1]? := hb2.block _ (by have := HW1.out; omega)
    have HC2 : Hid (Bx10 w2 (w.heap.size + 1) 0 0 (.int .i64 0) (.slice none 0 0) (.slice none 0 0) (.slice none 0 0) (.slice none 0 0) (.slice none 0 0) (.slice none 0 0) (.slice none 0 0) ∧ ∀ i, w2.frozen? ⟨w.heap.size + 1, i, none⟩ = false) := ⟨HC1.out.1.block e2, fun i => (frozB e2).trans (HC1.out.2 i)⟩
    have HK2 : Hid (Wk t (cnt (aZ t.g) (t.g.n1 + t.g.n2)) (rvs (aZ t.g) (cnt (aZ t.g) (t.g.n1 + t.g.n2))) w1.heap.size col B w2) := hk2
    have HBw : Hid (Below w.heap.size w w2) := below_then (below_then HBW.out HB1.out) hb2
    clear hb2 hk2 e2
    go_wp2_with fail
    refine (HCB.out HST.out w1.heap.size col B w2 (by have := HW1.out; omega) HBw.out HK2.out HCP2.out).mono ?_
    rintro e w3 ⟨vv, R1, n1, xs1, col1, rfl, hc3, hcc3, hf3, hk3⟩
    have HF3 : Hid (WkF col B w2 w3) := hf3
    have HK3 : Hid (Wk R1 n1 xs1 w1.heap.size col1 B w3) := hk3
    have HC3 : Hid (c = 0 → vv = v ∧ R1 = R) := hc3
    have e3 : w3.heap[w.heap.size + 1]? = w2.heap[w.heap.size + 1]? := hf3.block _ (by have := HBw.out.size; have := HW1.out; have := HB2.out.size; omega) (fun q => by
      obtain ⟨y1, y2, y3⟩ := HK2.out.lt
      have := HW1.out
      rcases q with q | q
      · omega
      · have := (y3 _ q).1; omega)
    have HD3 : Hid (Bx10 w3 (w.heap.size + 1) 0 0 (.int .i64 0) (.slice none 0 0) (.slice none 0 0) (.slice none 0 0) (.slice none 0 0) (.slice none 0 0) (.slice none 0 0) (.slice none 0 0) ∧ ∀ i, w3.frozen? ⟨w.heap.size + 1, i, none⟩ = false) := ⟨HC2.out.1.block e3, fun i => (frozB e3).trans (HC2.out.2 i)⟩
    have HBw3 : Hid (Below w.heap.size w w3) := ⟨hf3.os.trans HBw.out.os, hf3.tape.trans HBw.out.tape, hf3.output.trans HBw.out.output, Nat.le_trans HBw.out.size hf3.size, fun x hx => (hf3.block x (by have := HBw.out.size; omega) (fun q => by
      obtain ⟨y1, y2, y3⟩ := HK2.out.lt
      have := HW1.out
      rcases q with q | q
      · omega
      · have := (y3 _ q).1; omega)).trans (HBw.out.block x hx)⟩
    have HS3 : Hid (w.heap.size + 2 ≤ w3.heap.size) := by have := HW1.out; have := HB2.out.size; have := hf3.size; show _ ≤ _; omega
    clear hc3 hcc3 hf3 hk3 e3
    go_upto_region 7 with fail
    obtain ⟨U, hU⟩ : ∃ x, x = w3.alloc (.cells #[.int .i64 c, .int .i64 vv] 80) := ⟨_, rfl⟩
    have HU : Hid (Below w3.heap.size w3 U) := by rw [hU]; exact below_new _ _
    have U2 : Box2 U w3.heap.size (.int .i64 c) (.int .i64 vv) := by rw [hU]; exact Box2.new _ _ _ _
    rw [← hU]
    clear hU
    have HKU : Hid (Wk R1 n1 xs1 w1.heap.size col1 B U) := HK3.out.below HU.out
    obtain ⟨d0, f0, d1, f1, d2, f2, d3, f3, d4, f4, d5, f5, d6, f6, ra1, rc1, hlo1, hbx1, -, -, -, -, hpc1, -⟩ := HKU.out
    have HOS : Hid (OwnS U w1.heap.size U.heap.size d0 d1 d2 d3 d4 d5 d6 R1) := hpc1.own
    have HDU : Hid (Bx10 U (w.heap.size + 1) 0 0 (.int .i64 0) (.slice none 0 0) (.slice none 0 0) (.slice none 0 0) (.slice none 0 0) (.slice none 0 0) (.slice none 0 0) (.slice none 0 0) ∧ ∀ i, U.frozen? ⟨w.heap.size + 1, i, none⟩ = false) := by
      have e4 : U.heap[w.heap.size + 1]? = w3.heap[w.heap.size + 1]? := HU.out.block _ (by have := HS3.out; omega)
      exact ⟨HD3.out.1.block e4, fun i => (frozB e4).trans (HD3.out.2 i)⟩
    clear hpc1
    refine wp_region_E 9 (S := fun u => (Box2 u w3.heap.size (.int .i64 c) (.int .i64 vv) ∧ BoxS u B (.int .i64 R1.nx) (.slice d0 R1.pn f0) (.slice d1 R1.d.n f1) (.slice d2 R1.d.m f2) (.slice d3 R1.g.n1 f3) (.slice d4 R1.g.n2 f4) (.slice d5 R1.hn f5) (.slice d6 R1.on f6)) ∧ Bx10 u (w.heap.size + 1) 0 0 (.int .i64 0) (.slice none 0 0) (.slice none 0 0) (.slice none 0 0) (.slice none 0 0) (.slice none 0 0) (.slice none 0 0) (.slice none 0 0) ∧ ∀ i, u.frozen? ⟨w.heap.size + 1, i, none⟩ = false) (by kernel_rfl) ⟨⟨U2.below ((Below.refl _ _).drew), hbx1.below ((Below.refl _ _).drew)⟩, HDU.out.1.block rfl, HDU.out.2⟩ (fun hS => ?_)
    obtain ⟨y0, hy0⟩ : ∃ y, y = U.drew := ⟨_, rfl⟩
    have HUY : Hid (Below U.heap.size U y0) := by rw [hy0]; exact (Below.refl _ _).drew
    rw [← hy0] at hS ⊢
    clear hy0 U2 hbx1
    refine wpAnyE_takeD (L := 9) (i := 0) (v := .pointer (some ⟨w3.heap.size, 0, none⟩)) (some 20) rfl rfl (by kernel_rfl) (by kernel_rfl) (by kernel_rfl) (by kernel_rfl) (turnQ (by decide)) (Or.inl ⟨by kernel_rfl, by intro u hSu; go_simp⟩) hS ?_
    try simp only [Act.put, List.setIfInBounds_toArray, List.set_cons_zero, List.set_cons_succ]
    refine wpAnyE_takeD (L := 9) (i := 1) (v := .int .i64 c) (some 21) rfl rfl (by kernel_rfl) (by kernel_rfl) (by kernel_rfl) (by kernel_rfl) (turnQ (by decide)) (Or.inl ⟨by kernel_rfl, by intro u hSu; obtain ⟨⟨⟨p0, p1⟩, -⟩, -⟩ := hSu; go_simp⟩) hS ?_
    try simp only [Act.put, List.setIfInBounds_toArray, List.set_cons_zero, List.set_cons_succ]
    refine wpAnyE_takeD (L := 9) (i := 2) (v := .pointer (some ⟨w3.heap.size, 1, none⟩)) (some 22) rfl rfl (by kernel_rfl) (by kernel_rfl) (by kernel_rfl) (by kernel_rfl) (turnQ (by decide)) (Or.inl ⟨by kernel_rfl, by intro u hSu; go_simp⟩) hS ?_
    try simp only [Act.put, List.setIfInBounds_toArray, List.set_cons_zero, List.set_cons_succ]
    refine wpAnyE_takeD (L := 9) (i := 3) (v := .int .i64 vv) (some 23) rfl rfl (by kernel_rfl) (by kernel_rfl) (by kernel_rfl) (by kernel_rfl) (turnQ (by decide)) (Or.inl ⟨by kernel_rfl, by intro u hSu; obtain ⟨⟨⟨p0, p1⟩, -⟩, -⟩ := hSu; go_simp⟩) hS ?_
    try simp only [Act.put, List.setIfInBounds_toArray, List.set_cons_zero, List.set_cons_succ]
    refine wpAnyE_takeD (L := 9) (i := 4) (v := .pointer (some ⟨B, 0, none⟩)) (some 24) rfl rfl (by kernel_rfl) (by kernel_rfl) (by kernel_rfl) (by kernel_rfl) (turnQ (by decide)) (Or.inl ⟨by kernel_rfl, by intro u hSu; go_simp⟩) hS ?_
    try simp only [Act.put, List.setIfInBounds_toArray, List.set_cons_zero, List.set_cons_succ]
    refine wpAnyE_takeD (L := 9) (i := 5) (v := .pointer (some ⟨B, 0, none⟩)) (some 25) rfl rfl (by kernel_rfl) (by kernel_rfl) (by kernel_rfl) (by kernel_rfl) (turnQ (by decide)) (Or.inl ⟨by kernel_rfl, by intro u hSu; go_simp⟩) hS ?_
    try simp only [Act.put, List.setIfInBounds_toArray, List.set_cons_zero, List.set_cons_succ]
    refine wpAnyE_takeD (L := 9) (i := 6) (v := .pointer (some ⟨B, 0, none⟩)) (some 26) rfl rfl (by kernel_rfl) (by kernel_rfl) (by kernel_rfl) (by kernel_rfl) (turnQ (by decide)) (Or.inl ⟨by kernel_rfl, by intro u hSu; go_simp⟩) hS ?_
    try simp only [Act.put, List.setIfInBounds_toArray, List.set_cons_zero, List.set_cons_succ]
    refine wpAnyE_takeD (L := 9) (i := 7) (v := .agg #[.int .i64 R1.nx, .slice d0 R1.pn f0, .slice d1 R1.d.n f1, .slice d2 R1.d.m f2, .slice d3 R1.g.n1 f3, .slice d4 R1.g.n2 f4, .slice d5 R1.hn f5, .slice d6 R1.on f6]) (some 27) rfl rfl (by kernel_rfl) (by kernel_rfl) (by kernel_rfl) (by kernel_rfl) (turnQ (by decide)) (Or.inl ⟨by kernel_rfl, by intro u hSu; obtain ⟨⟨-, h0, h1, h2, h3, h4, h5, h6, h7⟩, -⟩ := hSu; go_simp⟩) hS ?_
    try simp only [Act.put, List.setIfInBounds_toArray, List.set_cons_zero, List.set_cons_succ]
    refine wpAnyE_takeD (L := 9) (i := 8) (v := .agg #[.int .i64 c, .int .i64 vv, .int .i64 R1.nx, .slice d0 R1.pn f0, .slice d1 R1.d.n f1, .slice d2 R1.d.m f2, .slice d3 R1.g.n1 f3, .slice d4 R1.g.n2 f4, .slice d5 R1.hn f5, .slice d6 R1.on f6]) (some 28) rfl rfl (by kernel_rfl) (by kernel_rfl) (by kernel_rfl) (by kernel_rfl) (turnQ (by decide)) (Or.inl ⟨by kernel_rfl, by intro u hSu; go_simp⟩) hS ?_
    try simp only [Act.put, List.setIfInBounds_toArray, List.set_cons_zero, List.set_cons_succ]
    have hT := hS
    obtain ⟨-, ⟨r0, r1, r2, r3, r4, r5, r6, r7, r8, r9⟩, rf9⟩ := hT
    refine wpAnyE_ready (rs := [9]) (by kernel_rfl) (by simp) ?_
    refine AllReadyE.last rfl (fun K9 hK => ?_)
    go_simp
    refine hK.out _ _ ?_
    try simp only [Act.put, List.setIfInBounds_toArray, List.set_cons_zero, List.set_cons_succ]
    clear hK K9 hS
    refine wpAnyE_done (by kernel_rfl) ?_ _
    go_simp
    obtain ⟨Z, hZ⟩ : ∃ x, x = ((((((((((y0.setCell ⟨w.heap.size + 1, 0, none⟩ (.int .i64 c)).setCell ⟨w.heap.size + 1, 1, none⟩ (.int .i64 vv)).setCell ⟨w.heap.size + 1, 2, none⟩ (.int .i64 R1.nx)).setCell ⟨w.heap.size + 1, 3, none⟩ (.slice d0 R1.pn f0)).setCell ⟨w.heap.size + 1, 4, none⟩ (.slice d1 R1.d.n f1)).setCell ⟨w.heap.size + 1, 5, none⟩ (.slice d2 R1.d.m f2)).setCell ⟨w.heap.size + 1, 6, none⟩ (.slice d3 R1.g.n1 f3)).setCell ⟨w.heap.size + 1, 7, none⟩ (.slice d4 R1.g.n2 f4)).setCell ⟨w.heap.size + 1, 8, none⟩ (.slice d5 R1.hn f5)).setCell ⟨w.heap.size + 1, 9, none⟩ (.slice d6 R1.on f6)) := ⟨_, rfl⟩
    have HZW : Hid (Writes (w.heap.size + 1) (w.heap.size + 2) y0 Z) := by rw [hZ]; exact ((((((((((Writes.refl _ _ _).setCell (p := ⟨w.heap.size + 1, 0, none⟩) (Nat.le_refl _) (Nat.lt_succ_self _) _).setCell (p := ⟨w.heap.size + 1, 1, none⟩) (Nat.le_refl _) (Nat.lt_succ_self _) _).setCell (p := ⟨w.heap.size + 1, 2, none⟩) (Nat.le_refl _) (Nat.lt_succ_self _) _).setCell (p := ⟨w.heap.size + 1, 3, none⟩) (Nat.le_refl _) (Nat.lt_succ_self _) _).setCell (p := ⟨w.heap.size + 1, 4, none⟩) (Nat.le_refl _) (Nat.lt_succ_self _) _).setCell (p := ⟨w.heap.size + 1, 5, none⟩) (Nat.le_refl _) (Nat.lt_succ_self _) _).setCell (p := ⟨w.heap.size + 1, 6, none⟩) (Nat.le_refl _) (Nat.lt_succ_self _) _).setCell (p := ⟨w.heap.size + 1, 7, none⟩) (Nat.le_refl _) (Nat.lt_succ_self _) _).setCell (p := ⟨w.heap.size + 1, 8, none⟩) (Nat.le_refl _) (Nat.lt_succ_self _) _).setCell (p := ⟨w.heap.size + 1, 9, none⟩) (Nat.le_refl _) (Nat.lt_succ_self _) _
    have HZB : Hid (Bx10 Z (w.heap.size + 1) c vv (.int .i64 R1.nx) (.slice d0 R1.pn f0) (.slice d1 R1.d.n f1) (.slice d2 R1.d.m f2) (.slice d3 R1.g.n1 f3) (.slice d4 R1.g.n2 f4) (.slice d5 R1.hn f5) (.slice d6 R1.on f6)) := by
      rw [hZ]
      refine ⟨?_, ?_, ?_, ?_, ?_, ?_, ?_, ?_, ?_, ?_⟩ <;> simp [go_sem, *]
    have HZF : Hid (∀ i, Z.frozen? ⟨w.heap.size + 1, i, none⟩ = false) := fun i => by rw [hZ]; simp only [World.frozen?_setCell]; exact rf9 i
    rw [← hZ]
    clear hZ r0 r1 r2 r3 r4 r5 r6 r7 r8 r9 rf9
    have HBZ : Hid (Below w.heap.size w Z) := HZW.out.below (below_then (below_then HBw3.out HU.out) HUY.out) (by omega)
    have HOZ : Hid (OwnS Z w.heap.size Z.heap.size d0 d1 d2 d3 d4 d5 d6 R1) := (((HOS.out.below HUY.out).writes HZW.out (.inr HW1.out)).wide (by have := HW1.out; omega) (by have := HUY.out.size; have := HZW.out.size; omega) (Nat.le_refl _))
    go_wp2_with fail
    refine leaves_cons (f := 97) (args := #[.pointer (some ⟨w.heap.size + 1, 0, none⟩)]) (by simp) (by simp [go_sem]) ?_
    obtain ⟨r0, r1, r2, r3, r4, r5, r6, r7, r8, r9⟩ := HZB.out
    by_cases hc0 : c = 0
    · obtain ⟨rfl, rfl⟩ := HC3.out hc0
      subst hc0
      refine (turnD_good (w.heap.size + 1) .returning Z r0).mono ?_
      rintro e u' w4 ⟨rfl, rfl, rfl⟩
      refine ⟨.agg #[.int .i64 0, .int .i64 vv, .int .i64 R1.nx, .slice d0 R1.pn f0, .slice d1 R1.d.n f1, .slice d2 R1.d.m f2, .slice d3 R1.g.n1 f3, .slice d4 R1.g.n2 f4, .slice d5 R1.hn f5, .slice d6 R1.on f6], ?_, ?_⟩
      · simp [results, Tryz.results37, go_sem, *]
      · exact ⟨d0, f0, d1, f1, d2, f2, d3, f3, d4, f4, d5, f5, d6, f6, rfl, HBZ.out, HOZ.out⟩
    · obtain ⟨rfl, rfl⟩ := HZ.out hc0
      refine (turnD_bad (w.heap.size + 1) .returning c vv _ _ _ _ _ _ _ _ Z hc0 HZB.out HZF.out).mono ?_
      rintro e u' w4 ⟨rfl, rfl, hw4, hb4⟩
      clear r0 r1 r2 r3 r4 r5 r6 r7 r8 r9
      obtain ⟨r0, r1, r2, r3, r4, r5, r6, r7, r8, r9⟩ := hb4
      refine ⟨.agg #[.int .i64 c, .int .i64 0, .int .i64 0, .slice none 0 0, .slice none 0 0, .slice none 0 0, .slice none 0 0, .slice none 0 0, .slice none 0 0, .slice none 0 0], ?_, ?_⟩
      · simp [results, Tryz.results37, go_sem, *]
      · exact sres_bad (hw4.below HBZ.out (by omega))
  · obtain ⟨rfl, rfl, rfl⟩ := HBAD.out hst
    have HC1 : Hid (Bx10 w1 (w.heap.size + 1) 0 0 (.int .i64 0) (.slice none 0 0) (.slice none 0 0) (.slice none 0 0) (.slice none 0 0) (.slice none 0 0) (.slice none 0 0) (.slice none 0 0)) := HB10.out.block e1
    obtain ⟨r0, r1, r2, r3, r4, r5, r6, r7, r8, r9⟩ := HC1.out
    have rf9 : ∀ i, w1.frozen? ⟨w.heap.size + 1, i, none⟩ = false := fun i => (frozB e1).trans (HBF.out i)
    have hst2 : (stF t != 0) = true := by simp [hst]
    have HBw : Hid (Below w.heap.size w w1) := below_then HBW.out HB1.out
    generalize hcs : stF t = cs at *
    clear hb1 e1 hst HB10 HBAD HCB HZ hcs
    go_wp2_with fail
    refine ⟨.agg #[.int .i64 cs, .int .i64 0, .int .i64 0, .slice none 0 0, .slice none 0 0, .slice none 0 0, .slice none 0 0, .slice none 0 0, .slice none 0 0, .slice none 0 0], ?_, ?_⟩
    · simp [results, Tryz.results37, go_sem, *]
    · refine sres_bad (Writes.below HBw.out (lo := w.heap.size + 1) (hi := w.heap.size + 2) ?_ (by omega))
      repeat (first | with_reducible exact Writes.refl _ _ _ | with_reducible refine Writes.setCell ?_ (by first | omega | (simp <;> omega)) (by first | omega | (simp <;> omega)) _)
theorem fpC_good {t : Sto} {x : Int} (h : stF t = 0) : fpC t x = f1C x := if_pos h
theorem fpC_not {t : Sto} {x : Int} (h : stF t ≠ 0) : fpC t x = stF t := if_neg h
theorem fpT_bad {t : Sto} {x : Int} (h : fpC t x ≠ 0) : fpT t x = zSt := if_neg h
set_option maxHeartbeats 4000000 in
theorem implFp_any (t : Sto) (a0 : Option Addr) (c0 : Nat) (a1 : Option Addr) (c1 : Nat) (a2 : Option Addr) (c2 : Nat) (a3 : Option Addr) (c3 : Nat) (a4 : Option Addr) (c4 : Nat) (a5 : Option Addr) (c5 : Nat) (a6 : Option Addr) (c6 : Nat) (x : Int) (w : World) (hS : SmSt t) (hby : LogByt t.g) (h : InSt w a0 a1 a2 a3 a4 a5 a6 t) :
    Calls Tryz.prog 9 #[.agg #[.int .i64 t.nx, .slice a0 t.pn c0, .slice a1 t.d.n c1, .slice a2 t.d.m c2, .slice a3 t.g.n1 c3, .slice a4 t.g.n2 c4, .slice a5 t.hn c5, .slice a6 t.on c6], .int .i64 x] w (SRes (fpC t x) 0 (fpT t x) w) := by
  have HA : Hid (InSt w a0 a1 a2 a3 a4 a5 a6 t) := h
  have HS : Hid (SmSt t) := hS
  have HBY : Hid (LogByt t.g) := hby
  have hmf : ∀ (fn : Fn) (first cap : Array Value) (w : World), (Instr.makeFunc fn first cap).run Tryz.prog w = .ok (.func fn first cap) w := fun _ _ _ _ => rfl
  clear h hS hby
  go_enter Tryz.func9, Tryz.ntmps9
  go_wp2_with fail
  obtain ⟨W, hW⟩ : ∃ y, y = ((w.alloc (.cells #[.int .i64 t.nx, .slice a0 t.pn c0, .slice a1 t.d.n c1, .slice a2 t.d.m c2, .slice a3 t.g.n1 c3, .slice a4 t.g.n2 c4, .slice a5 t.hn c5, .slice a6 t.on c6] 42)).alloc (.cells #[.int .i64 x] 2)).alloc (.cells #[.int .i64 0, .int .i64 0, .int .i64 0, .slice none 0 0, .slice none 0 0, .slice none 0 0, .slice none 0 0, .slice none 0 0, .slice none 0 0, .slice none 0 0] 44) := ⟨_, rfl⟩
  have HBW : Hid (Below w.heap.size w W) := by rw [hW]; exact below_then (below_new _ _) (below_then (below_new _ _) (below_new _ _))
  have HWS : Hid (W.heap.size = w.heap.size + 3) := by rw [hW]; simp [Hid]
  have HB10 : Hid (Bx10 W (w.heap.size + 2) 0 0 (.int .i64 0) (.slice none 0 0) (.slice none 0 0) (.slice none 0 0) (.slice none 0 0) (.slice none 0 0) (.slice none 0 0) (.slice none 0 0)) := by rw [hW]; simp [Hid, Bx10, go_sem]
  have HBX : Hid (W.cell? ⟨w.heap.size + 1, 0, none⟩ = some (.int .i64 x)) := by rw [hW]; simp [Hid, go_sem]
  have HBF : Hid (∀ i, W.frozen? ⟨w.heap.size + 2, i, none⟩ = false) := fun i => by rw [hW]; simp [go_sem]
  rw [← hW]
  clear hW
  refine (turnFlush_any t a0 c0 a1 c1 a2 c2 a3 c3 a4 c4 a5 c5 a6 c6 (w.heap.size + 1) (fpC t x) 0 (fpT t x) W HS.out HBY.out (HA.out.below HBW.out) (fun hc => ⟨fpC_not hc, rfl, fpT_bad (by rw [fpC_not hc]; exact hc)⟩) (fun hc => ⟨rfl, fpT_bad hc⟩) (fun hst lo col B u hlo hbu hk hcp => ?_)).mono ?_
  · have hG := stF_good hst
    have hX := cell_below HBX.out hbu
    have hl := hk.lt
    have hw3 := HWS.out
    refine (flush1_any t _ _ lo col B (w.heap.size + 1) x u hG HS.out HBY.out hX ⟨by omega, by
      by_cases e : col (w.heap.size + 1) = 0
      · exact e
      · have := (hl.2.2 _ e).1; omega⟩ hk hcp).mono ?_
    intro e w' hcb
    rw [← fpC_good (x := x) hst] at hcb
    exact hcb.of fun hc => ⟨rfl, by unfold fpT; rw [if_pos hc]⟩
  rintro e w1 ⟨q0, k0, q1, k1, q2, k2, q3, k3, q4, k4, q5, k5, q6, k6, rfl, hb1, ho1⟩
  have e1 : w1.heap[w.heap.size + 2]? = W.heap[w.heap.size + 2]? := hb1.block _ (by have := HWS.out; omega)
  obtain ⟨r0, r1, r2, r3, r4, r5, r6, r7, r8, r9⟩ := HB10.out.block e1
  have rf9 : ∀ i, w1.frozen? ⟨w.heap.size + 2, i, none⟩ = false := fun i => (frozB e1).trans (HBF.out i)
  have HOW : Hid (OwnS w1 W.heap.size w1.heap.size q0 q1 q2 q3 q4 q5 q6 (fpT t x)) := ho1
  have HB1 : Hid (Below w.heap.size w w1) := below_then HBW.out hb1
  have HZ1 : Hid (w.heap.size + 3 ≤ w1.heap.size) := by have := HWS.out; have := hb1.size; show _ ≤ _; omega
  generalize fpC t x = c at *
  generalize fpT t x = R at *
  have HEND : Hid (∀ w', Writes (w.heap.size + 2) (w.heap.size + 3) w1 w' → SRes c 0 R w (.returned (.agg #[.int .i64 c, .int .i64 0, .int .i64 R.nx, .slice q0 R.pn k0, .slice q1 R.d.n k1, .slice q2 R.d.m k2, .slice q3 R.g.n1 k3, .slice q4 R.g.n2 k4, .slice q5 R.hn k5, .slice q6 R.on k6])) w') := fun w' hw => ⟨q0, k0, q1, k1, q2, k2, q3, k3, q4, k4, q5, k5, q6, k6, rfl, hw.below HB1.out (by omega), ((HOW.out.writes hw (.inr (by have := HWS.out; omega))).wide (by have := HWS.out; omega) hw.size (Nat.le_refl _))⟩
  clear hb1 ho1 e1
  go_wp2_with fail
  refine bodyPost_ret (v := .agg #[.int .i64 c, .int .i64 0, .int .i64 R.nx, .slice q0 R.pn k0, .slice q1 R.d.n k1, .slice q2 R.d.m k2, .slice q3 R.g.n1 k3, .slice q4 R.g.n2 k4, .slice q5 R.hn k5, .slice q6 R.on k6]) ?_ rfl ?_
  · simp [results, Tryz.results9, go_sem, *]
  · refine HEND.out _ ?_
    repeat (first | with_reducible exact Writes.refl _ _ _ | with_reducible refine Writes.setCell ?_ (by first | omega | (simp <;> omega)) (by first | omega | (simp <;> omega)) _)
end Go.Proofs.YtaokclhcmgbgnaaGreat
