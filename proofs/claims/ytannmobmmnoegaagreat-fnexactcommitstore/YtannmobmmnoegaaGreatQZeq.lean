/- A record told to a store at work: (*impl.storeLog[impl.Rec]).tell. -/
import Derived.Test.YtannmobmmnoegaaGreatQZep
namespace Go.Proofs.YtannmobmmnoegaaGreat
open Go.ChangeShapes Go.WideShapes Go.ChangeAt Go.RowKit Go.Deep Go.Joins
set_option linter.unusedVariables false
set_option linter.unusedSimpArgs false
set_option maxRecDepth 20000

set_option maxHeartbeats 16000000 in
theorem tell_any (s : Sto) (n : Nat) (xs : List Value) (lo : Nat) (col : Nat → Nat) (B : Nat) (k t key : Int) (hd : Bool) (old : Int) (hs : Bool) (nw bk : Int) (w : World) (hsz : s.g.n1 + s.g.n2 ≤ 4000) (hlg : lgC s.g = 0) (hrf : rf k t key hd old hs nw bk = 0) (hby : LogByt s.g) (hn : n ≤ 90000) (H : Wk s n xs lo col B w) :
    Calls Tryz.prog 42 #[.pointer (some ⟨B, 0, none⟩), .agg #[.int .i64 k, .int .i64 t, .int .i64 key, .bool hd, .int .i64 old, .bool hs, .int .i64 nw, .int .i64 bk]] w (TlR s n xs lo col B k t key hd old hs nw bk w) := by
  have HWK : Hid (Wk s n xs lo col B w) := H
  have HLG : Hid (lgC s.g = 0) := hlg
  have HRF : Hid (rf k t key hd old hs nw bk = 0) := hrf
  have HBY : Hid (LogByt s.g) := hby
  obtain ⟨b0, e0, b1, e1, b2, e2, b3, e3, b4, e4, b5, e5, b6, e6, ra, rc, h1, hbx, g1, g2, g3, g4, g5, g6, g7⟩ := H
  have hBl : B < w.heap.size := hbx.lt
  have HA : Hid (LogAt w b3 b4 s.g) := by
    obtain ⟨a, c, a', c', l, h, p1, p2, p3, p4⟩ := g5.pg rfl
    injection p1 with p11 p12 p13
    injection p2 with p21 p22 p23
    subst p11 p21
    exact p4.at
  have HRA : Hid (w.cell? ⟨B, 8, none⟩ = some (.slice ra n rc)) := g1
  have HRO : Hid (w.ownsRow lo 67 8 (.slice ra n rc) n xs) := g6
  have HR6 : Hid (∀ q, (Value.slice ra n rc).ownBlock = some q → q ≠ B) := fun q hq e => by have := g7 q hq; rw [e, g4] at this; omega
  clear hlg hrf hby g5 g6 g7 h1
  go_enter Tryz.func42, Tryz.ntmps42
  go_upto_region 1 with fail
  obtain ⟨W, hW⟩ : ∃ x, x = (w.alloc (.cells #[.int .i64 k, .int .i64 t, .int .i64 key, .bool hd, .int .i64 old, .bool hs, .int .i64 nw, .int .i64 bk] 67)).alloc (.cells #[.int .i64 0, .int .i64 0] 77) := ⟨_, rfl⟩
  have hbW : Below w.heap.size w W := by rw [hW]; exact ((Below.refl _ _).alloc (Nat.le_refl _) _).alloc (by simp) _
  have hWs : W.heap.size = w.heap.size + 2 := by rw [hW]; simp
  have SW : BoxS W B (.int .i64 s.nx) (.slice b0 s.pn e0) (.slice b1 s.d.n e1) (.slice b2 s.d.m e2) (.slice b3 s.g.n1 e3) (.slice b4 s.g.n2 e4) (.slice b5 s.hn e5) (.slice b6 s.on e6) ∧ W.cell? ⟨B, 9, none⟩ = some (.func (Fn.func 170) #[] #[]) ∧ Box8 W w.heap.size k t key hd old hs nw bk := by
    refine ⟨hbx.below hbW, cell_below g2 hbW, ?_⟩
    rw [hW]
    simp [Box8, go_sem]
  have HAN : Hid (Box2 W (w.heap.size + 1) (.int .i64 0) (.int .i64 0) ∧ ∀ i, W.frozen? ⟨w.heap.size + 1, i, none⟩ = false) := by
    rw [hW]
    exact ⟨⟨by simp [go_sem], by simp [go_sem]⟩, fun i => by simp [go_sem]⟩
  have HFW : Hid (∀ i, W.frozen? ⟨B, i, none⟩ = false) := fun i => (hbW.frozen (p := ⟨B, i, none⟩) hBl).trans (g3 i)
  have HB8 : Hid (Box8 W w.heap.size k t key hd old hs nw bk) := SW.2.2
  rw [← hW]
  clear hW
  have HBW : Hid (Below w.heap.size w W) := hbW
  have HWS : Hid (W.heap.size = w.heap.size + 2) := hWs
  have HBL : Hid (B < w.heap.size) := hBl
  replace HA : Hid (LogAt W b3 b4 s.g) := HA.out.below hbW
  clear hbW hbx g1 g2 g3 g4 hWs hBl
  go_cut [5] (fun c5 wx => ∃ (d : Nat) (c su : Int) (x1 : Option Addr) (m1 d1 : Nat) (x2 : Option Addr) (m2 d2 : Nat), c5 = .pointer (some ⟨d, 0, none⟩) ∧ Hid (TA s.g (rb k t key hd old hs nw bk) W wx d c su x1 m1 d1 x2 m2 d2))
  case first =>
    refine wp_region_E 12 (S := fun u => BoxS u B (.int .i64 s.nx) (.slice b0 s.pn e0) (.slice b1 s.d.n e1) (.slice b2 s.d.m e2) (.slice b3 s.g.n1 e3) (.slice b4 s.g.n2 e4) (.slice b5 s.hn e5) (.slice b6 s.on e6) ∧ u.cell? ⟨B, 9, none⟩ = some (.func (Fn.func 170) #[] #[]) ∧ Box8 u w.heap.size k t key hd old hs nw bk) (by kernel_rfl) ⟨SW.1.below ((Below.refl _ _).drew), SW.2.1, by obtain ⟨r0, r1, r2, r3, r4, r5, r6, r7⟩ := SW.2.2; exact ⟨r0, r1, r2, r3, r4, r5, r6, r7⟩⟩ (fun hS => ?_)
    obtain ⟨y0, hy0⟩ : ∃ y, y = W.drew := ⟨_, rfl⟩
    have HBY0 : Hid (Below W.heap.size W y0) := by rw [hy0]; exact (Below.refl _ _).drew
    rw [← hy0] at hS ⊢
    clear hy0 SW
    replace HA : Hid (LogAt y0 b3 b4 s.g) := HA.out.below HBY0.out
    refine wpAnyE_takeD (L := 12) (i := 0) (v := .pointer (some ⟨B, 0, none⟩)) (some 6) rfl rfl (by kernel_rfl) (by kernel_rfl) (by kernel_rfl) (by kernel_rfl) (fun _ _ _ h => h) (Or.inl ⟨by kernel_rfl, by intro u hSu; go_simp⟩) hS ?_
    try simp only [Act.put, List.setIfInBounds_toArray, List.set_cons_zero, List.set_cons_succ]
    refine wpAnyE_takeD (L := 12) (i := 1) (v := .pointer (some ⟨B, 0, none⟩)) (some 7) rfl rfl (by kernel_rfl) (by kernel_rfl) (by kernel_rfl) (by kernel_rfl) (fun _ _ _ h => h) (Or.inl ⟨by kernel_rfl, by intro u hSu; go_simp⟩) hS ?_
    try simp only [Act.put, List.setIfInBounds_toArray, List.set_cons_zero, List.set_cons_succ]
    refine wpAnyE_takeD (L := 12) (i := 2) (v := .pointer (some ⟨B, 9, none⟩)) (some 8) rfl rfl (by kernel_rfl) (by kernel_rfl) (by kernel_rfl) (by kernel_rfl) (fun _ _ _ h => h) (Or.inl ⟨by kernel_rfl, by intro u hSu; go_simp⟩) hS ?_
    try simp only [Act.put, List.setIfInBounds_toArray, List.set_cons_zero, List.set_cons_succ]
    refine wpAnyE_takeD (L := 12) (i := 3) (v := (.func (Fn.func 170) #[] #[])) (some 9) rfl rfl (by kernel_rfl) (by kernel_rfl) (by kernel_rfl) (by kernel_rfl) (fun _ _ _ h => h) (Or.inl ⟨by kernel_rfl, by intro u hSu; obtain ⟨-, h9, -⟩ := hSu; go_simp⟩) hS ?_
    try simp only [Act.put, List.setIfInBounds_toArray, List.set_cons_zero, List.set_cons_succ]
    refine wpAnyE_takeD (L := 12) (i := 4) (v := .pointer (some ⟨B, 0, none⟩)) (some 10) rfl rfl (by kernel_rfl) (by kernel_rfl) (by kernel_rfl) (by kernel_rfl) (fun _ _ _ h => h) (Or.inl ⟨by kernel_rfl, by intro u hSu; go_simp⟩) hS ?_
    try simp only [Act.put, List.setIfInBounds_toArray, List.set_cons_zero, List.set_cons_succ]
    refine wpAnyE_takeD (L := 12) (i := 5) (v := .pointer (some ⟨B, 0, none⟩)) (some 11) rfl rfl (by kernel_rfl) (by kernel_rfl) (by kernel_rfl) (by kernel_rfl) (fun _ _ _ h => h) (Or.inl ⟨by kernel_rfl, by intro u hSu; go_simp⟩) hS ?_
    try simp only [Act.put, List.setIfInBounds_toArray, List.set_cons_zero, List.set_cons_succ]
    refine wpAnyE_takeD (L := 12) (i := 6) (v := .pointer (some ⟨B, 0, none⟩)) (some 12) rfl rfl (by kernel_rfl) (by kernel_rfl) (by kernel_rfl) (by kernel_rfl) (fun _ _ _ h => h) (Or.inl ⟨by kernel_rfl, by intro u hSu; go_simp⟩) hS ?_
    try simp only [Act.put, List.setIfInBounds_toArray, List.set_cons_zero, List.set_cons_succ]
    refine wpAnyE_takeD (L := 12) (i := 7) (v := .pointer (some ⟨B, 4, none⟩)) (some 13) rfl rfl (by kernel_rfl) (by kernel_rfl) (by kernel_rfl) (by kernel_rfl) (fun _ _ _ h => h) (Or.inl ⟨by kernel_rfl, by intro u hSu; go_simp⟩) hS ?_
    try simp only [Act.put, List.setIfInBounds_toArray, List.set_cons_zero, List.set_cons_succ]
    refine wpAnyE_takeD (L := 12) (i := 8) (v := .agg #[.slice b3 s.g.n1 e3, .slice b4 s.g.n2 e4]) (some 14) rfl rfl (by kernel_rfl) (by kernel_rfl) (by kernel_rfl) (by kernel_rfl) (fun _ _ _ h => h) (Or.inl ⟨by kernel_rfl, by intro u hSu; obtain ⟨⟨h0, h1, h2, h3, h4, h5, h6, h7⟩, -, -⟩ := hSu; go_simp⟩) hS ?_
    try simp only [Act.put, List.setIfInBounds_toArray, List.set_cons_zero, List.set_cons_succ]
    refine wpAnyE_takeD (L := 12) (i := 9) (v := .agg #[.int .i64 k, .int .i64 t, .int .i64 key, .bool hd, .int .i64 old, .bool hs, .int .i64 nw, .int .i64 bk]) (some 15) rfl rfl (by kernel_rfl) (by kernel_rfl) (by kernel_rfl) (by kernel_rfl) (fun _ _ _ h => h) (Or.inl ⟨by kernel_rfl, by intro u hSu; obtain ⟨-, -, ⟨r0, r1, r2, r3, r4, r5, r6, r7⟩⟩ := hSu; go_simp⟩) hS ?_
    try simp only [Act.put, List.setIfInBounds_toArray, List.set_cons_zero, List.set_cons_succ]
    refine wpAnyE_ready (rs := [10, 11]) (by kernel_rfl) (by simp) ?_
    refine AllReadyE.cons rfl (fun K9 hK => ?_) (AllReadyE.cons rfl (fun K9 hK => ?_) AllReadyE.nil)
    · go_simp
      have HAy : Hid (LogAt y0 b3 b4 s.g) := HA.out
      refine (appendRec_k s.g b3 b4 e3 e4 k t key hd old hs nw bk y0 hsz HLG.out HRF.out HBY.out HAy.out).mono ?_
      rintro e w1 ⟨c, su, x1, m1, d1, x2, m2, d2, rfl, hb1, hk1⟩
      have HB1 : Hid (Below y0.heap.size y0 w1) := hb1
      have HK1 : Hid (c = 2 ∧ 4000 < s.g.n1 + s.g.n2 + 13 ∨ c = 0 ∧ s.g.n1 + s.g.n2 + 13 ≤ 4000 ∧ m1 = s.g.n1 ∧ m2 = s.g.n2 + 13 ∧ OwnG w1 y0.heap.size w1.heap.size x1 x2 (apR s.g (rb k t key hd old hs nw bk))) := hk1
      clear hk1
      refine hK.out _ _ (⟨hS.1.below hb1, cell_below hS.2.1 hb1, box8_below hS.2.2 hb1⟩) (fun hS9 => ?_)
      try simp only [Act.put, List.setIfInBounds_toArray, List.set_cons_zero, List.set_cons_succ]
      clear hK K9 hS
      have hS := hS9
      clear hS9
      clear hb1
      refine wpAnyE_ready (rs := [11]) (by kernel_rfl) (by simp) ?_
      refine AllReadyE.cons rfl (fun K9 hK => ?_) AllReadyE.nil
      go_simp
      refine hK.out _ _ (⟨hS.1.below (below_new _ _), cell_below hS.2.1 (below_new _ _), box8_below hS.2.2 (below_new _ _)⟩) (fun hS9 => ?_)
      try simp only [Act.put, List.setIfInBounds_toArray, List.set_cons_zero, List.set_cons_succ]
      clear hK K9 hS
      have hS := hS9
      clear hS9
      refine wpAnyE_ready (rs := [12]) (by kernel_rfl) (by simp) ?_
      refine AllReadyE.last rfl (fun K9 hK => ?_)
      go_simp
      refine hK.out _ _ ?_
      try simp only [Act.put, List.setIfInBounds_toArray, List.set_cons_zero, List.set_cons_succ]
      clear hK K9 hS
      refine wpAnyE_done (by kernel_rfl) ?_ _
      go_simp
      go_wp2_with fail
      go_meet
      exact ⟨_, _, _, _, _, _, _, _, _, rfl, TA.a _ HBY0.out HB1.out HK1.out⟩
    · go_simp
      refine hK.out _ _ (⟨hS.1.below (below_new _ _), cell_below hS.2.1 (below_new _ _), box8_below hS.2.2 (below_new _ _)⟩) (fun hS9 => ?_)
      try simp only [Act.put, List.setIfInBounds_toArray, List.set_cons_zero, List.set_cons_succ]
      clear hK K9 hS
      have hS := hS9
      clear hS9
      obtain ⟨y1, hy1⟩ : ∃ x, x = y0.alloc (.cells #[.int .i64 0, .int .i64 0, .slice none 0 0, .slice none 0 0] 99) := ⟨_, rfl⟩
      have HY1 : Hid (Below y0.heap.size y0 y1) := by rw [hy1]; exact below_new _ _
      have HYS : Hid (y1.heap.size = y0.heap.size + 1) := by rw [hy1]; simp [Hid]
      have HYB : Hid (Box4 y1 y0.heap.size (.int .i64 0) (.int .i64 0) (.slice none 0 0) (.slice none 0 0)) := by rw [hy1]; exact Box4.new _ _ _ _ _ _
      have mf : ∀ i, y1.frozen? ⟨y0.heap.size, i, none⟩ = false := fun i => by rw [hy1]; simp [go_sem]
      rw [← hy1] at hS ⊢
      clear hy1
      have HAy : Hid (LogAt y1 b3 b4 s.g) := HA.out.below HY1.out
      refine wpAnyE_ready (rs := [10]) (by kernel_rfl) (by simp) ?_
      refine AllReadyE.cons rfl (fun K9 hK => ?_) AllReadyE.nil
      go_simp
      refine (appendRec_k s.g b3 b4 e3 e4 k t key hd old hs nw bk y1 hsz HLG.out HRF.out HBY.out HAy.out).mono ?_
      rintro e w1 ⟨c, su, x1, m1, d1, x2, m2, d2, rfl, hb1, hk1⟩
      have HB1 : Hid (Below y1.heap.size y1 w1) := hb1
      have HK1 : Hid (c = 2 ∧ 4000 < s.g.n1 + s.g.n2 + 13 ∨ c = 0 ∧ s.g.n1 + s.g.n2 + 13 ≤ 4000 ∧ m1 = s.g.n1 ∧ m2 = s.g.n2 + 13 ∧ OwnG w1 y1.heap.size w1.heap.size x1 x2 (apR s.g (rb k t key hd old hs nw bk))) := hk1
      clear hk1
      obtain ⟨n0, n1, n2, n3⟩ := HYB.out.below hb1
      have nf : ∀ i, w1.frozen? ⟨y0.heap.size, i, none⟩ = false := fun i => (hb1.frozen (p := ⟨y0.heap.size, i, none⟩) (by have := HYS.out; show y0.heap.size < y1.heap.size; omega)).trans (mf i)
      refine hK.out _ _ (⟨hS.1.below hb1, cell_below hS.2.1 hb1, box8_below hS.2.2 hb1⟩) (fun hS9 => ?_)
      try simp only [Act.put, List.setIfInBounds_toArray, List.set_cons_zero, List.set_cons_succ]
      clear hK K9 hS
      have hS := hS9
      clear hS9
      clear hb1
      refine wpAnyE_ready (rs := [12]) (by kernel_rfl) (by simp) ?_
      refine AllReadyE.last rfl (fun K9 hK => ?_)
      go_simp
      refine hK.out _ _ ?_
      try simp only [Act.put, List.setIfInBounds_toArray, List.set_cons_zero, List.set_cons_succ]
      clear hK K9 hS
      refine wpAnyE_done (by kernel_rfl) ?_ _
      go_simp
      go_wp2_with fail
      go_meet
      exact ⟨_, _, _, _, _, _, _, _, _, rfl, TA.b HBY0.out HY1.out HYS.out HYB.out HB1.out HK1.out⟩
  case rest =>
    obtain ⟨d, c, su, x1, m1, d1, x2, m2, d2, rfl, HT⟩ := hcut
    obtain ⟨t1, t2, ⟨q0, q1, q2, q3⟩, t4⟩ := HT.out
    have HBC : Hid (Below W.heap.size W wc) := t2
    have HDW : Hid (W.heap.size ≤ d) := t1
    have HWC : Hid (Wk s n xs lo col B wc) := (HWK.out.below HBW.out).below t2
    obtain ⟨z0, z1⟩ := HAN.out.1.below t2
    have zf : ∀ i, wc.frozen? ⟨w.heap.size + 1, i, none⟩ = false := fun i => (t2.frozen (p := ⟨w.heap.size + 1, i, none⟩) (by have := HWS.out; show w.heap.size + 1 < W.heap.size; omega)).trans (HAN.out.2 i)
    clear t1 t2 HT
    rcases t4 with ⟨rfl, hbig⟩ | ⟨rfl, hle, rfl, rfl, l, h, l1, l2, l3, l4, hog⟩
    · have HBIG : Hid (4000 < s.g.n1 + s.g.n2 + 13) := hbig
      have HE : Hid (∀ w', Writes (w.heap.size + 1) (w.heap.size + 2) wc w' → Below w.heap.size w w') := fun w' hw => hw.below (below_then HBW.out HBC.out) (by omega)
      clear hbig
      go_wp2_with fail
      refine bodyPost_ret (v := .agg #[.int .i64 2, .int .i64 0]) (by simp [results, Tryz.results42, go_sem, *]) rfl (.inl ⟨HBIG.out, rfl, HE.out _ (by repeat (first | with_reducible exact Writes.refl _ _ _ | with_reducible refine Writes.setCell ?_ (by first | omega | (simp <;> omega)) (by first | omega | (simp <;> omega)) _))⟩)
    · have HLE : Hid (s.g.n1 + s.g.n2 + 13 ≤ 4000) := hle
      have HWL : Hid (Wk (lgS s (rb k t key hd old hs nw bk)) n xs lo (colr col l h 3) B ((wc.setCell ⟨B, 4, none⟩ (.slice x1 s.g.n1 d1)).setCell ⟨B, 5, none⟩ (.slice x2 (s.g.n2 + 13) d2))) := by
        have hl := HWC.out.lt
        have hl0 := HWK.out.lt
        have hw2 := HWS.out
        exact Wk.log HWC.out (by have := hl0.2.1; have := hl0.1; omega) l2 l3 (fun x k1 k2 => ⟨by
          by_cases e : col x = 0
          · exact e
          · have := (hl0.2.2 x e).2; omega, by have := hl0.2.1; omega⟩) hog
      have HLH : Hid (W.heap.size ≤ l ∧ l ≤ h ∧ h ≤ wc.heap.size) := ⟨l1, l2, l3⟩
      have HQ4 : Hid (∃ u4 u5, wc.cell? ⟨B, 4, none⟩ = some u4 ∧ wc.cell? ⟨B, 5, none⟩ = some u5) := by
        obtain ⟨b0, e0, b1, e1, b2, e2, b3, e3, b4, e4, b5, e5, b6, e6, _, _, _, ⟨_, _, _, _, r4, r5, _⟩, _⟩ := HWC.out
        exact ⟨_, _, r4, r5⟩
      obtain ⟨u4, u5, r4, r5⟩ := HQ4.out
      have bf : ∀ i, wc.frozen? ⟨B, i, none⟩ = false := fun i => (HBC.out.frozen (p := ⟨B, i, none⟩) (by have := HWS.out; have := HBL.out; show B < W.heap.size; omega)).trans (HFW.out i)
      clear hle hog l1 l2 l3 l4
      go_upto_region 5 with fail
      obtain ⟨V, hV⟩ : ∃ x, x = (wc.setCell ⟨B, 4, none⟩ (.slice x1 s.g.n1 d1)).setCell ⟨B, 5, none⟩ (.slice x2 (s.g.n2 + 13) d2) := ⟨_, rfl⟩
      have HVW : Hid (Writes B (B + 1) wc V) := by rw [hV]; exact ((Writes.refl _ _ _).setCell (p := ⟨B, 4, none⟩) (Nat.le_refl _) (Nat.lt_succ_self _) _).setCell (p := ⟨B, 5, none⟩) (Nat.le_refl _) (Nat.lt_succ_self _) _
      have HVS : Hid (V.heap.size = wc.heap.size) := by rw [hV]; simp [Hid, World.setCell]
      have vf : ∀ i, V.frozen? ⟨B, i, none⟩ = false := fun i => by rw [hV, World.frozen?_setCell, World.frozen?_setCell]; exact bf i
      have V8 : V.cell? ⟨B, 8, none⟩ = some (.slice ra n rc) := by
        have := cell_below (cell_below HRA.out HBW.out) HBC.out
        rw [hV]
        simp [go_sem, this]
      rw [← hV] at HWL ⊢
      have HV8 : Hid (V.cell? ⟨B, 8, none⟩ = some (.slice ra n rc)) := V8
      clear hV r4 r5 HQ4 bf q0 q1 q2 q3
      have VB : Box8 V w.heap.size k t key hd old hs nw bk := box8_block (box8_below HB8.out HBC.out) (HVW.out.block _ (by have := HBC.out.size; have := HWS.out; omega) (.inr (by have := HBL.out; omega)))
      have HVN : Hid (Box2 V (w.heap.size + 1) (.int .i64 0) (.int .i64 0)) := (show Box2 wc (w.heap.size + 1) (.int .i64 0) (.int .i64 0) from ⟨z0, z1⟩).writes HVW.out (.inr (by have := HBL.out; omega))
      have HVF : Hid (∀ i, V.frozen? ⟨w.heap.size + 1, i, none⟩ = false) := fun i => (frozB (HVW.out.block _ (by have := HBC.out.size; have := HWS.out; omega) (.inr (by have := HBL.out; omega)))).trans (zf i)
      have HVR : Hid (V.ownsRow lo 67 8 (.slice ra n rc) n xs) := ownsRow_of HRO.out fun q hq => (HVW.out.block q (by have := (HRO.out.lt q hq).2; have := HBC.out.size; have := HWS.out; omega) (by have := HR6.out q hq; omega)).trans ((HBC.out.block q (by have := (HRO.out.lt q hq).2; have := HWS.out; omega)).trans (HBW.out.block q (HRO.out.lt q hq).2))
      have HLO : Hid (lo ≤ V.heap.size) := by have := HWK.out.lt; have := HBC.out.size; have := HWS.out; have := HVS.out; show lo ≤ V.heap.size; omega
      clear z0 z1 zf
      refine wp_region_E 10 (S := fun u => u.cell? ⟨B, 8, none⟩ = some (.slice ra n rc) ∧ Box8 u w.heap.size k t key hd old hs nw bk ∧ ∀ i, u.frozen? ⟨B, i, none⟩ = false) (by kernel_rfl) ⟨V8, by obtain ⟨r0, r1, r2, r3, r4, r5, r6, r7⟩ := VB; exact ⟨r0, r1, r2, r3, r4, r5, r6, r7⟩, vf⟩ (fun hS => ?_)
      obtain ⟨y0, hy0⟩ : ∃ y, y = V.drew := ⟨_, rfl⟩
      have HVY : Hid (Below V.heap.size V y0) := by rw [hy0]; exact (Below.refl _ _).drew
      rw [← hy0] at hS ⊢
      clear hy0 V8 VB vf
      refine wpAnyE_takeD (L := 10) (i := 0) (v := .pointer (some ⟨B, 0, none⟩)) (some 29) rfl rfl (by kernel_rfl) (by kernel_rfl) (by kernel_rfl) (by kernel_rfl) (fun _ _ _ h => h) (Or.inl ⟨by kernel_rfl, by intro u hSu; go_simp⟩) hS ?_
      try simp only [Act.put, List.setIfInBounds_toArray, List.set_cons_zero, List.set_cons_succ]
      refine wpAnyE_takeD (L := 10) (i := 1) (v := .pointer (some ⟨B, 0, none⟩)) (some 30) rfl rfl (by kernel_rfl) (by kernel_rfl) (by kernel_rfl) (by kernel_rfl) (fun _ _ _ h => h) (Or.inl ⟨by kernel_rfl, by intro u hSu; go_simp⟩) hS ?_
      try simp only [Act.put, List.setIfInBounds_toArray, List.set_cons_zero, List.set_cons_succ]
      refine wpAnyE_takeD (L := 10) (i := 2) (v := .pointer (some ⟨B, 0, none⟩)) (some 31) rfl rfl (by kernel_rfl) (by kernel_rfl) (by kernel_rfl) (by kernel_rfl) (fun _ _ _ h => h) (Or.inl ⟨by kernel_rfl, by intro u hSu; go_simp⟩) hS ?_
      try simp only [Act.put, List.setIfInBounds_toArray, List.set_cons_zero, List.set_cons_succ]
      refine wpAnyE_takeD (L := 10) (i := 3) (v := .pointer (some ⟨B, 8, none⟩)) (some 32) rfl rfl (by kernel_rfl) (by kernel_rfl) (by kernel_rfl) (by kernel_rfl) (fun _ _ _ h => h) (Or.inl ⟨by kernel_rfl, by intro u hSu; go_simp⟩) hS ?_
      try simp only [Act.put, List.setIfInBounds_toArray, List.set_cons_zero, List.set_cons_succ]
      refine wpAnyE_takeD (L := 10) (i := 4) (v := .slice ra n rc) (some 33) rfl rfl (by kernel_rfl) (by kernel_rfl) (by kernel_rfl) (by kernel_rfl) (fun _ _ _ h => h) (Or.inl ⟨by kernel_rfl, by intro u hSu; obtain ⟨h8, -, -⟩ := hSu; go_simp⟩) hS ?_
      try simp only [Act.put, List.setIfInBounds_toArray, List.set_cons_zero, List.set_cons_succ]
      refine wpAnyE_takeD (L := 10) (i := 5) (v := .agg #[.int .i64 k, .int .i64 t, .int .i64 key, .bool hd, .int .i64 old, .bool hs, .int .i64 nw, .int .i64 bk]) (some 34) rfl rfl (by kernel_rfl) (by kernel_rfl) (by kernel_rfl) (by kernel_rfl) (fun _ _ _ h => h) (Or.inl ⟨by kernel_rfl, by intro u hSu; obtain ⟨-, ⟨r0, r1, r2, r3, r4, r5, r6, r7⟩, -⟩ := hSu; go_simp⟩) hS ?_
      try simp only [Act.put, List.setIfInBounds_toArray, List.set_cons_zero, List.set_cons_succ]
      refine wpAnyE_ready (rs := [6]) (by kernel_rfl) (by simp) ?_
      refine AllReadyE.cons rfl (fun K9 hK => ?_) AllReadyE.nil
      refine step_bsRec _ (some 35) rfl rfl _ rfl k t key hd old hs nw bk rfl (fun X u1 hX hXl hbu => ?_)
      have hc1 : u1.cell? ⟨B, 8, none⟩ = some (.slice ra n rc) ∧ Box8 u1 w.heap.size k t key hd old hs nw bk ∧ ∀ i, u1.frozen? ⟨B, i, none⟩ = false := ⟨cell_below hS.1 hbu, box8_below hS.2.1 hbu, fun i => (hbu.frozen (p := ⟨B, i, none⟩) (show B < y0.heap.size from Go.block_lt_of_cell hS.1)).trans (hS.2.2 i)⟩
      have HBU : Hid (Below y0.heap.size y0 u1) := hbu
      have HXB : Hid (Box8 u1 X k t key hd old hs nw bk) := hX
      clear hX hXl hbu
      refine hK.out _ _ (hc1) (fun hS9 => ?_)
      try simp only [Act.put, List.setIfInBounds_toArray, List.set_cons_zero, List.set_cons_succ]
      clear hK K9 hS
      have hS := hS9
      clear hS9
      have HUR : Hid (u1.ownsRow lo 67 8 (.slice ra n rc) n xs) := ownsRow_of HVR.out fun q hq => (HBU.out.block q (by have := (HVR.out.lt q hq).2; have := HVY.out.size; omega)).trans (HVY.out.block q (HVR.out.lt q hq).2)
      have HLU : Hid (lo ≤ u1.heap.size) := by have := HLO.out; have := HVY.out.size; have := HBU.out.size; show lo ≤ u1.heap.size; omega
      refine wpAnyE_ready (rs := [7]) (by kernel_rfl) (by simp) ?_
      refine AllReadyE.cons rfl (fun K9 hK => ?_) AllReadyE.nil
      refine step_appRec _ (some 36) rfl rfl _ _ rfl lo (.slice ra n rc) n xs rfl HUR.out X 1 k t key hd old hs nw bk rfl HXB.out (by omega) HLU.out (fun g cap u2 ho2 hg2 hl2 => ?_)
      have hBu : B < u1.heap.size := Go.block_lt_of_cell hS.1
      have eB : u2.heap[B]? = u1.heap[B]? := hg2.block B hBu (fun e => HR6.out B e.symm rfl)
      have eN : u2.heap[w.heap.size]? = u1.heap[w.heap.size]? := hg2.block _ (by have := HWS.out; have := HBC.out.size; have := HVS.out; have := HVY.out.size; have := HBU.out.size; omega) (fun e => by have := (HRO.out.lt _ e.symm).2; omega)
      have hc2 : u2.cell? ⟨B, 8, none⟩ = some (.slice ra n rc) ∧ Box8 u2 w.heap.size k t key hd old hs nw bk ∧ ∀ i, u2.frozen? ⟨B, i, none⟩ = false := ⟨(cellB eB).trans hS.1, box8_block hS.2.1 eN, fun i => (frozB eB).trans (hS.2.2 i)⟩
      have HG2 : Hid (u1.grownBy u2 (Value.slice ra n rc).ownBlock) := hg2
      have HO2 : Hid (u2.ownsRow lo 67 8 (.slice (some ⟨g, 0, none⟩) (n + 1) cap) (n + 1) (xs ++ rv8 k t key hd old hs nw bk)) := ho2
      have HL2 : Hid ((Value.slice ra n rc).ownBlock = some g ∨ g = u1.heap.size) := hl2
      clear ho2 hg2 hl2 eB eN hBu
      refine hK.out _ _ (hc2) (fun hS9 => ?_)
      try simp only [Act.put, List.setIfInBounds_toArray, List.set_cons_zero, List.set_cons_succ]
      clear hK K9 hS
      have hS := hS9
      clear hS9
      refine wpAnyE_ready (rs := [8]) (by kernel_rfl) (by simp) ?_
      refine AllReadyE.cons rfl (fun K9 hK => ?_) AllReadyE.nil
      go_simp
      refine hK.out _ _ (hS) (fun hS9 => ?_)
      try simp only [Act.put, List.setIfInBounds_toArray, List.set_cons_zero, List.set_cons_succ]
      clear hK K9 hS
      have hS := hS9
      clear hS9
      refine wpAnyE_ready (rs := [9]) (by kernel_rfl) (by simp) ?_
      refine AllReadyE.cons rfl (fun K9 hK => ?_) AllReadyE.nil
      go_simp
      refine hK.out _ _ (hS) (fun hS9 => ?_)
      try simp only [Act.put, List.setIfInBounds_toArray, List.set_cons_zero, List.set_cons_succ]
      clear hK K9 hS
      have hS := hS9
      clear hS9
      obtain ⟨s8, s8b, s8f⟩ := hS
      have hS := And.intro s8 (And.intro s8b s8f)
      refine wpAnyE_ready (rs := [10]) (by kernel_rfl) (by simp) ?_
      refine AllReadyE.last rfl (fun K9 hK => ?_)
      go_simp
      refine hK.out _ _ ?_
      try simp only [Act.put, List.setIfInBounds_toArray, List.set_cons_zero, List.set_cons_succ]
      clear hK K9 hS
      refine wpAnyE_done (by kernel_rfl) ?_ _
      go_simp
      have HFIN : Hid (Wk (lgS s (rb k t key hd old hs nw bk)) (n + 1) (xs ++ rv8 k t key hd old hs nw bk) lo (colr (colr col l h 3) V.heap.size u2.heap.size 6) B (u2.setCell ⟨B, 8, none⟩ (.slice (some ⟨g, 0, none⟩) (n + 1) cap)) ∧ WkF (colr col l h 3) B V (u2.setCell ⟨B, 8, none⟩ (.slice (some ⟨g, 0, none⟩) (n + 1) cap))) := Wk.recs HWL.out HV8.out (below_then HVY.out HBU.out) HG2.out HO2.out HL2.out
      obtain ⟨Z, hZ⟩ : ∃ x, x = u2.setCell ⟨B, 8, none⟩ (.slice (some ⟨g, 0, none⟩) (n + 1) cap) := ⟨_, rfl⟩
      rw [← hZ] at HFIN ⊢
      have z8 : Z.cell? ⟨B, 8, none⟩ = some (.slice (some ⟨g, 0, none⟩) (n + 1) cap) := by rw [hZ]; simp [go_sem, s8]
      have eZ : Z.heap[w.heap.size + 1]? = V.heap[w.heap.size + 1]? := HFIN.out.2.block _ (by have := HBC.out.size; have := HWS.out; have := HVS.out; omega) (fun c => by
        have hk3 := HWK.out.lt.2.2
        have := HBL.out
        have := HLH.out
        have := HWS.out
        rcases c with c | c
        · omega
        · rw [colr_old (by omega)] at c
          have := (hk3 _ c).2
          omega)
      have za := HVN.out
      obtain ⟨za0, za1⟩ := za
      have z0 : Z.cell? ⟨w.heap.size + 1, 0, none⟩ = some (.int .i64 0) := (cellB eZ).trans za0
      have z1 : Z.cell? ⟨w.heap.size + 1, 1, none⟩ = some (.int .i64 0) := (cellB eZ).trans za1
      have zf : ∀ i, Z.frozen? ⟨w.heap.size + 1, i, none⟩ = false := fun i => (frozB eZ).trans (HVF.out i)
      have HEND : Hid (∀ Z', Writes (w.heap.size + 1) (w.heap.size + 2) Z Z' → ∃ col', (∀ x, x < w.heap.size → col' x ≠ 0 → col x ≠ 0) ∧ WkF col B w Z' ∧ Wk (lgS s (rb k t key hd old hs nw bk)) (n + 1) (xs ++ rv8 k t key hd old hs nw bk) lo col' B Z') := tl_end HWK.out HBW.out HWS.out HBC.out HVW.out HVS.out HLH.out HFIN.out.1 HFIN.out.2
      clear hZ eZ za0 za1 s8 s8b s8f HFIN
      go_wp2_with fail
      refine bodyPost_ret (v := .agg #[.int .i64 0, .int .i64 ((n + 1 : Nat) : Int)]) (by simp [results, Tryz.results42, go_sem, *]) rfl (.inr ⟨HLE.out, rfl, HEND.out _ (by repeat (first | with_reducible exact Writes.refl _ _ _ | with_reducible refine Writes.setCell ?_ (by first | omega | (simp <;> omega)) (by first | omega | (simp <;> omega)) _))⟩)
end Go.Proofs.YtannmobmmnoegaaGreat
