/- spec.BeginStore. -/
import Derived.Test.YtannmobmmnoegaaGreatQZdb
import Derived.Test.YtannmobmmnoegaaGreatQZec
import Derived.Test.YtannmobmmnoegaaGreatQZed
namespace Go.Proofs.YtannmobmmnoegaaGreat
open Go.ChangeShapes Go.WideShapes Go.ChangeAt Go.RowKit Go.Deep Go.Joins
set_option linter.unusedVariables false
set_option maxRecDepth 20000

/-- The box of an answer that is not written yet. -/
def ZR (w : World) (B : Nat) : Prop := (w.cell? ⟨B, 0, none⟩ = some (.int .i64 0) ∧ w.cell? ⟨B, 1, none⟩ = some (.int .i64 0) ∧ w.cell? ⟨B, 2, none⟩ = some (.int .i64 0) ∧ w.cell? ⟨B, 3, none⟩ = some (.slice none 0 0) ∧ w.cell? ⟨B, 4, none⟩ = some (.slice none 0 0) ∧ w.cell? ⟨B, 5, none⟩ = some (.slice none 0 0) ∧ w.cell? ⟨B, 6, none⟩ = some (.slice none 0 0) ∧ w.cell? ⟨B, 7, none⟩ = some (.slice none 0 0) ∧ w.cell? ⟨B, 8, none⟩ = some (.slice none 0 0) ∧ w.cell? ⟨B, 9, none⟩ = some (.slice none 0 0)) ∧ ∀ i, w.frozen? ⟨B, i, none⟩ = false
theorem ZR.below {w w' : World} {B : Nat} (h : ZR w B) (hb : Below w.heap.size w w') : ZR w' B := by
  obtain ⟨⟨r0, r1, r2, r3, r4, r5, r6, r7, r8, r9⟩, rf⟩ := h
  exact ⟨⟨cell_below r0 hb, cell_below r1 hb, cell_below r2 hb, cell_below r3 hb, cell_below r4 hb, cell_below r5 hb, cell_below r6 hb, cell_below r7 hb, cell_below r8 hb, cell_below r9 hb⟩, fun i => (hb.frozen (p := ⟨B, i, none⟩) (show B < w.heap.size from Go.block_lt_of_cell r0)).trans (rf i)⟩
theorem ZR.new (w : World) (ty : TypeId) : ZR (w.alloc (.cells #[.int .i64 0, .int .i64 0, .int .i64 0, .slice none 0 0, .slice none 0 0, .slice none 0 0, .slice none 0 0, .slice none 0 0, .slice none 0 0, .slice none 0 0] ty)) w.heap.size := by
  simp [ZR, go_sem]
theorem ZR.lt {w : World} {B : Nat} (h : ZR w B) : B < w.heap.size := Go.block_lt_of_cell h.1.1
/-- The store behind a begin. -/
def bgS (t : Sto) : Sto := ⟨t.nx + 1, t.pn, t.pT, t.d, apR t.g (rb 1 t.nx 0 false 0 false 0 0), t.hn, t.hK, t.hV, t.on + 1, apI t.oF t.on t.nx⟩
def bgC (t : Sto) : Int := if stF t = 0 then (if t.nx = 999 ∨ 20 ≤ t.on then 2 else (if t.g.n1 + t.g.n2 + 13 ≤ 4000 then 0 else 2)) else stF t
def bgV (t : Sto) : Int := if bgC t = 0 then t.nx else 0
def bgT (t : Sto) : Sto := if bgC t = 0 then bgS t else zSt
theorem bg_bad {t : Sto} {c : Int} (h : bgC t = c) (h0 : c ≠ 0) : bgV t = 0 ∧ bgT t = zSt := ⟨if_neg (by rw [h]; exact h0), if_neg (by rw [h]; exact h0)⟩
theorem bg_good {t : Sto} (h : bgC t = 0) : bgV t = t.nx ∧ bgT t = bgS t := ⟨if_pos h, if_pos h⟩
/-- A store whose log and whose open ones are made anew. -/
theorem OwnS.logOpen {w : World} {lo hi l h l' h' : Nat} {a0 a1 a2 a3 a4 a5 a6 b3 b4 b6 : Option Addr} {t : Sto} {g : Lo} {n : Nat} {F : Nat → Int} (nx : Int) (H : OwnS w lo hi a0 a1 a2 a3 a4 a5 a6 t) (hlo : lo ≤ hi) (h1 : hi ≤ l) (hlh : l ≤ h) (hg : OwnG w l h b3 b4 g) (h2 : h ≤ l') (ho : OwnI w l' h' b6 n F) :
    OwnS w lo w.heap.size a0 a1 a2 b3 b4 a5 b6 ⟨nx, t.pn, t.pT, t.d, g, t.hn, t.hK, t.hV, n, F⟩ := by
  obtain ⟨h0, col, hc, p1, ⟨l2, u2, g2, p2⟩, -, ⟨l4, u4, g4, p4⟩, -⟩ := H
  have hh := hg.1
  have hh' := ho.1
  have old : ∀ x j, j ≠ 0 → col x = j → colr (colr col l h 3) l' h' 5 x = j := fun x j hj e => by
    have hx := (hc x (by omega)).2
    rw [colr_old (by omega), colr_old (by omega)]
    exact e
  refine ⟨Nat.le_refl _, colr (colr col l h 3) l' h' 5, fun x hx => ?_, p1.mono fun x hx => old x 1 (by omega) hx, ⟨l2, u2, fun x x1 x2 => old x 2 (by omega) (g2 x x1 x2), p2⟩, ⟨l, h, fun x x1 x2 => by rw [colr_old (by omega)]; exact colr_new x1 x2, hg⟩, ⟨l4, u4, fun x x1 x2 => old x 4 (by omega) (g4 x x1 x2), p4⟩, ⟨l', h', fun x x1 x2 => colr_new x1 x2, ho⟩⟩
  by_cases q : l' ≤ x ∧ x < h'
  · omega
  · unfold colr at hx
    rw [if_neg q] at hx
    by_cases q2 : l ≤ x ∧ x < h
    · omega
    · rw [if_neg q2] at hx
      have := hc x hx
      omega
theorem goodR_begin {x : Int} (h : 1 ≤ x ∧ x ≤ 999) : GoodR 1 x 0 false 0 false 0 0 := by
  refine goodR_of 1 x 0 false 0 false 0 0 ?_
  simp [rf, rng, frm, inB, txb, tnk]
  omega
set_option maxHeartbeats 16000000 in
theorem specBg_any (t : Sto) (a0 : Option Addr) (c0 : Nat) (a1 : Option Addr) (c1 : Nat) (a2 : Option Addr) (c2 : Nat) (a3 : Option Addr) (c3 : Nat) (a4 : Option Addr) (c4 : Nat) (a5 : Option Addr) (c5 : Nat) (a6 : Option Addr) (c6 : Nat) (w : World) (hS : SmSt t) (hby : LogByt t.g) (h : InSt w a0 a1 a2 a3 a4 a5 a6 t) :
    Calls Tryz.prog 9 #[.agg #[.int .i64 t.nx, .slice a0 t.pn c0, .slice a1 t.d.n c1, .slice a2 t.d.m c2, .slice a3 t.g.n1 c3, .slice a4 t.g.n2 c4, .slice a5 t.hn c5, .slice a6 t.on c6]] w (SRes (bgC t) (bgV t) (bgT t) w) := by
  have HA : Hid (InSt w a0 a1 a2 a3 a4 a5 a6 t) := h
  have HS : Hid (SmSt t) := hS
  have HC0 : Hid (bgC t = if stF t = 0 then (if t.nx = 999 ∨ 20 ≤ t.on then 2 else (if t.g.n1 + t.g.n2 + 13 ≤ 4000 then 0 else 2)) else stF t) := rfl
  have HBD : Hid (∀ c, bgC t = c → c ≠ 0 → bgV t = 0 ∧ bgT t = zSt) := fun c h h0 => bg_bad h h0
  have HGO : Hid (bgC t = 0 → bgV t = t.nx ∧ bgT t = bgS t) := fun h => bg_good h
  have hb0 : ∀ o1 o2, Below w.heap.size w ((w.alloc o1).alloc o2) := fun o1 o2 => (((Below.refl _ _).alloc (Nat.le_refl _) _).alloc (by simp) _)
  generalize bgC t = C at *
  generalize bgV t = V at *
  generalize bgT t = TT at *
  clear h
  go_enter Tryz.func9, Tryz.ntmps9
  go_wp2_with fail
  refine (l12Fault_any t w.heap.size a0 c0 a1 c1 a2 c2 a3 c3 a4 c4 a5 c5 a6 c6 _ hS hby ((BoxS.new w _ _ _ _ _ _ _ _ _).alloc _) (HA.out.below (hb0 _ _))).mono ?_
  rintro e w1 ⟨rfl, hb⟩
  have HB : Hid (Below w.heap.size w w1) := below_then (hb0 _ _) hb
  have HX : Hid (BoxS w1 w.heap.size (.int .i64 t.nx) (.slice a0 t.pn c0) (.slice a1 t.d.n c1) (.slice a2 t.d.m c2) (.slice a3 t.g.n1 c3) (.slice a4 t.g.n2 c4) (.slice a5 t.hn c5) (.slice a6 t.on c6)) := ((BoxS.new w _ _ _ _ _ _ _ _ _).alloc _).below hb
  have HZ : Hid (ZR w1 (w.heap.size + 1)) := by
    have := (ZR.new (w.alloc (.cells #[.int .i64 t.nx, .slice a0 t.pn c0, .slice a1 t.d.n c1, .slice a2 t.d.m c2, .slice a3 t.g.n1 c3, .slice a4 t.g.n2 c4, .slice a5 t.hn c5, .slice a6 t.on c6] 42)) 44).below hb
    rw [World.size_alloc] at this
    exact this
  replace HA : Hid (InSt w1 a0 a1 a2 a3 a4 a5 a6 t) := HA.out.below HB.out
  have HZ0 : Hid (w.heap.size + 1 < w1.heap.size) := HZ.out.lt
  clear hb hb0 hS
  by_cases h0 : stF t = 0
  case neg =>
    have HC : Hid (C = stF t) := HC0.out.trans (if_neg h0)
    have HV : Hid (V = 0) := (HBD.out _ HC.out h0).1
    have HT : Hid (TT = zSt) := (HBD.out _ HC.out h0).2
    generalize stF t = c at *
    have h0' : (c != 0) = true := by simp [h0]
    clear h0 HC0
    go_wp2_with fail
    refine (l12Bad_any c _).mono ?_
    rintro e w2 ⟨rfl, hb2⟩
    obtain ⟨⟨r0, r1, r2, r3, r4, r5, r6, r7, r8, r9⟩, rf⟩ := HZ.out.below hb2
    have HB9 : Hid (Below w.heap.size w w2) := below_then HB.out hb2
    have hl9 : w.heap.size + 1 < w2.heap.size := Go.block_lt_of_cell r0
    clear hb2
    go_wp2_with fail
    refine bodyPost_ret (v := .agg #[.int .i64 c, .int .i64 0, .int .i64 0, .slice none 0 0, .slice none 0 0, .slice none 0 0, .slice none 0 0, .slice none 0 0, .slice none 0 0, .slice none 0 0]) (by simp [results, Tryz.results9, go_sem, *]) rfl ?_
    rw [HC.out, HV.out, HT.out]
    refine sres_bad ?_
    repeat (first | with_reducible exact HB9.out | refine Below.setCell ?_ (by first | omega | (simp <;> omega)) _)

  replace HC0 : Hid (C = _) := HC0.out.trans (if_pos h0)
  have HGD : Hid (GoodSt t) := stF_good h0
  rw [h0]
  clear h0
  obtain ⟨x0, x1, x2, x3, x4, x5, x6, x7⟩ := HX.out
  by_cases k1 : t.nx = 999
  case pos =>
    have HC : Hid (C = 2) := HC0.out.trans (if_pos (.inl k1))
    have HV : Hid (V = 0) := (HBD.out _ HC.out (by omega)).1
    have HT : Hid (TT = zSt) := (HBD.out _ HC.out (by omega)).2
    have k1' : (t.nx == 999) = true := by simp [k1]
    clear k1 HC0
    go_wp2_with fail
    refine (l12Bad_any 2 _).mono ?_
    rintro e w2 ⟨rfl, hb2⟩
    obtain ⟨⟨r0, r1, r2, r3, r4, r5, r6, r7, r8, r9⟩, rf⟩ := HZ.out.below hb2
    have HB9 : Hid (Below w.heap.size w w2) := below_then HB.out hb2
    have hl9 : w.heap.size + 1 < w2.heap.size := Go.block_lt_of_cell r0
    clear hb2
    go_wp2_with fail
    refine bodyPost_ret (v := .agg #[.int .i64 2, .int .i64 0, .int .i64 0, .slice none 0 0, .slice none 0 0, .slice none 0 0, .slice none 0 0, .slice none 0 0, .slice none 0 0, .slice none 0 0]) (by simp [results, Tryz.results9, go_sem, *]) rfl ?_
    rw [HC.out, HV.out, HT.out]
    refine sres_bad ?_
    repeat (first | with_reducible exact HB9.out | refine Below.setCell ?_ (by first | omega | (simp <;> omega)) _)

  have k1' : (t.nx == 999) = false := by simp [k1]
  by_cases k2 : 20 ≤ t.on
  case pos =>
    have HC : Hid (C = 2) := HC0.out.trans (if_pos (.inr k2))
    have HV : Hid (V = 0) := (HBD.out _ HC.out (by omega)).1
    have HT : Hid (TT = zSt) := (HBD.out _ HC.out (by omega)).2
    have k2' : (20 : Int) ≤ (t.on : Int) := by omega
    clear k1 k2 HC0
    go_wp2_with fail
    refine (l12Bad_any 2 _).mono ?_
    rintro e w2 ⟨rfl, hb2⟩
    obtain ⟨⟨r0, r1, r2, r3, r4, r5, r6, r7, r8, r9⟩, rf⟩ := HZ.out.below hb2
    have HB9 : Hid (Below w.heap.size w w2) := below_then HB.out hb2
    have hl9 : w.heap.size + 1 < w2.heap.size := Go.block_lt_of_cell r0
    clear hb2
    go_wp2_with fail
    refine bodyPost_ret (v := .agg #[.int .i64 2, .int .i64 0, .int .i64 0, .slice none 0 0, .slice none 0 0, .slice none 0 0, .slice none 0 0, .slice none 0 0, .slice none 0 0, .slice none 0 0]) (by simp [results, Tryz.results9, go_sem, *]) rfl ?_
    rw [HC.out, HV.out, HT.out]
    refine sres_bad ?_
    repeat (first | with_reducible exact HB9.out | refine Below.setCell ?_ (by first | omega | (simp <;> omega)) _)

  have k2' : ¬ ((20 : Int) ≤ (t.on : Int)) := by omega
  replace HC0 : Hid (C = _) := HC0.out.trans (if_neg (by omega))
  clear k1
  go_wp2_with fail
  refine (l12Copy_any t a0 c0 a1 c1 a2 c2 a3 c3 a4 c4 a5 c5 a6 c6 w1 HS.out HGD.out HA.out).mono ?_
  rintro e w2 ⟨b0, e0, b1, e1, b2, e2, b3, e3, b4, e4, b5, e5, b6, e6, rfl, hb2, hown, hc0, hc5, hc6⟩
  obtain ⟨W3, hW3⟩ : ∃ x, x = w2.alloc (.cells #[.int .i64 t.nx, .slice b0 t.pn e0, .slice b1 t.d.n e1, .slice b2 t.d.m e2, .slice b3 t.g.n1 e3, .slice b4 t.g.n2 e4, .slice b5 t.hn e5, .slice b6 t.on e6] 42) := ⟨_, rfl⟩
  have hb3 : Below w2.heap.size w2 W3 := by rw [hW3]; exact below_new _ _
  have HBX : Hid (BoxS W3 w2.heap.size (.int .i64 t.nx) (.slice b0 t.pn e0) (.slice b1 t.d.n e1) (.slice b2 t.d.m e2) (.slice b3 t.g.n1 e3) (.slice b4 t.g.n2 e4) (.slice b5 t.hn e5) (.slice b6 t.on e6)) := by rw [hW3]; exact BoxS.new _ _ _ _ _ _ _ _ _ _
  have HFX : Hid (∀ i, W3.frozen? ⟨w2.heap.size, i, none⟩ = false) := fun i => by rw [hW3]; simp [go_sem]
  have hs3 : W3.heap.size = w2.heap.size + 1 := by rw [hW3]; simp
  have HOW : Hid (OwnS W3 w1.heap.size w2.heap.size b0 b1 b2 b3 b4 b5 b6 t) := hown.below hb3
  have HCP : Hid (t.on ≤ e6) := hc6
  have HB3 : Hid (Below w1.heap.size w1 W3) := below_then hb2 hb3
  have hs2 := hb2.size
  have h00 : W3.cell? ⟨w.heap.size, 0, none⟩ = some (.int .i64 t.nx) := cell_below x0 HB3.out
  clear hown hb2 hb3 hc0 hc5 hc6 x0 x1 x2 x3 x4 x5 x6 x7
  go_upto_region 7 with fail
  rw [← hW3]
  clear hW3
  have HRR : Hid (GoodR 1 t.nx 0 false 0 false 0 0) := goodR_begin HGD.out.nx
  have HLE : Hid (t.g.n1 + t.g.n2 ≤ 4000) := (lgC_zero HGD.out.lg).1
  go_wp2_with fail
  refine (l12Log_any t.g w2.heap.size _ _ _ _ _ _ b3 b4 e3 e4 1 t.nx 0 false 0 false 0 0 W3 HLE.out HRR.out HBX.out HFX.out HOW.out.at.2.2.1).mono ?_
  rintro e w4 (⟨hgt, rfl, hb4⟩ | ⟨hle, rfl, w0, y1, f1, y2, f2, hb4, hog, rfl⟩)
  · have HC : Hid (C = 2) := HC0.out.trans (if_neg (by omega))
    have HV : Hid (V = 0) := (HBD.out _ HC.out (by omega)).1
    have HT : Hid (TT = zSt) := (HBD.out _ HC.out (by omega)).2
    have HB4 : Hid (Below w1.heap.size w1 w4) := below_then HB3.out hb4
    replace HZ : Hid (ZR w4 (w.heap.size + 1)) := HZ.out.below HB4.out
    replace HB : Hid (Below w.heap.size w w4) := below_then HB.out HB4.out
    clear hb4 HC0
    go_wp2_with fail
    refine (l12Bad_any 2 _).mono ?_
    rintro e w5 ⟨rfl, hb5⟩
    obtain ⟨⟨r0, r1, r2, r3, r4, r5, r6, r7, r8, r9⟩, rf⟩ := HZ.out.below hb5
    have HB9 : Hid (Below w.heap.size w w5) := below_then HB.out hb5
    have hl9 : w.heap.size + 1 < w5.heap.size := Go.block_lt_of_cell r0
    clear hb5
    go_wp2_with fail
    refine bodyPost_ret (v := .agg #[.int .i64 2, .int .i64 0, .int .i64 0, .slice none 0 0, .slice none 0 0, .slice none 0 0, .slice none 0 0, .slice none 0 0, .slice none 0 0, .slice none 0 0]) (by simp [results, Tryz.results9, go_sem, *]) rfl ?_
    rw [HC.out, HV.out, HT.out]
    refine sres_bad ?_
    repeat (first | with_reducible exact HB9.out | refine Below.setCell ?_ (by first | omega | (simp <;> omega)) _)

  have HC : Hid (C = 0) := HC0.out.trans (if_pos (by omega))
  have HV : Hid (V = t.nx) := (HGO.out HC.out).1
  have HT : Hid (TT = bgS t) := (HGO.out HC.out).2
  clear HC0 HBD HGO
  obtain ⟨W5, hW5⟩ : ∃ x, x = (w0.setCell ⟨w2.heap.size, 4, none⟩ (.slice y1 t.g.n1 f1)).setCell ⟨w2.heap.size, 5, none⟩ (.slice y2 (t.g.n2 + 13) f2) := ⟨_, rfl⟩
  have hw5 : Writes w2.heap.size (w2.heap.size + 1) w0 W5 := by
    rw [hW5]
    exact ((Writes.refl _ _ _).setCell (p := ⟨w2.heap.size, 4, none⟩) (Nat.le_refl _) (Nat.lt_succ_self _) _).setCell (p := ⟨w2.heap.size, 5, none⟩) (Nat.le_refl _) (Nat.lt_succ_self _) _
  have hs5 : W5.heap.size = w0.heap.size := by rw [hW5]; simp [World.setCell]
  have hs4 := hb4.size
  have HB5 : Hid (Below w1.heap.size w1 W5) := hw5.below (below_then HB3.out hb4) hs2
  have HOW5 : Hid (OwnS W5 w1.heap.size w2.heap.size b0 b1 b2 b3 b4 b5 b6 t) := (HOW.out.below hb4).writes hw5 (.inl (Nat.le_refl _))
  have HOG5 : Hid (OwnG W5 W3.heap.size w0.heap.size y1 y2 (apR t.g (rb 1 t.nx 0 false 0 false 0 0))) := hog.writes hw5 (.inr (by omega))
  have HBX5 : Hid (BoxS W5 w2.heap.size (.int .i64 t.nx) (.slice b0 t.pn e0) (.slice b1 t.d.n e1) (.slice b2 t.d.m e2) (.slice y1 t.g.n1 f1) (.slice y2 (t.g.n2 + 13) f2) (.slice b5 t.hn e5) (.slice b6 t.on e6)) := by rw [hW5]; exact (HBX.out.below hb4).set45 _ _
  have HFX5 : Hid (∀ i, W5.frozen? ⟨w2.heap.size, i, none⟩ = false) := fun i => by
    rw [hW5, World.frozen?_setCell, World.frozen?_setCell]
    exact (hb4.frozen (p := ⟨w2.heap.size, i, none⟩) (by show w2.heap.size < W3.heap.size; omega)).trans (HFX.out i)
  rw [← hW5]
  clear hW5 hw5 hog h00
  replace HZ : Hid (ZR W5 (w.heap.size + 1)) := HZ.out.below HB5.out
  replace HX : Hid (BoxS W5 w.heap.size (.int .i64 t.nx) (.slice a0 t.pn c0) (.slice a1 t.d.n c1) (.slice a2 t.d.m c2) (.slice a3 t.g.n1 c3) (.slice a4 t.g.n2 c4) (.slice a5 t.hn c5) (.slice a6 t.on c6)) := HX.out.below HB5.out
  have hlt1 : w.heap.size + 1 < w1.heap.size := HZ0.out
  obtain ⟨x0, x1, x2, x3, x4, x5, x6, x7⟩ := HX.out
  obtain ⟨q0, q1, q2, q3, q4, q5, q6, q7⟩ := HBX5.out
  have HIO : Hid (IntsAt W5 b6 t.on t.oF) := HOW5.out.at.2.2.2.2
  have HOL : Hid (∀ i, i < t.on → t.oF i < t.nx) := fun i hi => by
    have := (onF_good (n := t.on) t.on 0 rfl HGD.out.on i (by omega) hi).1.2
    omega
  have HON : Hid (t.on ≤ 90000) := by have := onF_few HGD.out.nx.2 HGD.out.on; show _ ≤ _; omega
  go_wp2_with fail
  refine (l1Rise_last t.on t.oF b6 e6 t.nx W5 HON.out HCP.out HIO.out HOL.out).mono ?_
  rintro e w6 ⟨u6, rfl, hb6, ho6⟩
  obtain ⟨n6, d6, rfl, hd6, hoI⟩ := own_of_rowI ho6 (fun q hq => (ho6.lt q hq).2) (Nat.le_refl _)
  have hs6 := hb6.size
  have HFS : Hid (∀ w7, WritesP (fun q => q = w.heap.size + 1 ∨ q = w2.heap.size) w6 w7 → OwnS w7 w.heap.size w7.heap.size b0 b1 b2 y1 y2 b5 n6 (bgS t)) := fun w7 g1 => by
    have p1 := (HOW5.out.below hb6).keep g1.size fun q q1 q2 q3 => g1.block q q3 (by omega)
    have p2 := (HOG5.out.below hb6).keep g1.size fun q q1 q2 q3 => g1.block q q3 (by omega)
    have p3 := hoI.keep g1.size fun q q1 q2 q3 => g1.block q q3 (by omega)
    exact (p1.logOpen (t.nx + 1) hs2 (by omega) (by omega) p2 (by omega) p3).wide (by omega) (Nat.le_refl _) (Nat.le_refl _)
  have HB6 : Hid (Below w.heap.size w w6) := below_then HB.out (below_then HB5.out hb6)
  obtain ⟨q0, q1, q2, q3, q4, q5, q6, q7⟩ := HBX5.out.below hb6
  have qf : ∀ i, w6.frozen? ⟨w2.heap.size, i, none⟩ = false := fun i => (hb6.frozen (p := ⟨w2.heap.size, i, none⟩) (by show w2.heap.size < W5.heap.size; omega)).trans (HFX5.out i)
  obtain ⟨x0, x1, x2, x3, x4, x5, x6, x7⟩ := HX.out.below hb6
  obtain ⟨⟨r0, r1, r2, r3, r4, r5, r6, r7, r8, r9⟩, rf⟩ := HZ.out.below hb6
  have hne : ¬ (w.heap.size = w2.heap.size) := by omega
  have hne2 : ¬ (w.heap.size + 1 = w2.heap.size) := by omega
  have hne3 : ¬ (w2.heap.size = w.heap.size) := by omega
  have hne4 : ¬ (w2.heap.size = w.heap.size + 1) := by omega
  have HF : Hid (∀ w7, WritesP (fun q => q = w.heap.size + 1 ∨ q = w2.heap.size) w6 w7 → w7.heap.size = w6.heap.size → SRes 0 t.nx (bgS t) w (.returned (.agg #[.int .i64 0, .int .i64 t.nx, .int .i64 (t.nx + 1), .slice b0 t.pn e0, .slice b1 t.d.n e1, .slice b2 t.d.m e2, .slice y1 t.g.n1 f1, .slice y2 (t.g.n2 + 13) f2, .slice b5 t.hn e5, .slice n6 (t.on + 1) d6])) w7) := fun w7 g1 g2 => by
    refine ⟨b0, e0, b1, e1, b2, e2, y1, f1, y2, f2, b5, e5, n6, d6, rfl, ?_, ?_⟩
    · have h0 := HB6.out
      exact ⟨g1.os.trans h0.os, g1.tape.trans h0.tape, g1.output.trans h0.output, by have := h0.size; have := g1.size; omega, fun q hq => (g1.block q (by have := h0.size; omega) (by omega)).trans (h0.block q hq)⟩
    · exact HFS.out w7 g1
  clear HBX HFX HOW HBX5 HFX5 HOW5 HOG5 HX HZ hoI ho6 hb6 HIO
  have hnx1 : 1 ≤ t.nx := HGD.out.nx.1
  have hnx2 : t.nx ≤ 999 := HGD.out.nx.2
  go_wp2_with fail
  refine bodyPost_ret (v := .agg #[.int .i64 0, .int .i64 t.nx, .int .i64 (t.nx + 1), .slice b0 t.pn e0, .slice b1 t.d.n e1, .slice b2 t.d.m e2, .slice y1 t.g.n1 f1, .slice y2 (t.g.n2 + 13) f2, .slice b5 t.hn e5, .slice n6 (t.on + 1) d6]) (by simp [results, Tryz.results9, go_sem, *]) rfl ?_
  rw [HC.out, HV.out, HT.out]
  refine HF.out _ ?_ (by simp [World.setCell])
  repeat (first | with_reducible exact WritesP.refl _ _ | with_reducible refine WritesP.setCell ?_ (by first | exact Or.inl rfl | exact Or.inr rfl) _)
end Go.Proofs.YtannmobmmnoegaaGreat
