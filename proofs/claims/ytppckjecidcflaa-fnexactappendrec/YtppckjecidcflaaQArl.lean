/- FnExactAppendRec: the walk of the law. -/
import Derived.Test.YtppckjecidcflaaQAn
import Derived.Test.YtppckjecidcflaaQOpen
import Derived.Deep.DeepCutAuto
namespace Go.Proofs.Ytppckjecidcflaa
open Go.RowKit Go.Deep
set_option linter.unusedVariables false
set_option maxRecDepth 20000

theorem Box8.w {w w' : World} {lo hi B : Nat} {k t key : Int} {hd : Bool} {old : Int} {hs : Bool} {nw bk : Int} (h : Box8 w B k t key hd old hs nw bk) (x : Writes lo hi w w') (d : B < lo ∨ hi ≤ B) : Box8 w' B k t key hd old hs nw bk :=
  ⟨cell_writes h.1 x d, cell_writes h.2.1 x d, cell_writes h.2.2.1 x d, cell_writes h.2.2.2.1 x d, cell_writes h.2.2.2.2.1 x d, cell_writes h.2.2.2.2.2.1 x d, cell_writes h.2.2.2.2.2.2.1 x d, cell_writes h.2.2.2.2.2.2.2 x d⟩
theorem Box8.alloc {w : World} {B : Nat} {k t key : Int} {hd : Bool} {old : Int} {hs : Bool} {nw bk : Int} (h : Box8 w B k t key hd old hs nw bk) (x : Obj) : Box8 (w.alloc x) B k t key hd old hs nw bk := h.below (below_new _ _)
theorem Box8.writes {w w' : World} {lo hi B : Nat} {k t key : Int} {hd : Bool} {old : Int} {hs : Bool} {nw bk : Int} (h : Box8 w B k t key hd old hs nw bk) (x : Writes lo hi w w') (d : B < lo ∨ hi ≤ B) : Box8 w' B k t key hd old hs nw bk := h.w x d
def Box4R (w : World) (B : Nat) (c0 c1 c2 c3 : Value) : Prop := w.cell? ⟨B, 0, none⟩ = some c0 ∧ w.cell? ⟨B, 1, none⟩ = some c1 ∧ w.cell? ⟨B, 2, none⟩ = some c2 ∧ w.cell? ⟨B, 3, none⟩ = some c3 ∧ ∀ i, w.frozen? ⟨B, i, none⟩ = false
theorem Box4R.below {w w' : World} {B : Nat} {c0 c1 c2 c3 : Value} (h : Box4R w B c0 c1 c2 c3) (hb : Below w.heap.size w w') : Box4R w' B c0 c1 c2 c3 :=
  ⟨cell_below h.1 hb, cell_below h.2.1 hb, cell_below h.2.2.1 hb, cell_below h.2.2.2.1 hb, fun i => (hb.frozen (p := ⟨B, i, none⟩) (show B < w.heap.size from Go.block_lt_of_cell h.1)).trans (h.2.2.2.2 i)⟩
theorem Box4R.new (w : World) (c0 c1 c2 c3 : Value) (T : TypeId) : Box4R (w.alloc (.cells #[c0, c1, c2, c3] T)) w.heap.size c0 c1 c2 c3 := by simp [Box4R, go_sem]
theorem ownG_box4 {ws : World} {lo hi B : Nat} {a a2 : Option Addr} {K : Lo} (OS : OwnG ws lo hi a a2 K) (hB : B < lo) (x y z v : Value) : OwnG ((((ws.setCell ⟨B, 0, none⟩ x).setCell ⟨B, 1, none⟩ y).setCell ⟨B, 2, none⟩ z).setCell ⟨B, 3, none⟩ v) lo hi a a2 K :=
  OS.writes (Writes.setCell (Writes.setCell (Writes.setCell (Writes.setCell (Writes.refl B (B + 1) _) (p := ⟨B, 0, none⟩) (Nat.le_refl _) (Nat.lt_succ_self _) _) (p := ⟨B, 1, none⟩) (Nat.le_refl _) (Nat.lt_succ_self _) _) (p := ⟨B, 2, none⟩) (Nat.le_refl _) (Nat.lt_succ_self _) _) (p := ⟨B, 3, none⟩) (Nat.le_refl _) (Nat.lt_succ_self _) _) (.inr hB)
set_option maxHeartbeats 40000000 in
theorem appendRecLaw_small (L : Lo) (a1 a2 : Option Addr) (c1 c2 : Nat) (k t key : Int) (hd : Bool) (old : Int) (hs : Bool) (nw bk : Int) (w : World) (hn1 : L.n1 ≤ 9223372036854775807) (hn2 : L.n2 ≤ 9223372036854775807) (HA0 : LogAt w a1 a2 L) (c u : Int) (K : Lo) (hK1 : K.n1 ≤ 1048576) (hK2 : K.n2 ≤ 1048576)
    (HP : Hid (L.n1 ≤ 1048576 → L.n2 ≤ 1048576 → ∀ (a1 a2 : Option Addr) (w : World), LogAt w a1 a2 L → Calls Try.prog 7 #[.agg #[.slice a1 L.n1 L.n1, .slice a2 L.n2 L.n2], .agg #[.int .i64 k, .int .i64 t, .int .i64 key, .bool hd, .int .i64 old, .bool hs, .int .i64 nw, .int .i64 bk]] w (LRes c u K w)))
    (HQ : Hid (L.n1 ≤ 1048576 → L.n2 ≤ 1048576 → ∀ (a1 a2 : Option Addr) (w : World), LogAt w a1 a2 L → Calls Try.prog 10 #[.agg #[.slice a1 L.n1 L.n1, .slice a2 L.n2 L.n2], .agg #[.int .i64 k, .int .i64 t, .int .i64 key, .bool hd, .int .i64 old, .bool hs, .int .i64 nw, .int .i64 bk]] w (LRes c u K w))) :
    Calls Try.prog 3 #[.agg #[.slice a1 L.n1 c1, .slice a2 L.n2 c2], .agg #[.int .i64 k, .int .i64 t, .int .i64 key, .bool hd, .int .i64 old, .bool hs, .int .i64 nw, .int .i64 bk]] w fun e w' => e = .returned (.bool true) ∧ Below w.heap.size w w' := by
  go_enter Try.func3, Try.ntmps3
  go_wp2_with fail
  refine (szLog_any L a1 a2 c1 c2 _ hn1 hn2).mono ?_
  rintro e w1 ⟨hb, r, rfl, hr⟩
  have hB : Below w.heap.size w w1 := below_then (below_then (below_new _ _) (below_new _ _)) hb
  rcases hr with rfl | ⟨hr0, hr1⟩
  · go_wp2_with fail
    go_ret
    exact ⟨rfl, hB⟩
  have hs1 : L.n1 ≤ 1048576 := by omega
  have hs2 : L.n2 ≤ 1048576 := by omega
  have HS : Hid (L.n1 ≤ 1048576 ∧ L.n2 ≤ 1048576) := ⟨hs1, hs2⟩
  have BA := ((Box2.new w (.slice a1 L.n1 c1) (.slice a2 L.n2 c2) 24).alloc _).below hb
  have BR : Box8 w1 (w.heap.size + 1) k t key hd old hs nw bk := Box8.below (by rw [← World.size_alloc w (.cells #[.slice a1 L.n1 c1, .slice a2 L.n2 c2] 24)]; exact ⟨by simp [go_sem], by simp [go_sem], by simp [go_sem], by simp [go_sem], by simp [go_sem], by simp [go_sem], by simp [go_sem], by simp [go_sem]⟩) hb
  have HA := HA0.below hB
  have hs0 : Hid (w.heap.size + 2 ≤ w1.heap.size) := by have hq := hb.size; simp at hq; show w.heap.size + 2 ≤ w1.heap.size; omega
  have hneg : ¬ (r < 0) := by omega
  have hneg2 : ¬ ((1 : Int) + ((L.n1 + L.n2 : Nat) : Int) < 0) := by omega
  have hneg3 : ¬ ((1 : Int) + ((K.n1 + K.n2 : Nat) : Int) < 0) := by omega
  clear hb hr0 hr1 hn1 hn2
  have HAr := HA
  have BAr := BA
  have BRr := BR
  have TV := BA
  obtain ⟨p0, p1⟩ := TV
  have TR := BR
  obtain ⟨e0, e1, e2, e3, e4, e5, e6, e7⟩ := TR
  go_upto_region 5 with fail
  go_cut [6] (fun cc wx => ∃ (B : Nat) (aw aw2 : Option Addr) (cw cw2 : Nat), cc = .pointer (some ⟨B, 0, none⟩) ∧ Hid (Box4 wx B (.int .i64 c) (.int .i64 u) (.slice aw K.n1 cw) (.slice aw2 K.n2 cw2)) ∧ Hid (OwnG wx w1.heap.size wx.heap.size aw aw2 K) ∧ Hid (Below w1.heap.size w1 wx))
  case first =>
    have HX : Hid (Below w1.heap.size w1 w1) := Below.refl _ _
    have rp0 := fun ob : Obj => cell_alloc p0 ob
    have rp1 := fun ob : Obj => cell_alloc p1 ob
    have re0 := fun ob : Obj => cell_alloc e0 ob
    have re1 := fun ob : Obj => cell_alloc e1 ob
    have re2 := fun ob : Obj => cell_alloc e2 ob
    have re3 := fun ob : Obj => cell_alloc e3 ob
    have re4 := fun ob : Obj => cell_alloc e4 ob
    have re5 := fun ob : Obj => cell_alloc e5 ob
    have re6 := fun ob : Obj => cell_alloc e6 ob
    have re7 := fun ob : Obj => cell_alloc e7 ob
    go_region_law (first | (go_simp; go_at_call 8; refine (toLog_any L a1 a2 c1 c2 _ HS.out.1 HS.out.2 (HAr.below (by have hq1 := HX.out.size; repeat (first | exact HX.out | apply Below.drew | refine Below.alloc ?_ (by first | omega | (simp <;> omega)) _)))).mono ?_; rintro e wt ⟨bt, bt2, rfl, hb, OT⟩; have OTs := OT.at; have HY : Hid (Below wt.heap.size wt wt) := Below.refl _ _; have HX : Hid (Below w1.heap.size w1 wt) := below_then (by have hq1 := HX.out.size; repeat (first | exact HX.out | apply Below.drew | refine Below.alloc ?_ (by first | omega | (simp <;> omega)) _)) hb; have hswt : w1.heap.size ≤ wt.heap.size := HX.out.size; have BVn := BAr.below HX.out; obtain ⟨p0, p1⟩ := BVn; have BRn := BRr.below HX.out; obtain ⟨e0, e1, e2, e3, e4, e5, e6, e7⟩ := BRn; have rp0 := fun ob : Obj => cell_alloc p0 ob; have rp1 := fun ob : Obj => cell_alloc p1 ob; have re0 := fun ob : Obj => cell_alloc e0 ob; have re1 := fun ob : Obj => cell_alloc e1 ob; have re2 := fun ob : Obj => cell_alloc e2 ob; have re3 := fun ob : Obj => cell_alloc e3 ob; have re4 := fun ob : Obj => cell_alloc e4 ob; have re5 := fun ob : Obj => cell_alloc e5 ob; have re6 := fun ob : Obj => cell_alloc e6 ob; have re7 := fun ob : Obj => cell_alloc e7 ob; (first | (have zz : Box4R wt w1.heap.size (.int .i64 0) (.int .i64 0) (.slice none 0 0) (.slice none 0 0) := (Box4R.new w1.drew (.int .i64 0) (.int .i64 0) (.slice none 0 0) (.slice none 0 0) 30).below hb) | (have zz := (Box4R.new _ (.int .i64 0) (.int .i64 0) (.slice none 0 0) (.slice none 0 0) 30).below hb) | (have zz := zz.below hb) | (have zz := (zz.below (below_new _ _)).below hb) | skip); (first | (have zy := zz; obtain ⟨z0, z1, z2, z3, zf⟩ := zy) | skip); clear hb) | (go_simp; go_at_call 9; refine (toRec_any k t key hd old hs nw bk _).mono ?_; rintro e wv ⟨rfl, hb⟩; (first | (have HY : Hid (Below wt.heap.size wt wv) := below_then (by have hq1 := HY.out.size; repeat (first | exact HY.out | apply Below.drew | refine Below.alloc ?_ (by first | omega | (simp <;> omega)) _)) hb) | skip); have HX : Hid (Below w1.heap.size w1 wv) := below_then (by have hq1 := HX.out.size; repeat (first | exact HX.out | apply Below.drew | refine Below.alloc ?_ (by first | omega | (simp <;> omega)) _)) hb; have hswv : w1.heap.size ≤ wv.heap.size := HX.out.size; have BVn := BAr.below HX.out; obtain ⟨p0, p1⟩ := BVn; have BRn := BRr.below HX.out; obtain ⟨e0, e1, e2, e3, e4, e5, e6, e7⟩ := BRn; have rp0 := fun ob : Obj => cell_alloc p0 ob; have rp1 := fun ob : Obj => cell_alloc p1 ob; have re0 := fun ob : Obj => cell_alloc e0 ob; have re1 := fun ob : Obj => cell_alloc e1 ob; have re2 := fun ob : Obj => cell_alloc e2 ob; have re3 := fun ob : Obj => cell_alloc e3 ob; have re4 := fun ob : Obj => cell_alloc e4 ob; have re5 := fun ob : Obj => cell_alloc e5 ob; have re6 := fun ob : Obj => cell_alloc e6 ob; have re7 := fun ob : Obj => cell_alloc e7 ob; (first | (have zz : Box4R wv w1.heap.size (.int .i64 0) (.int .i64 0) (.slice none 0 0) (.slice none 0 0) := (Box4R.new w1.drew (.int .i64 0) (.int .i64 0) (.slice none 0 0) (.slice none 0 0) 30).below hb) | (have zz := (Box4R.new _ (.int .i64 0) (.int .i64 0) (.slice none 0 0) (.slice none 0 0) 30).below hb) | (have zz := zz.below hb) | (have zz := (zz.below (below_new _ _)).below hb) | skip); (first | (have zy := zz; obtain ⟨z0, z1, z2, z3, zf⟩ := zy) | skip); clear hb) | (go_simp; go_at_call 7; (first | (have hBn := Go.block_lt_of_cell z0) | skip); refine (HP.out HS.out.1 HS.out.2 _ _ _ (OTs.below (by have hq1 := HY.out.size; repeat (first | exact HY.out | apply Below.drew | refine Below.alloc ?_ (by first | omega | (simp <;> omega)) _)))).mono ?_; rintro e ws ⟨sa, sa2, sc, sc2, rfl, hb, OS⟩; have hlh := hb.size; (first | (simp only [World.size_alloc] at hlh) | skip); have HX : Hid (Below w1.heap.size w1 ws) := below_then (by have hq1 := HX.out.size; repeat (first | exact HX.out | apply Below.drew | refine Below.alloc ?_ (by first | omega | (simp <;> omega)) _)) hb; have hsws : w1.heap.size ≤ ws.heap.size := HX.out.size; have BVn := BAr.below HX.out; obtain ⟨p0, p1⟩ := BVn; have BRn := BRr.below HX.out; obtain ⟨e0, e1, e2, e3, e4, e5, e6, e7⟩ := BRn; have rp0 := fun ob : Obj => cell_alloc p0 ob; have rp1 := fun ob : Obj => cell_alloc p1 ob; have re0 := fun ob : Obj => cell_alloc e0 ob; have re1 := fun ob : Obj => cell_alloc e1 ob; have re2 := fun ob : Obj => cell_alloc e2 ob; have re3 := fun ob : Obj => cell_alloc e3 ob; have re4 := fun ob : Obj => cell_alloc e4 ob; have re5 := fun ob : Obj => cell_alloc e5 ob; have re6 := fun ob : Obj => cell_alloc e6 ob; have re7 := fun ob : Obj => cell_alloc e7 ob; (first | (have zz : Box4R ws w1.heap.size (.int .i64 0) (.int .i64 0) (.slice none 0 0) (.slice none 0 0) := (Box4R.new w1.drew (.int .i64 0) (.int .i64 0) (.slice none 0 0) (.slice none 0 0) 30).below hb) | (have zz := (Box4R.new _ (.int .i64 0) (.int .i64 0) (.slice none 0 0) (.slice none 0 0) 30).below hb) | (have zz := zz.below hb) | (have zz := (zz.below (below_new _ _)).below hb) | skip); (first | (have zy := zz; obtain ⟨z0, z1, z2, z3, zf⟩ := zy) | skip); clear hb))
    all_goals
      go_wp2_with fail
      go_meet
      (refine ⟨_, sa, sa2, sc, sc2, rfl, by simp [Hid, Box4, go_sem, *], ?_, by repeat (first | exact HX.out | apply Below.drew | refine Below.setCell ?_ (by first | omega | (simp <;> omega)) _ | refine Below.alloc ?_ (by first | omega | (simp <;> omega)) _)⟩; show OwnG _ _ _ _ _ _; first | (with_reducible refine OwnG.wide (OwnG.below OS (below_new _ _)) (by first | omega | (simp <;> omega)) (by first | omega | (simp <;> omega)) (Nat.le_refl _)) | (refine OwnG.wide (ownG_box4 OS (by first | omega | exact hBn | (simp <;> omega) | (have hq9 := hBn; simp at hq9 ⊢; omega)) _ _ _ _) (by first | omega | (simp <;> omega)) (by first | omega | (simp <;> omega)) (Nat.le_refl _)))
  case rest =>
    obtain ⟨B, aw, aw2, cw, cw2, rfl, BW0, OW0, HBc⟩ := hcut
    replace hB := below_then hB HBc.out
    replace HA := HA.below HBc.out
    replace BA := BA.below HBc.out
    replace BR := BR.below HBc.out
    have BW := BW0.out
    have OW := OW0.out
    have swc1 : Hid (w.heap.size + 2 ≤ wc.heap.size) := Nat.le_trans hs0.out HBc.out.size
    have swc2 : Hid (B < wc.heap.size) := BW.lt
    have swc3 : Hid (w1.heap.size ≤ wc.heap.size) := HBc.out.size
    clear p0 p1 e0 e1 e2 e3 e4 e5 e6 e7 BAr BRr HAr BW0 OW0 HBc
    have TA := BA
    obtain ⟨qA0, qA1⟩ := TA
    go_wp2_with fail
    refine (toLog_any L a1 a2 c1 c2 _ HS.out.1 HS.out.2 HA).mono ?_
    rintro e w2 ⟨bx, bx2, rfl, hb, ho⟩
    clear qA0 qA1
    replace hB := below_then hB hb
    replace BA := BA.below hb
    replace BR := BR.below hb
    replace BW := BW.below hb
    replace OW := OW.below hb
    replace HA := HA.below hb
    have sw2 : Hid (wc.heap.size ≤ w2.heap.size) := by have hq := hb.size; show wc.heap.size ≤ w2.heap.size; omega
    have OX : OwnG w2 wc.heap.size w2.heap.size _ _ L := ho
    clear ho
    clear hb
    go_upto_region 7 with fail
    obtain ⟨XB, hXB⟩ : ∃ n, n = w2.heap.size := ⟨_, rfl⟩
    obtain ⟨Y, hY⟩ : ∃ y, y = w2.alloc (.cells #[.slice (some ⟨bx, 0, none⟩) L.n1 L.n1, .slice (some ⟨bx2, 0, none⟩) L.n2 L.n2] 28) := ⟨_, rfl⟩
    have BX : Box2 Y XB (.slice (some ⟨bx, 0, none⟩) L.n1 L.n1) (.slice (some ⟨bx2, 0, none⟩) L.n2 L.n2) := by rw [hY, hXB]; exact Box2.new _ _ _ _
    have hYz : Hid (Y.heap.size = XB + 1) := by rw [hY, hXB]; exact World.size_alloc _ _
    have hYb : Below w2.heap.size w2 Y := by rw [hY]; exact below_new _ _
    replace hB := below_then hB hYb
    replace HA := HA.below hYb
    replace BA := BA.below hYb
    replace BR := BR.below hYb
    replace BW := BW.below hYb
    replace OW := OW.below hYb
    have OX' := OX.below hYb
    obtain ⟨xlo, hxlo⟩ : ∃ n, n = wc.heap.size := ⟨_, rfl⟩
    have swd0 : Hid (xlo = wc.heap.size ∧ wc.heap.size ≤ XB ∧ B < wc.heap.size) := ⟨hxlo, by rw [hXB]; exact sw2.out, swc2.out⟩
    rw [← hY, ← hXB]
    rw [← hXB, ← hxlo] at OX'
    clear hY hXB OX
    have OX := OX'
    have OXr := OX
    clear OX'
    clear hxlo
    have HAr := HA
    have BXr := BX
    have BRr := BR
    have TV := BX
    obtain ⟨p0, p1⟩ := TV
    have TR := BR
    obtain ⟨e0, e1, e2, e3, e4, e5, e6, e7⟩ := TR
    go_cut [8] (fun cc wx => ∃ (B : Nat) (aw aw2 : Option Addr) (cw cw2 lo hi : Nat), cc = .pointer (some ⟨B, 0, none⟩) ∧ Hid (Box4 wx B (.int .i64 c) (.int .i64 u) (.slice aw K.n1 cw) (.slice aw2 K.n2 cw2)) ∧ Hid (OwnG wx lo hi aw aw2 K) ∧ Hid (Y.heap.size ≤ lo ∧ hi ≤ wx.heap.size ∧ lo ≤ hi ∧ (B < lo ∨ hi ≤ B) ∧ Y.heap.size ≤ B) ∧ Hid (Below Y.heap.size Y wx))
    case first =>
      have HX : Hid (Below Y.heap.size Y Y) := Below.refl _ _
      have rp0 := fun ob : Obj => cell_alloc p0 ob
      have rp1 := fun ob : Obj => cell_alloc p1 ob
      have re0 := fun ob : Obj => cell_alloc e0 ob
      have re1 := fun ob : Obj => cell_alloc e1 ob
      have re2 := fun ob : Obj => cell_alloc e2 ob
      have re3 := fun ob : Obj => cell_alloc e3 ob
      have re4 := fun ob : Obj => cell_alloc e4 ob
      have re5 := fun ob : Obj => cell_alloc e5 ob
      have re6 := fun ob : Obj => cell_alloc e6 ob
      have re7 := fun ob : Obj => cell_alloc e7 ob
      go_region_law (first | (go_simp; go_at_call 9; refine (toRec_any k t key hd old hs nw bk _).mono ?_; rintro e wv ⟨rfl, hb⟩; have HX : Hid (Below Y.heap.size Y wv) := below_then (by have hq1 := HX.out.size; repeat (first | exact HX.out | apply Below.drew | refine Below.alloc ?_ (by first | omega | (simp <;> omega)) _)) hb; have hswv : Y.heap.size ≤ wv.heap.size := HX.out.size; have BVn := BXr.below HX.out; obtain ⟨p0, p1⟩ := BVn; have BRn := BRr.below HX.out; obtain ⟨e0, e1, e2, e3, e4, e5, e6, e7⟩ := BRn; have rp0 := fun ob : Obj => cell_alloc p0 ob; have rp1 := fun ob : Obj => cell_alloc p1 ob; have re0 := fun ob : Obj => cell_alloc e0 ob; have re1 := fun ob : Obj => cell_alloc e1 ob; have re2 := fun ob : Obj => cell_alloc e2 ob; have re3 := fun ob : Obj => cell_alloc e3 ob; have re4 := fun ob : Obj => cell_alloc e4 ob; have re5 := fun ob : Obj => cell_alloc e5 ob; have re6 := fun ob : Obj => cell_alloc e6 ob; have re7 := fun ob : Obj => cell_alloc e7 ob; (first | (have zz : Box4R wv Y.heap.size (.int .i64 0) (.int .i64 0) (.slice none 0 0) (.slice none 0 0) := (Box4R.new Y.drew (.int .i64 0) (.int .i64 0) (.slice none 0 0) (.slice none 0 0) 30).below hb) | (have zz := (Box4R.new _ (.int .i64 0) (.int .i64 0) (.slice none 0 0) (.slice none 0 0) 30).below hb) | (have zz := zz.below hb) | (have zz := (zz.below (below_new _ _)).below hb) | skip); (first | (have zy := zz; obtain ⟨z0, z1, z2, z3, zf⟩ := zy) | skip); clear hb) | (go_simp; go_at_call 10; (first | (have hBn := Go.block_lt_of_cell z0) | skip); refine (HQ.out HS.out.1 HS.out.2 _ _ _ (OXr.at.below (by have hq1 := HX.out.size; repeat (first | exact HX.out | apply Below.drew | refine Below.alloc ?_ (by first | omega | (simp <;> omega)) _)))).mono ?_; rintro e ws ⟨sa, sa2, sc, sc2, rfl, hb, OS⟩; have hlh := hb.size; (first | (simp only [World.size_alloc] at hlh) | skip); have HX : Hid (Below Y.heap.size Y ws) := below_then (by have hq1 := HX.out.size; repeat (first | exact HX.out | apply Below.drew | refine Below.alloc ?_ (by first | omega | (simp <;> omega)) _)) hb; have hsws : Y.heap.size ≤ ws.heap.size := HX.out.size; have BVn := BXr.below HX.out; obtain ⟨p0, p1⟩ := BVn; have BRn := BRr.below HX.out; obtain ⟨e0, e1, e2, e3, e4, e5, e6, e7⟩ := BRn; have rp0 := fun ob : Obj => cell_alloc p0 ob; have rp1 := fun ob : Obj => cell_alloc p1 ob; have re0 := fun ob : Obj => cell_alloc e0 ob; have re1 := fun ob : Obj => cell_alloc e1 ob; have re2 := fun ob : Obj => cell_alloc e2 ob; have re3 := fun ob : Obj => cell_alloc e3 ob; have re4 := fun ob : Obj => cell_alloc e4 ob; have re5 := fun ob : Obj => cell_alloc e5 ob; have re6 := fun ob : Obj => cell_alloc e6 ob; have re7 := fun ob : Obj => cell_alloc e7 ob; (first | (have zz : Box4R ws Y.heap.size (.int .i64 0) (.int .i64 0) (.slice none 0 0) (.slice none 0 0) := (Box4R.new Y.drew (.int .i64 0) (.int .i64 0) (.slice none 0 0) (.slice none 0 0) 30).below hb) | (have zz := (Box4R.new _ (.int .i64 0) (.int .i64 0) (.slice none 0 0) (.slice none 0 0) 30).below hb) | (have zz := zz.below hb) | (have zz := (zz.below (below_new _ _)).below hb) | skip); (first | (have zy := zz; obtain ⟨z0, z1, z2, z3, zf⟩ := zy) | skip); clear hb))
      all_goals
        go_wp2_with fail
        go_meet
        (first | (have hguard := z0; clear hguard; refine ⟨_, sa, sa2, sc, sc2, _, ws.heap.size, rfl, ?_, ownG_box4 OS ?_ _ _ _ _, ⟨?_, ?_, ?_, .inl ?_, ?_⟩, ?_⟩) | (refine ⟨_, sa, sa2, sc, sc2, _, ws.heap.size, rfl, ?_, OwnG.below OS (below_new _ _), ⟨?_, ?_, ?_, .inr ?_, ?_⟩, ?_⟩)) <;> (first | omega | (simp <;> omega) | exact hBn | (have hq9 := hBn; simp at hq9 ⊢; omega) | ((repeat (first | exact HX.out | apply Below.drew | refine Below.setCell ?_ (by first | omega | (simp <;> omega)) _ | refine Below.alloc ?_ (by first | omega | (simp <;> omega)) _)); done) | (simp [Hid, Box4, go_sem, *]))
    case rest =>
      obtain ⟨GB, ag, ag2, cg, cg2, glo, ghi, rfl, BG0, OG0, HGR, HBc⟩ := hcut
      obtain ⟨wd, rfl⟩ : ∃ x, x = wc := ⟨wc, rfl⟩
      have hBd := HBc.out
      have hYz1 := hYz.out
      have hGR := HGR.out
      have hsd := hBd.size
      replace hB := below_then hB hBd
      replace HA := HA.below hBd
      replace BA := BA.below hBd
      replace BR := BR.below hBd
      replace BW := BW.below hBd
      replace BX := BX.below hBd
      replace OW := OW.below hBd
      replace OX := OX.below hBd
      have BG := BG0.out
      have OG := OG0.out
      have swd1 : Hid (XB + 1 ≤ glo ∧ ghi ≤ wd.heap.size ∧ glo ≤ ghi ∧ (GB < glo ∨ ghi ≤ GB) ∧ XB + 1 ≤ GB) := ⟨by omega, by omega, by omega, by omega, by omega⟩
      have swd2 : Hid (GB < wd.heap.size ∧ XB + 1 ≤ wd.heap.size) := ⟨BG.lt, by omega⟩
      clear p0 p1 e0 e1 e2 e3 e4 e5 e6 e7 BXr BRr HAr OXr BG0 OG0 HGR HBc hBd hYz1 hGR hsd hYz
      have TG := BG
      obtain ⟨qG0, qG1, qG2, qG3⟩ := TG
      have TW := BW
      obtain ⟨qW0, qW1, qW2, qW3⟩ := TW
      go_wp2_with fail
      refine (eqLogResult_same c u K ag ag2 aw aw2 cg cg2 cw cw2 _ hK1 hK2 OG.at OW.at).mono ?_
      rintro e w4 ⟨rfl, hb⟩
      clear qG0 qG1 qG2 qG3 qW0 qW1 qW2 qW3
      replace hB := below_then hB hb
      replace BA := BA.below hb
      replace BR := BR.below hb
      replace BW := BW.below hb
      replace BX := BX.below hb
      replace BG := BG.below hb
      replace OW := OW.below hb
      replace OX := OX.below hb
      replace OG := OG.below hb
      replace HA := HA.below hb
      have sw4 : Hid (wd.heap.size ≤ w4.heap.size) := by have hq := hb.size; show wd.heap.size ≤ w4.heap.size; omega
      clear hb
      have TX := BX
      obtain ⟨qX0, qX1⟩ := TX
      have TA := BA
      obtain ⟨qA0, qA1⟩ := TA
      go_wp2_with fail
      have hb0 : Below w4.heap.size w4 w4.drew := (Below.refl _ _).drew
      go_region_held3 (fun w' => Below w4.heap.size w4 w' ∧ w'.cell? ⟨XB, 0, none⟩ = some (.slice (some ⟨bx, 0, none⟩) L.n1 L.n1) ∧ w'.cell? ⟨XB, 1, none⟩ = some (.slice (some ⟨bx2, 0, none⟩) L.n2 L.n2) ∧ w'.cell? ⟨w.heap.size, 0, none⟩ = some (.slice a1 L.n1 c1) ∧ w'.cell? ⟨w.heap.size, 1, none⟩ = some (.slice a2 L.n2 c2)) (go_keep)
        (first | (go_at_call 8; refine (toLog_any L a1 a2 c1 c2 _ HS.out.1 HS.out.2 (HA.below (by simp [*]))).mono ?_; rintro e wq ⟨bq, bq2, rfl, hbq, hoq⟩; have hU := below_then (w := w4) (by simp [*]) hbq; have hU0 := cell_below (B := XB) (o := 0) (v := .slice (some ⟨bx, 0, none⟩) L.n1 L.n1) (by simp [*]) hbq; have hU1 := cell_below (B := XB) (o := 1) (v := .slice (some ⟨bx2, 0, none⟩) L.n2 L.n2) (by simp [*]) hbq; have hU2 := cell_below (B := w.heap.size) (o := 0) (v := .slice a1 L.n1 c1) (by simp [*]) hbq; have hU3 := cell_below (B := w.heap.size) (o := 1) (v := .slice a2 L.n2 c2) (by simp [*]) hbq) | (go_at_call 12; refine (eqLog_same L _ _ _ _ L.n1 L.n2 L.n1 L.n2 _ HS.out.1 HS.out.2 (OX.at.below (by simp [*])) hoq.at).mono ?_; rintro e w5 ⟨rfl, hbz⟩; have hS := below_then (w := w4) (by simp [*]) hbz; have hS0 := cell_below (B := XB) (o := 0) (v := .slice (some ⟨bx, 0, none⟩) L.n1 L.n1) (by simp [*]) hbz; have hS1 := cell_below (B := XB) (o := 1) (v := .slice (some ⟨bx2, 0, none⟩) L.n2 L.n2) (by simp [*]) hbz; have hS2 := cell_below (B := w.heap.size) (o := 0) (v := .slice a1 L.n1 c1) (by simp [*]) hbz; have hS3 := cell_below (B := w.heap.size) (o := 1) (v := .slice a2 L.n2 c2) (by simp [*]) hbz))
      clear qX0 qX1 qA0 qA1
      clear hb0 hU hU0 hU1 hU2 hU3 hS0 hS1 hS2 hS3 hbq hoq hbz
      replace hB := below_then hB hS
      replace BA := BA.below hS
      replace BR := BR.below hS
      replace BW := BW.below hS
      replace BX := BX.below hS
      replace BG := BG.below hS
      replace OW := OW.below hS
      replace OX := OX.below hS
      replace OG := OG.below hS
      replace HA := HA.below hS
      have sw5 : Hid (w4.heap.size ≤ w5.heap.size) := by have hq := hS.size; show w4.heap.size ≤ w5.heap.size; omega
      clear hS
      have TX := BX
      obtain ⟨qX0, qX1⟩ := TX
      go_wp2_with fail
      refine (markLog_any L _ _ L.n1 L.n2 xlo XB 1 _ HS.out.1 HS.out.2 (by omega) (by omega) OX).mono ?_
      rintro e w6 ⟨rfl, hw, hox⟩
      clear qX0 qX1
      replace hB := Writes.below hB hw (by have t0 := swc1.out; have t1 := swc2.out; have t2 := swc3.out; have t3 := swd0.out; have t4 := swd1.out; have t5 := swd2.out; have t6 := sw4.out; have t7 := sw5.out; omega)
      replace BA := BA.writes hw (by have t0 := swc1.out; have t1 := swc2.out; have t2 := swc3.out; have t3 := swd0.out; have t4 := swd1.out; have t5 := swd2.out; have t6 := sw4.out; have t7 := sw5.out; omega)
      replace BR := BR.writes hw (by have t0 := swc1.out; have t1 := swc2.out; have t2 := swc3.out; have t3 := swd0.out; have t4 := swd1.out; have t5 := swd2.out; have t6 := sw4.out; have t7 := sw5.out; omega)
      replace BW := BW.writes hw (by have t0 := swc1.out; have t1 := swc2.out; have t2 := swc3.out; have t3 := swd0.out; have t4 := swd1.out; have t5 := swd2.out; have t6 := sw4.out; have t7 := sw5.out; omega)
      replace BX := BX.writes hw (by have t0 := swc1.out; have t1 := swc2.out; have t2 := swc3.out; have t3 := swd0.out; have t4 := swd1.out; have t5 := swd2.out; have t6 := sw4.out; have t7 := sw5.out; omega)
      replace BG := BG.writes hw (by have t0 := swc1.out; have t1 := swc2.out; have t2 := swc3.out; have t3 := swd0.out; have t4 := swd1.out; have t5 := swd2.out; have t6 := sw4.out; have t7 := sw5.out; omega)
      replace OW := OW.writes hw (by have t0 := swc1.out; have t1 := swc2.out; have t2 := swc3.out; have t3 := swd0.out; have t4 := swd1.out; have t5 := swd2.out; have t6 := sw4.out; have t7 := sw5.out; omega)
      replace OG := OG.writes hw (by have t0 := swc1.out; have t1 := swc2.out; have t2 := swc3.out; have t3 := swd0.out; have t4 := swd1.out; have t5 := swd2.out; have t6 := sw4.out; have t7 := sw5.out; omega)
      replace HA := HA0.below hB
      have sw6 : Hid (w5.heap.size ≤ w6.heap.size) := by have hq := hw.size; show w5.heap.size ≤ w6.heap.size; omega
      clear hw
      clear hox OX
      have TG := BG
      obtain ⟨qG0, qG1, qG2, qG3⟩ := TG
      have TW := BW
      obtain ⟨qW0, qW1, qW2, qW3⟩ := TW
      go_wp2_with fail
      refine (eqLogResult_same c u K ag ag2 aw aw2 cg cg2 cw cw2 _ hK1 hK2 OG.at OW.at).mono ?_
      rintro e w7 ⟨rfl, hb⟩
      clear qG0 qG1 qG2 qG3 qW0 qW1 qW2 qW3
      replace hB := below_then hB hb
      replace BA := BA.below hb
      replace BR := BR.below hb
      replace BW := BW.below hb
      replace BX := BX.below hb
      replace BG := BG.below hb
      replace OW := OW.below hb
      replace OG := OG.below hb
      replace HA := HA.below hb
      have sw7 : Hid (w6.heap.size ≤ w7.heap.size) := by have hq := hb.size; show w6.heap.size ≤ w7.heap.size; omega
      clear hb
      have TG := BG
      obtain ⟨qG0, qG1, qG2, qG3⟩ := TG
      go_wp2_with fail
      refine (markLogResult_any c u K _ _ cg cg2 glo ghi _ hK1 hK2 OG).mono ?_
      rintro e w8 ⟨rfl, hw, hog⟩
      clear qG0 qG1 qG2 qG3
      replace hB := Writes.below hB hw (by have t0 := swc1.out; have t1 := swc2.out; have t2 := swc3.out; have t3 := swd0.out; have t4 := swd1.out; have t5 := swd2.out; have t6 := sw4.out; have t7 := sw5.out; have t8 := sw6.out; have t9 := sw7.out; omega)
      replace BA := BA.writes hw (by have t0 := swc1.out; have t1 := swc2.out; have t2 := swc3.out; have t3 := swd0.out; have t4 := swd1.out; have t5 := swd2.out; have t6 := sw4.out; have t7 := sw5.out; have t8 := sw6.out; have t9 := sw7.out; omega)
      replace BR := BR.writes hw (by have t0 := swc1.out; have t1 := swc2.out; have t2 := swc3.out; have t3 := swd0.out; have t4 := swd1.out; have t5 := swd2.out; have t6 := sw4.out; have t7 := sw5.out; have t8 := sw6.out; have t9 := sw7.out; omega)
      replace BW := BW.writes hw (by have t0 := swc1.out; have t1 := swc2.out; have t2 := swc3.out; have t3 := swd0.out; have t4 := swd1.out; have t5 := swd2.out; have t6 := sw4.out; have t7 := sw5.out; have t8 := sw6.out; have t9 := sw7.out; omega)
      replace BX := BX.writes hw (by have t0 := swc1.out; have t1 := swc2.out; have t2 := swc3.out; have t3 := swd0.out; have t4 := swd1.out; have t5 := swd2.out; have t6 := sw4.out; have t7 := sw5.out; have t8 := sw6.out; have t9 := sw7.out; omega)
      replace BG := BG.writes hw (by have t0 := swc1.out; have t1 := swc2.out; have t2 := swc3.out; have t3 := swd0.out; have t4 := swd1.out; have t5 := swd2.out; have t6 := sw4.out; have t7 := sw5.out; have t8 := sw6.out; have t9 := sw7.out; omega)
      replace OW := OW.writes hw (by have t0 := swc1.out; have t1 := swc2.out; have t2 := swc3.out; have t3 := swd0.out; have t4 := swd1.out; have t5 := swd2.out; have t6 := sw4.out; have t7 := sw5.out; have t8 := sw6.out; have t9 := sw7.out; omega)
      replace HA := HA0.below hB
      have sw8 : Hid (w7.heap.size ≤ w8.heap.size) := by have hq := hw.size; show w7.heap.size ≤ w8.heap.size; omega
      clear hw
      clear OG
      have OG := hog
      clear hog
      have TG := BG
      obtain ⟨qG0, qG1, qG2, qG3⟩ := TG
      go_wp2_with fail
      refine (heldLogResult_any c u K _ _ cg cg2 _ hK1 hK2 OG.at).mono ?_
      rintro e w9 ⟨rfl, hb⟩
      clear qG0 qG1 qG2 qG3
      replace hB := below_then hB hb
      replace BA := BA.below hb
      replace BR := BR.below hb
      replace BW := BW.below hb
      replace BX := BX.below hb
      replace BG := BG.below hb
      replace OW := OW.below hb
      replace OG := OG.below hb
      replace HA := HA.below hb
      have sw9 : Hid (w8.heap.size ≤ w9.heap.size) := by have hq := hb.size; show w8.heap.size ≤ w9.heap.size; omega
      clear hb
      have HAr := HA
      have BAr := BA
      have BRr := BR
      have TV := BA
      obtain ⟨p0, p1⟩ := TV
      have TR := BR
      obtain ⟨e0, e1, e2, e3, e4, e5, e6, e7⟩ := TR
      go_upto_region 24 with fail
      go_cut [12] (fun cc wx => ∃ (B : Nat) (aw aw2 : Option Addr) (cw cw2 : Nat), cc = .pointer (some ⟨B, 0, none⟩) ∧ Hid (Box4 wx B (.int .i64 c) (.int .i64 u) (.slice aw K.n1 cw) (.slice aw2 K.n2 cw2)) ∧ Hid (OwnG wx w9.heap.size wx.heap.size aw aw2 K) ∧ Hid (Below w9.heap.size w9 wx))
      case first =>
        have HX : Hid (Below w9.heap.size w9 w9) := Below.refl _ _
        have rp0 := fun ob : Obj => cell_alloc p0 ob
        have rp1 := fun ob : Obj => cell_alloc p1 ob
        have re0 := fun ob : Obj => cell_alloc e0 ob
        have re1 := fun ob : Obj => cell_alloc e1 ob
        have re2 := fun ob : Obj => cell_alloc e2 ob
        have re3 := fun ob : Obj => cell_alloc e3 ob
        have re4 := fun ob : Obj => cell_alloc e4 ob
        have re5 := fun ob : Obj => cell_alloc e5 ob
        have re6 := fun ob : Obj => cell_alloc e6 ob
        have re7 := fun ob : Obj => cell_alloc e7 ob
        go_region_law (first | (go_simp; go_at_call 8; refine (toLog_any L a1 a2 c1 c2 _ HS.out.1 HS.out.2 (HAr.below (by have hq1 := HX.out.size; repeat (first | exact HX.out | apply Below.drew | refine Below.alloc ?_ (by first | omega | (simp <;> omega)) _)))).mono ?_; rintro e wt ⟨bt, bt2, rfl, hb, OT⟩; have OTs := OT.at; have HY : Hid (Below wt.heap.size wt wt) := Below.refl _ _; have HX : Hid (Below w9.heap.size w9 wt) := below_then (by have hq1 := HX.out.size; repeat (first | exact HX.out | apply Below.drew | refine Below.alloc ?_ (by first | omega | (simp <;> omega)) _)) hb; have hswt : w9.heap.size ≤ wt.heap.size := HX.out.size; have BVn := BAr.below HX.out; obtain ⟨p0, p1⟩ := BVn; have BRn := BRr.below HX.out; obtain ⟨e0, e1, e2, e3, e4, e5, e6, e7⟩ := BRn; have rp0 := fun ob : Obj => cell_alloc p0 ob; have rp1 := fun ob : Obj => cell_alloc p1 ob; have re0 := fun ob : Obj => cell_alloc e0 ob; have re1 := fun ob : Obj => cell_alloc e1 ob; have re2 := fun ob : Obj => cell_alloc e2 ob; have re3 := fun ob : Obj => cell_alloc e3 ob; have re4 := fun ob : Obj => cell_alloc e4 ob; have re5 := fun ob : Obj => cell_alloc e5 ob; have re6 := fun ob : Obj => cell_alloc e6 ob; have re7 := fun ob : Obj => cell_alloc e7 ob; (first | (have zz : Box4R wt w9.heap.size (.int .i64 0) (.int .i64 0) (.slice none 0 0) (.slice none 0 0) := (Box4R.new w9.drew (.int .i64 0) (.int .i64 0) (.slice none 0 0) (.slice none 0 0) 30).below hb) | (have zz := (Box4R.new _ (.int .i64 0) (.int .i64 0) (.slice none 0 0) (.slice none 0 0) 30).below hb) | (have zz := zz.below hb) | (have zz := (zz.below (below_new _ _)).below hb) | skip); (first | (have zy := zz; obtain ⟨z0, z1, z2, z3, zf⟩ := zy) | skip); clear hb) | (go_simp; go_at_call 9; refine (toRec_any k t key hd old hs nw bk _).mono ?_; rintro e wv ⟨rfl, hb⟩; (first | (have HY : Hid (Below wt.heap.size wt wv) := below_then (by have hq1 := HY.out.size; repeat (first | exact HY.out | apply Below.drew | refine Below.alloc ?_ (by first | omega | (simp <;> omega)) _)) hb) | skip); have HX : Hid (Below w9.heap.size w9 wv) := below_then (by have hq1 := HX.out.size; repeat (first | exact HX.out | apply Below.drew | refine Below.alloc ?_ (by first | omega | (simp <;> omega)) _)) hb; have hswv : w9.heap.size ≤ wv.heap.size := HX.out.size; have BVn := BAr.below HX.out; obtain ⟨p0, p1⟩ := BVn; have BRn := BRr.below HX.out; obtain ⟨e0, e1, e2, e3, e4, e5, e6, e7⟩ := BRn; have rp0 := fun ob : Obj => cell_alloc p0 ob; have rp1 := fun ob : Obj => cell_alloc p1 ob; have re0 := fun ob : Obj => cell_alloc e0 ob; have re1 := fun ob : Obj => cell_alloc e1 ob; have re2 := fun ob : Obj => cell_alloc e2 ob; have re3 := fun ob : Obj => cell_alloc e3 ob; have re4 := fun ob : Obj => cell_alloc e4 ob; have re5 := fun ob : Obj => cell_alloc e5 ob; have re6 := fun ob : Obj => cell_alloc e6 ob; have re7 := fun ob : Obj => cell_alloc e7 ob; (first | (have zz : Box4R wv w9.heap.size (.int .i64 0) (.int .i64 0) (.slice none 0 0) (.slice none 0 0) := (Box4R.new w9.drew (.int .i64 0) (.int .i64 0) (.slice none 0 0) (.slice none 0 0) 30).below hb) | (have zz := (Box4R.new _ (.int .i64 0) (.int .i64 0) (.slice none 0 0) (.slice none 0 0) 30).below hb) | (have zz := zz.below hb) | (have zz := (zz.below (below_new _ _)).below hb) | skip); (first | (have zy := zz; obtain ⟨z0, z1, z2, z3, zf⟩ := zy) | skip); clear hb) | (go_simp; go_at_call 10; (first | (have hBn := Go.block_lt_of_cell z0) | skip); refine (HQ.out HS.out.1 HS.out.2 _ _ _ (OTs.below (by have hq1 := HY.out.size; repeat (first | exact HY.out | apply Below.drew | refine Below.alloc ?_ (by first | omega | (simp <;> omega)) _)))).mono ?_; rintro e ws ⟨sa, sa2, sc, sc2, rfl, hb, OS⟩; have hlh := hb.size; (first | (simp only [World.size_alloc] at hlh) | skip); have HX : Hid (Below w9.heap.size w9 ws) := below_then (by have hq1 := HX.out.size; repeat (first | exact HX.out | apply Below.drew | refine Below.alloc ?_ (by first | omega | (simp <;> omega)) _)) hb; have hsws : w9.heap.size ≤ ws.heap.size := HX.out.size; have BVn := BAr.below HX.out; obtain ⟨p0, p1⟩ := BVn; have BRn := BRr.below HX.out; obtain ⟨e0, e1, e2, e3, e4, e5, e6, e7⟩ := BRn; have rp0 := fun ob : Obj => cell_alloc p0 ob; have rp1 := fun ob : Obj => cell_alloc p1 ob; have re0 := fun ob : Obj => cell_alloc e0 ob; have re1 := fun ob : Obj => cell_alloc e1 ob; have re2 := fun ob : Obj => cell_alloc e2 ob; have re3 := fun ob : Obj => cell_alloc e3 ob; have re4 := fun ob : Obj => cell_alloc e4 ob; have re5 := fun ob : Obj => cell_alloc e5 ob; have re6 := fun ob : Obj => cell_alloc e6 ob; have re7 := fun ob : Obj => cell_alloc e7 ob; (first | (have zz : Box4R ws w9.heap.size (.int .i64 0) (.int .i64 0) (.slice none 0 0) (.slice none 0 0) := (Box4R.new w9.drew (.int .i64 0) (.int .i64 0) (.slice none 0 0) (.slice none 0 0) 30).below hb) | (have zz := (Box4R.new _ (.int .i64 0) (.int .i64 0) (.slice none 0 0) (.slice none 0 0) 30).below hb) | (have zz := zz.below hb) | (have zz := (zz.below (below_new _ _)).below hb) | skip); (first | (have zy := zz; obtain ⟨z0, z1, z2, z3, zf⟩ := zy) | skip); clear hb))
        all_goals
          go_wp2_with fail
          go_meet
          (refine ⟨_, sa, sa2, sc, sc2, rfl, by simp [Hid, Box4, go_sem, *], ?_, by repeat (first | exact HX.out | apply Below.drew | refine Below.setCell ?_ (by first | omega | (simp <;> omega)) _ | refine Below.alloc ?_ (by first | omega | (simp <;> omega)) _)⟩; show OwnG _ _ _ _ _ _; first | (with_reducible refine OwnG.wide (OwnG.below OS (below_new _ _)) (by first | omega | (simp <;> omega)) (by first | omega | (simp <;> omega)) (Nat.le_refl _)) | (refine OwnG.wide (ownG_box4 OS (by first | omega | exact hBn | (simp <;> omega) | (have hq9 := hBn; simp at hq9 ⊢; omega)) _ _ _ _) (by first | omega | (simp <;> omega)) (by first | omega | (simp <;> omega)) (Nat.le_refl _)))
      case rest =>
        obtain ⟨B2, ah, ah2, ch, ch2, rfl, BH0, OH0, HBc⟩ := hcut
        replace hB := below_then hB HBc.out
        replace BW := BW.below HBc.out
        replace BG := BG.below HBc.out
        replace OW := OW.below HBc.out
        replace OG := OG.below HBc.out
        obtain ⟨h0, h1, h2, h3⟩ := BH0.out
        obtain ⟨g0, g1, g2, g3⟩ := BW
        clear p0 p1 e0 e1 e2 e3 e4 e5 e6 e7 BAr BRr HAr
        go_wp2_with fail
        refine (eqLogResult_same c u K ah ah2 aw aw2 ch ch2 cw cw2 _ hK1 hK2 OH0.out.at OW.at).mono ?_
        rintro e wy ⟨rfl, hb⟩
        replace hB := below_then hB hb
        replace BG := BG.below hb
        replace OG := OG.below hb
        clear h0 h1 h2 h3 g0 g1 g2 g3 hb
        obtain ⟨g0, g1, g2, g3⟩ := BG
        go_wp2_with fail
        refine (heldLogResult_any c u K _ _ cg cg2 _ hK1 hK2 OG.at).mono ?_
        rintro e wz ⟨rfl, hb⟩
        go_wp2_with fail
        go_ret
        exact ⟨rfl, below_then hB hb⟩
end Go.Proofs.Ytppckjecidcflaa
