/- impl.AppendRec. -/
import Derived.Test.YtannmobmmnoegaaGreatQAn
import Derived.Deep.RegionHeld3
namespace Go.Proofs.YtannmobmmnoegaaGreat
open Go.RowKit Go.Deep
set_option linter.unusedVariables false
set_option maxRecDepth 20000

/-- A box of two cells that may be written. -/
def BoxQ (w : World) (B : Nat) (c0 c1 : Value) : Prop := w.cell? ⟨B, 0, none⟩ = some c0 ∧ w.cell? ⟨B, 1, none⟩ = some c1 ∧ ∀ i, w.frozen? ⟨B, i, none⟩ = false
theorem BoxQ.below {w w' : World} {B : Nat} {c0 c1 : Value} (h : BoxQ w B c0 c1) (hb : Below w.heap.size w w') : BoxQ w' B c0 c1 :=
  ⟨cell_below h.1 hb, cell_below h.2.1 hb, fun i => (hb.frozen (p := ⟨B, i, none⟩) (show B < w.heap.size from Go.block_lt_of_cell h.1)).trans (h.2.2 i)⟩
theorem imp_of {P Q : Prop} (h : P) (k : P → Q) : Q := k h
theorem own_lo2 {w : World} {lo lo' hi n : Nat} {a : Option Addr} {z : Nat → Int} (h : OwnB w lo hi a n z) (hl : lo ≤ hi) (e : lo = lo') : OwnB w lo' hi a n z ∧ lo' ≤ hi := e ▸ ⟨h, hl⟩
theorem ap_set {V w5 w6 wx : World} {B l1 l2 n1 n2 : Nat} {xa xb : Option Addr} {z1 z2 : Nat → Int} (h1 : V.heap.size ≤ l1) (h2 : w5.heap.size ≤ l2) (hB : B < l1 ∨ w5.heap.size ≤ B ∧ B < l2) (OA : OwnB w5 l1 w5.heap.size xa n1 z1 ∧ l1 ≤ w5.heap.size) (OB : OwnB w6 l2 w6.heap.size xb n2 z2 ∧ l2 ≤ w6.heap.size) (h6 : Below w5.heap.size w5 w6) (hw : Writes B (B + 1) w6 wx) (hs : wx.heap.size = w6.heap.size) :
    V.heap.size ≤ l1 ∧ w5.heap.size ≤ l2 ∧ l1 ≤ w5.heap.size ∧ l2 ≤ wx.heap.size ∧ OwnB wx l1 w5.heap.size xa n1 z1 ∧ OwnB wx l2 wx.heap.size xb n2 z2 := by
  refine ⟨h1, h2, OA.2, by rw [hs]; exact OB.2, (OA.1.below h6).writes hw (by omega), ?_⟩
  rw [hs]
  exact OB.1.writes hw (by omega)
theorem ap_new {V w5 w6 : World} {l1 l2 n1 n2 : Nat} {xa xb : Option Addr} {z1 z2 : Nat → Int} (o : Obj) (h1 : V.heap.size ≤ l1) (h2 : w5.heap.size ≤ l2) (OA : OwnB w5 l1 w5.heap.size xa n1 z1 ∧ l1 ≤ w5.heap.size) (OB : OwnB w6 l2 w6.heap.size xb n2 z2 ∧ l2 ≤ w6.heap.size) (h6 : Below w5.heap.size w5 w6) :
    V.heap.size ≤ l1 ∧ w5.heap.size ≤ l2 ∧ l1 ≤ w5.heap.size ∧ l2 ≤ (w6.alloc o).heap.size ∧ OwnB (w6.alloc o) l1 w5.heap.size xa n1 z1 ∧ OwnB (w6.alloc o) l2 (w6.alloc o).heap.size xb n2 z2 := by
  refine ⟨h1, h2, OA.2, by rw [World.size_alloc]; have := OB.2; omega, (OA.1.below h6).below (below_new _ _), (OB.1.below (below_new _ _)).wide (Nat.le_refl _) (by rw [World.size_alloc]; omega) (Nat.le_refl _)⟩
theorem ap_end_set {V w5 w6 : World} {B l1 l2 n1 n2 da db : Nat} {xa xb : Option Addr} {z1 z2 : Nat → Int} (h1 : V.heap.size ≤ l1) (h2 : w5.heap.size ≤ l2) (hB : B < l1 ∨ w5.heap.size ≤ B ∧ B < l2) (hV : V.heap.size ≤ B) (OA : OwnB w5 l1 w5.heap.size xa n1 z1 ∧ l1 ≤ w5.heap.size) (OB : OwnB w6 l2 w6.heap.size xb n2 z2 ∧ l2 ≤ w6.heap.size) (h56 : Below V.heap.size V w6) (h6 : Below w5.heap.size w5 w6) (hz : BoxQ w6 B (.slice none 0 0) (.slice none 0 0)) :
    ∃ (B' : Nat) (xa' xb' : Option Addr) (da' db' l1' h1' l2' : Nat), Value.pointer (some ⟨B, 0, none⟩) = .pointer (some ⟨B', 0, none⟩) ∧ Hid (Box2 ((w6.setCell ⟨B, 0, none⟩ (.slice xa n1 da)).setCell ⟨B, 1, none⟩ (.slice xb n2 db)) B' (.slice xa' n1 da') (.slice xb' n2 db')) ∧ Hid (Below V.heap.size V ((w6.setCell ⟨B, 0, none⟩ (.slice xa n1 da)).setCell ⟨B, 1, none⟩ (.slice xb n2 db))) ∧ Hid (V.heap.size ≤ l1' ∧ h1' ≤ l2' ∧ l1' ≤ h1' ∧ l2' ≤ ((w6.setCell ⟨B, 0, none⟩ (.slice xa n1 da)).setCell ⟨B, 1, none⟩ (.slice xb n2 db)).heap.size ∧ OwnB ((w6.setCell ⟨B, 0, none⟩ (.slice xa n1 da)).setCell ⟨B, 1, none⟩ (.slice xb n2 db)) l1' h1' xa' n1 z1 ∧ OwnB ((w6.setCell ⟨B, 0, none⟩ (.slice xa n1 da)).setCell ⟨B, 1, none⟩ (.slice xb n2 db)) l2' ((w6.setCell ⟨B, 0, none⟩ (.slice xa n1 da)).setCell ⟨B, 1, none⟩ (.slice xb n2 db)).heap.size xb' n2 z2) := by
  have hw : Writes B (B + 1) w6 ((w6.setCell ⟨B, 0, none⟩ (.slice xa n1 da)).setCell ⟨B, 1, none⟩ (.slice xb n2 db)) := Writes.setCell (Writes.setCell (Writes.refl _ _ _) (p := ⟨B, 0, none⟩) (Nat.le_refl _) (Nat.lt_succ_self _) _) (p := ⟨B, 1, none⟩) (Nat.le_refl _) (Nat.lt_succ_self _) _
  have hs : ((w6.setCell ⟨B, 0, none⟩ (.slice xa n1 da)).setCell ⟨B, 1, none⟩ (.slice xb n2 db)).heap.size = w6.heap.size := by simp [World.setCell]
  exact ⟨B, xa, xb, da, db, l1, w5.heap.size, l2, rfl, ⟨by rw [setO (by omega)]; exact setS hz.1, setS (by rw [setO (by omega)]; exact hz.2.1)⟩, Below.setCell (Below.setCell h56 (p := ⟨B, 0, none⟩) hV _) (p := ⟨B, 1, none⟩) hV _, ap_set h1 h2 hB OA OB h6 hw hs⟩
theorem ap_end_new {V w5 w6 : World} {l1 l2 n1 n2 da db T : Nat} {xa xb : Option Addr} {z1 z2 : Nat → Int} (h1 : V.heap.size ≤ l1) (h2 : w5.heap.size ≤ l2) (OA : OwnB w5 l1 w5.heap.size xa n1 z1 ∧ l1 ≤ w5.heap.size) (OB : OwnB w6 l2 w6.heap.size xb n2 z2 ∧ l2 ≤ w6.heap.size) (h56 : Below V.heap.size V w6) (h6 : Below w5.heap.size w5 w6) :
    ∃ (B' : Nat) (xa' xb' : Option Addr) (da' db' l1' h1' l2' : Nat), Value.pointer (some ⟨w6.heap.size, 0, none⟩) = .pointer (some ⟨B', 0, none⟩) ∧ Hid (Box2 (w6.alloc (.cells #[.slice xa n1 da, .slice xb n2 db] T)) B' (.slice xa' n1 da') (.slice xb' n2 db')) ∧ Hid (Below V.heap.size V (w6.alloc (.cells #[.slice xa n1 da, .slice xb n2 db] T))) ∧ Hid (V.heap.size ≤ l1' ∧ h1' ≤ l2' ∧ l1' ≤ h1' ∧ l2' ≤ (w6.alloc (.cells #[.slice xa n1 da, .slice xb n2 db] T)).heap.size ∧ OwnB (w6.alloc (.cells #[.slice xa n1 da, .slice xb n2 db] T)) l1' h1' xa' n1 z1 ∧ OwnB (w6.alloc (.cells #[.slice xa n1 da, .slice xb n2 db] T)) l2' (w6.alloc (.cells #[.slice xa n1 da, .slice xb n2 db] T)).heap.size xb' n2 z2) := by
  exact ⟨_, xa, xb, da, db, l1, w5.heap.size, l2, rfl, ⟨by simp [go_sem], by simp [go_sem]⟩, below_then h56 (below_new _ _), ap_new _ h1 h2 OA OB h6⟩
/-- joined of two pieces of which the second is the bytes of a record. -/
theorem joined_app (g n : Nat) (z : Nat → Int) (a : Option Addr) (c : Nat) (rs : List Int) (pa : Option Addr) (pc : Nat) (w : World) (hn : n ≤ 4000) (hr : rs.length = 13) (h0 : w.cell? ⟨g, 0, none⟩ = some (.slice a n c)) (h1 : w.cell? ⟨g, 1, none⟩ = some (.slice pa 13 pc)) (ha : BytesAt w a n z) (hp : BytesAt w pa 13 (zOf rs)) :
    Calls Tryz.prog 130 #[.slice (some ⟨g, 0, none⟩) 2 2] w fun e w' => ∃ x d, e = .returned (.slice x (n + 13) d) ∧ Below w.heap.size w w' ∧ OwnB w' w.heap.size w'.heap.size x (n + 13) (zOf (zL z n ++ rs)) := by
  refine (joined_any 2 (two' a pa) (two' n 13) (two' c pc) (two' z (zOf rs)) g 0 2 _ (by simp [sumL, two']; omega) (Go.block_lt_of_cell h0) (fun i hi => ?_) (by omega)).mono ?_
  · rcases (by omega : i = 0 ∨ i = 1) with rfl | rfl
    · exact ⟨h0, ha⟩
    · exact ⟨h1, hp⟩
  · rintro e w' ⟨v, rfl, hb1, ho⟩
    have hj : jn (two' n 13) (two' z (zOf rs)) 2 = zL z n ++ rs := by
      have h := zL_zOf rs
      rw [hr] at h
      simp [jn, two', h]
    rw [hj] at ho
    obtain ⟨x, d, rfl, hown⟩ := ownB_of_row ho
    have hl : (zL z n ++ rs).length = n + 13 := by rw [List.length_append, zL_len, hr]
    rw [hl] at hown
    exact ⟨x, d, by rw [hl], hb1, hown⟩
set_option maxHeartbeats 80000000 in
theorem implAr_any (L : Lo) (a1 a2 : Option Addr) (c1 c2 : Nat) (k t key : Int) (hd : Bool) (old : Int) (hs : Bool) (nw bk : Int) (w : World) (hn1 : L.n1 ≤ 1048576) (hn2 : L.n2 ≤ 1048576) (hby : LogByt L) (h : LogAt w a1 a2 L) :
    Calls Tryz.prog 170 #[.agg #[.slice a1 L.n1 c1, .slice a2 L.n2 c2], .agg #[.int .i64 k, .int .i64 t, .int .i64 key, .bool hd, .int .i64 old, .bool hs, .int .i64 nw, .int .i64 bk]] w (LRes (apC L (rf k t key hd old hs nw bk)) (apS L (rf k t key hd old hs nw bk)) (apL L (rf k t key hd old hs nw bk) (rb k t key hd old hs nw bk)) w) := by
  have HA : Hid (LogAt w a1 a2 L) := h
  have HY : Hid (LogByt L) := hby
  have HBX : Hid (∀ o1 o2 o3 : Obj, o1 = .cells #[.slice a1 L.n1 c1, .slice a2 L.n2 c2] 39 → o2 = .cells #[.int .i64 k, .int .i64 t, .int .i64 key, .bool hd, .int .i64 old, .bool hs, .int .i64 nw, .int .i64 bk] 67 → o3 = .cells #[.int .i64 0, .int .i64 0, .slice none 0 0, .slice none 0 0] 99 → Box2 (((w.alloc o1).alloc o2).alloc o3) w.heap.size (.slice a1 L.n1 c1) (.slice a2 L.n2 c2) ∧ Box8 (((w.alloc o1).alloc o2).alloc o3) (w.heap.size + 1) k t key hd old hs nw bk ∧ Box4 (((w.alloc o1).alloc o2).alloc o3) (w.heap.size + 2) (.int .i64 0) (.int .i64 0) (.slice none 0 0) (.slice none 0 0) ∧ (∀ i, (((w.alloc o1).alloc o2).alloc o3).frozen? ⟨w.heap.size + 2, i, none⟩ = false) ∧ Below w.heap.size w (((w.alloc o1).alloc o2).alloc o3) ∧ (((w.alloc o1).alloc o2).alloc o3).heap.size = w.heap.size + 3) := by
    rintro o1 o2 o3 rfl rfl rfl
    exact ⟨⟨by simp [go_sem], by simp [go_sem]⟩, ⟨by simp [go_sem], by simp [go_sem], by simp [go_sem], by simp [go_sem], by simp [go_sem], by simp [go_sem], by simp [go_sem], by simp [go_sem]⟩, ⟨by simp [go_sem], by simp [go_sem], by simp [go_sem], by simp [go_sem]⟩, fun i => by simp [go_sem], (((Below.refl _ _).alloc (Nat.le_refl _) _).alloc (by simp) _).alloc (by simp; omega) _, by simp⟩
  clear h hby
  go_enter Tryz.func170, Tryz.ntmps170
  go_wp2_with fail
  obtain ⟨hb1, hb8, hb4, hbf, hbw, hbs⟩ := HBX.out _ _ _ rfl rfl rfl
  refine (readLog_any L a1 a2 c1 c2 _ hn1 hn2 HY.out (HA.out.below hbw)).mono ?_
  rintro e w1 ⟨rb1, rcp, u, m, rfl, HE, hbb, -⟩
  have HB1 : Hid (Below w.heap.size w w1) := below_then hbw hbb
  have HL : Hid (Box2 w1 w.heap.size (.slice a1 L.n1 c1) (.slice a2 L.n2 c2)) := hb1.below hbb
  have HR8 : Hid (Box8 w1 (w.heap.size + 1) k t key hd old hs nw bk) := hb8.below hbb
  have HR4 : Hid (Box4 w1 (w.heap.size + 2) (.int .i64 0) (.int .i64 0) (.slice none 0 0) (.slice none 0 0)) := hb4.below hbb
  have HRF : Hid (∀ i, w1.frozen? ⟨w.heap.size + 2, i, none⟩ = false) := fun i => ((bcell hbb).2 _ _ (by rw [hbs]; omega)).trans (hbf i)
  have hz1 : w.heap.size + 3 ≤ w1.heap.size := by have := hbb.size; rw [hbs] at this; exact this
  clear hb1 hb8 hb4 hbf hbw hbs hbb HBX
  go_upto_region 2 with fail
  obtain ⟨W, hW⟩ : ∃ y, y = w1.alloc (.cells #[.int .i64 (lgC L), .int .i64 u, .slice rb1 m rcp] 163) := ⟨_, rfl⟩
  have HBW : Hid (Below w1.heap.size w1 W) := by rw [hW]; exact below_new _ _
  have HRD : Hid (W.cell? ⟨w1.heap.size, 0, none⟩ = some (.int .i64 (lgC L)) ∧ W.cell? ⟨w1.heap.size, 1, none⟩ = some (.int .i64 u) ∧ W.cell? ⟨w1.heap.size, 2, none⟩ = some (.slice rb1 m rcp)) := by rw [hW]; exact ⟨by simp [go_sem], by simp [go_sem], by simp [go_sem]⟩
  have hzW : W.heap.size = w1.heap.size + 1 := by rw [hW]; exact World.size_alloc _ _
  rw [← hW]
  clear hW
  obtain ⟨x0, x1, x2⟩ := HRD.out
  by_cases hc : lgC L = 0
  case neg =>
    have hcc : (lgC L != 0) = true := by simpa using hc
    have HX : Hid (∀ w', Below w.heap.size w w' → LRes (apC L (rf k t key hd old hs nw bk)) (apS L (rf k t key hd old hs nw bk)) (apL L (rf k t key hd old hs nw bk) (rb k t key hd old hs nw bk)) w (.returned (.agg #[.int .i64 (lgC L), .int .i64 0, .slice none 0 0, .slice none 0 0])) w') := fun w' hb => by
      obtain ⟨i1, i2, i3⟩ := ap_log (r := rf k t key hd old hs nw bk) (rb k t key hd old hs nw bk) hc
      rw [i1, i2, i3]; exact lres_none hb
    obtain ⟨r0, r1, r2, r3⟩ := HR4.out.below HBW.out
    have fz : ∀ i, W.frozen? ⟨w.heap.size + 2, i, none⟩ = false := fun i => (HBW.out.frozen (p := ⟨w.heap.size + 2, i, none⟩) (by show w.heap.size + 2 < w1.heap.size; omega)).trans (HRF.out i)
    have HBB : Hid (Below w.heap.size w W) := below_then HB1.out HBW.out
    clear hc HE HRD
    generalize lgC L = c at *
    go_wp2_with fail
    refine bodyPost_ret (v := .agg #[.int .i64 c, .int .i64 0, .slice none 0 0, .slice none 0 0]) (by simp [results, Tryz.results170, go_sem, r0, r1, r2, r3]) rfl ?_
    refine HX.out _ ?_
    repeat (first | with_reducible exact HBB.out | with_reducible refine Below.setCell ?_ (by first | omega | (simp <;> omega)) _)
  obtain ⟨hle, hcnt⟩ := lgC_zero hc
  obtain ⟨hm, hu⟩ := HE.out
  rw [if_pos hc] at hm
  have hu2 : u = ((L.n1 + L.n2 : Nat) : Int) := by rw [hu, hm]; omega
  subst hu2
  have HM : Hid ((m : Int) + 1 = (((L.n1 + L.n2) / 13 + 1 : Nat) : Int)) := by show _ = _; omega
  have HC : Hid (lgC L = 0) := hc
  rw [hc] at x0
  obtain ⟨e0, e1, e2, e3, e4, e5, e6, e7⟩ := HR8.out.below HBW.out
  clear hc hcnt hm hu HE HRD
  go_wp2_with fail
  refine (implPr_any k t key hd old hs nw bk W).mono ?_
  rintro e w2 ⟨pa, pc, rfl, hb2, ho2, -⟩
  have HB2 : Hid (Below W.heap.size W w2) := hb2
  clear hb2 e0 e1 e2 e3 e4 e5 e6 e7
  by_cases hr : rf k t key hd old hs nw bk = 0
  case neg =>
    have hcc : (rf k t key hd old hs nw bk != 0) = true := by simpa using hr
    have HX : Hid (∀ w', Below w.heap.size w w' → LRes (apC L (rf k t key hd old hs nw bk)) (apS L (rf k t key hd old hs nw bk)) (apL L (rf k t key hd old hs nw bk) (rb k t key hd old hs nw bk)) w (.returned (.agg #[.int .i64 (rf k t key hd old hs nw bk), .int .i64 0, .slice none 0 0, .slice none 0 0])) w') := fun w' hb => by
      obtain ⟨i1, i2, i3⟩ := ap_rec (rb k t key hd old hs nw bk) HC.out hr
      rw [i1, i2, i3]; exact lres_none hb
    simp only [if_neg hr, List.length_nil]
    have hz2 := HB2.out.size
    obtain ⟨r0, r1, r2, r3⟩ := (HR4.out.below HBW.out).below HB2.out
    have R0 := fun o : Obj => cell_alloc r0 o
    have R1 := fun o : Obj => cell_alloc r1 o
    have R2 := fun o : Obj => cell_alloc r2 o
    have R3 := fun o : Obj => cell_alloc r3 o
    have fz : ∀ i, w2.frozen? ⟨w.heap.size + 2, i, none⟩ = false := fun i => (HB2.out.frozen (p := ⟨w.heap.size + 2, i, none⟩) (by show w.heap.size + 2 < W.heap.size; omega)).trans ((HBW.out.frozen (p := ⟨w.heap.size + 2, i, none⟩) (by show w.heap.size + 2 < w1.heap.size; omega)).trans (HRF.out i))
    have FZ : ∀ i c t, (w2.alloc (.cells c t)).frozen? ⟨w.heap.size + 2, i, none⟩ = false := fun i c t => by rw [frozen?_alloc_cells]; exact fz i
    have HBB : Hid (∀ o : Obj, Below w.heap.size w (w2.alloc o)) := fun o => below_then (below_then (below_then HB1.out HBW.out) HB2.out) (below_new _ _)
    clear hr ho2 x0 x1 x2
    generalize rf k t key hd old hs nw bk = c at *
    go_wp2_with fail
    refine bodyPost_ret (v := .agg #[.int .i64 c, .int .i64 0, .slice none 0 0, .slice none 0 0]) (by simp [results, Tryz.results170, go_sem, R0, R1, R2, R3]) rfl ?_
    refine HX.out _ ?_
    repeat (first | with_reducible exact HBB.out _ | with_reducible refine Below.setCell ?_ (by first | omega | (simp <;> omega)) _)
  have HRR : Hid (rf k t key hd old hs nw bk = 0) := hr
  simp only [if_pos hr, rb_len] at ho2 ⊢
  rw [hr]
  have HO2 : Hid (OwnB w2 W.heap.size w2.heap.size pa 13 (zOf (rb k t key hd old hs nw bk))) := ho2
  have hz2 := HB2.out.size
  have X0 := fun o : Obj => cell_alloc (cell_below x0 HB2.out) o
  have X1 := fun o : Obj => cell_alloc (cell_below x1 HB2.out) o
  have HBB : Hid (Below w.heap.size w w2) := below_then (below_then HB1.out HBW.out) HB2.out
  obtain ⟨r0, r1, r2, r3⟩ := (HR4.out.below HBW.out).below HB2.out
  have fz : ∀ i, w2.frozen? ⟨w.heap.size + 2, i, none⟩ = false := fun i => (HB2.out.frozen (p := ⟨w.heap.size + 2, i, none⟩) (by show w.heap.size + 2 < W.heap.size; omega)).trans ((HBW.out.frozen (p := ⟨w.heap.size + 2, i, none⟩) (by show w.heap.size + 2 < w1.heap.size; omega)).trans (HRF.out i))
  clear hr ho2
  by_cases hf : 4000 < L.n1 + L.n2 + 13
  · have HX : Hid (∀ w', Below w.heap.size w w' → LRes (apC L (rf k t key hd old hs nw bk)) (apS L (rf k t key hd old hs nw bk)) (apL L (rf k t key hd old hs nw bk) (rb k t key hd old hs nw bk)) w (.returned (.agg #[.int .i64 2, .int .i64 0, .slice none 0 0, .slice none 0 0])) w') := fun w' hb => by
      obtain ⟨i1, i2, i3⟩ := ap_full (rb k t key hd old hs nw bk) HC.out HRR.out hf
      rw [i1, i2, i3]; exact lres_none hb
    have R0 := fun o : Obj => cell_alloc r0 o
    have R1 := fun o : Obj => cell_alloc r1 o
    have R2 := fun o : Obj => cell_alloc r2 o
    have R3 := fun o : Obj => cell_alloc r3 o
    have FZ : ∀ i c t, (w2.alloc (.cells c t)).frozen? ⟨w.heap.size + 2, i, none⟩ = false := fun i c t => by rw [frozen?_alloc_cells]; exact fz i
    have HBA : Hid (∀ o : Obj, Below w.heap.size w (w2.alloc o)) := fun o => below_then HBB.out (below_new _ _)
    have hf1 : (4000 : Int) < (L.n1 : Int) + (L.n2 : Int) + 13 := by omega
    have hf2 : decide ((4000 : Int) < (L.n1 : Int) + (L.n2 : Int) + 13) = true := decide_eq_true hf1
    clear hf x0 x1 x2
    go_wp2_with fail
    refine bodyPost_ret (v := .agg #[.int .i64 2, .int .i64 0, .slice none 0 0, .slice none 0 0]) (by simp [results, Tryz.results170, go_sem, R0, R1, R2, R3]) rfl ?_
    refine HX.out _ ?_
    repeat (first | with_reducible exact HBA.out _ | with_reducible refine Below.setCell ?_ (by first | omega | (simp <;> omega)) _)
  have hf1 : ¬ ((4000 : Int) < (L.n1 : Int) + (L.n2 : Int) + 13) := by omega
  have hf2 : decide ((4000 : Int) < (L.n1 : Int) + (L.n2 : Int) + 13) = false := decide_eq_false hf1
  have HF : Hid (L.n1 + L.n2 + 13 ≤ 4000) := by show _ ≤ _; omega
  go_upto_region 9 with fail
  obtain ⟨V, hV⟩ : ∃ y, y = w2.alloc (.cells #[.int .i64 0, .slice pa 13 pc] 211) := ⟨_, rfl⟩
  have HBV : Hid (Below w2.heap.size w2 V) := by rw [hV]; exact below_new _ _
  have p0 : V.cell? ⟨w2.heap.size, 0, none⟩ = some (.int .i64 0) := by rw [hV]; simp [go_sem]
  have p1 : V.cell? ⟨w2.heap.size, 1, none⟩ = some (.slice pa 13 pc) := by rw [hV]; simp [go_sem]
  have hzV : V.heap.size = w2.heap.size + 1 := by rw [hV]; exact World.size_alloc _ _
  rw [← hV]
  clear hV
  obtain ⟨q0, q1⟩ := ((HL.out.below HBW.out).below HB2.out).below HBV.out
  have HLV : Hid (LogAt V a1 a2 L) := (((HA.out.below HB1.out).below HBW.out).below HB2.out).below HBV.out
  have HB1A : Hid (BytesAt V a1 L.n1 L.z1) := HLV.out.1
  have HB2A : Hid (BytesAt V a2 L.n2 L.z2) := HLV.out.2
  have HPA : Hid (BytesAt V pa 13 (zOf (rb k t key hd old hs nw bk))) := HO2.out.at.below HBV.out
  have HRL : Hid ((rb k t key hd old hs nw bk).length = 13) := rb_len _ _ _ _ _ _ _ _
  have Q0 := fun o : Obj => cell_alloc q0 o
  have Q1 := fun o : Obj => cell_alloc q1 o
  have P1 := fun o : Obj => cell_alloc p1 o
  have Q0b := fun o o' : Obj => cell_alloc (cell_alloc q0 o) o'
  have Q1b := fun o o' : Obj => cell_alloc (cell_alloc q1 o) o'
  have P1b := fun o o' : Obj => cell_alloc (cell_alloc p1 o) o'
  have Q0c := fun o o' o3 : Obj => cell_alloc (cell_alloc (cell_alloc q0 o) o') o3
  have Q1c := fun o o' o3 : Obj => cell_alloc (cell_alloc (cell_alloc q1 o) o') o3
  have P1c := fun o o' o3 : Obj => cell_alloc (cell_alloc (cell_alloc p1 o) o') o3
  have hn9 : L.n1 ≤ 90000 := by omega
  have hn2k : L.n2 ≤ 4000 := by omega
  have HX : Hid (Below V.heap.size V V) := Below.refl _ _
  have HVZ : Hid (V.heap.size = w2.heap.size + 1) := hzV
  have HX2 : Hid (W.cell? ⟨w1.heap.size, 2, none⟩ = some (.slice rb1 m rcp)) := x2
  have HZW : Hid (W.heap.size = w1.heap.size + 1) := hzW
  clear x0 x1 x2 X0 X1 hf hf1 hf2 r0 r1 r2 r3 fz hzV hzW
  generalize Value.agg #[.int .i64 k, .int .i64 t, .int .i64 key, .bool hd, .int .i64 old, .bool hs, .int .i64 nw, .int .i64 bk] = RV at *
  generalize Value.agg #[.slice a1 L.n1 c1, .slice a2 L.n2 c2] = LV at *
  go_cut [7] (fun c7 wx => ∃ (B : Nat) (xa xb : Option Addr) (da db l1 h1 l2 : Nat), c7 = .pointer (some ⟨B, 0, none⟩) ∧ Hid (Box2 wx B (.slice xa L.n1 da) (.slice xb (L.n2 + 13) db)) ∧ Hid (Below V.heap.size V wx) ∧ Hid (V.heap.size ≤ l1 ∧ h1 ≤ l2 ∧ l1 ≤ h1 ∧ l2 ≤ wx.heap.size ∧ OwnB wx l1 h1 xa L.n1 L.z1 ∧ OwnB wx l2 wx.heap.size xb (L.n2 + 13) (zOf (zL L.z2 L.n2 ++ rb k t key hd old hs nw bk))))
  case first =>
    go_region_held3 (fun w' => w'.cell? ⟨w.heap.size, 0, none⟩ = some (.slice a1 L.n1 c1) ∧ w'.cell? ⟨w.heap.size, 1, none⟩ = some (.slice a2 L.n2 c2) ∧ w'.cell? ⟨w2.heap.size, 1, none⟩ = some (.slice pa 13 pc)) (first | (go_keep; done) | (have hk5 := HX5.out.size; have hk8 := HZW.out; have hk9 := HVZ.out; refine ⟨?_, ?_, ?_⟩ <;> (rw [World.cell?_setCell_far _ _ _ _ (by dsimp only; omega), World.cell?_setCell_far _ _ _ _ (by dsimp only; omega)]; assumption))) (first | (have hguard := HX5.out; clear hguard; go_at_call 130; refine (joined_app _ L.n2 L.z2 a2 c2 (rb k t key hd old hs nw bk) pa pc _ hn2k HRL.out (by first | exact yy.1 | exact cell_alloc yy.1 _ | simp [go_sem]) (by first | exact yy.2 | exact cell_alloc yy.2 _ | simp [go_sem]) ((HB2A.out.below HX5.out).below (by repeat (first | exact (Below.refl _ _ : Below w5.heap.size w5 w5) | apply Below.drew | refine Below.alloc ?_ (by first | omega | (simp <;> omega)) _))) ((HPA.out.below HX5.out).below (by repeat (first | exact (Below.refl _ _ : Below w5.heap.size w5 w5) | apply Below.drew | refine Below.alloc ?_ (by first | omega | (simp <;> omega)) _)))).mono ?_; rintro e w6 ⟨xb, db, rfl, hb6, ho6⟩; have HX6 : Hid (Below w5.heap.size w5 w6) := below_then (by repeat (first | exact (Below.refl _ _ : Below w5.heap.size w5 w5) | apply Below.drew | refine Below.alloc ?_ (by first | omega | (simp <;> omega)) _)) hb6; (first | (refine imp_of (P := OwnB w6 (w5.heap.size) w6.heap.size xb (L.n2 + 13) (zOf (zL L.z2 L.n2 ++ rb k t key hd old hs nw bk)) ∧ w5.heap.size ≤ w6.heap.size) ?_ ?_; refine own_lo2 ho6 hb6.size ?_; simp; intro OB) | (refine imp_of (P := OwnB w6 (w5.heap.size + 1) w6.heap.size xb (L.n2 + 13) (zOf (zL L.z2 L.n2 ++ rb k t key hd old hs nw bk)) ∧ w5.heap.size + 1 ≤ w6.heap.size) ?_ ?_; refine own_lo2 ho6 hb6.size ?_; simp; intro OB) | (refine imp_of (P := OwnB w6 (w5.heap.size + 2) w6.heap.size xb (L.n2 + 13) (zOf (zL L.z2 L.n2 ++ rb k t key hd old hs nw bk)) ∧ w5.heap.size + 2 ≤ w6.heap.size) ?_ ?_; refine own_lo2 ho6 hb6.size ?_; simp; intro OB)); (first | (have zz := BoxQ.below zz hb6) | (have zz := BoxQ.below (BoxQ.below zz (below_new _ _)) hb6) | (refine imp_of (P := BoxQ w6 (w5.heap.size) (.slice none 0 0) (.slice none 0 0)) ?_ ?_; refine BoxQ.below ?_ hb6; simp [BoxQ, go_sem]; intro zz) | (refine imp_of (P := BoxQ w6 (w5.heap.size + 1) (.slice none 0 0) (.slice none 0 0)) ?_ ?_; refine BoxQ.below ?_ hb6; simp [BoxQ, go_sem]; intro zz) | skip); (first | (have zy := zz; obtain ⟨z0, z1, zf⟩ := zy) | skip); have m0 := cell_below l0 HX6.out; have m1 := cell_below l1 HX6.out; have n1 := cell_below k1 HX6.out; clear hb6 ho6) | (go_at_call 130; refine (joined_one _ a1 L.n1 c1 L.z1 _ hn9 (by simp [go_sem]) (HB1A.out.below (by have hq1 := HX.out.size; repeat (first | exact HX.out | apply Below.drew | refine Below.alloc ?_ (by first | omega | (simp <;> omega)) _)))).mono ?_; rintro e w5 ⟨xa, da, rfl, hb5, ho5⟩; have HX5 : Hid (Below V.heap.size V w5) := below_then (by have hq1 := HX.out.size; repeat (first | exact HX.out | apply Below.drew | refine Below.alloc ?_ (by first | omega | (simp <;> omega)) _)) hb5; (first | (refine imp_of (P := OwnB w5 (V.heap.size + 1) w5.heap.size xa L.n1 L.z1 ∧ V.heap.size + 1 ≤ w5.heap.size) ?_ ?_; refine own_lo2 ho5 hb5.size ?_; simp; intro OA) | (refine imp_of (P := OwnB w5 (V.heap.size + 2) w5.heap.size xa L.n1 L.z1 ∧ V.heap.size + 2 ≤ w5.heap.size) ?_ ?_; refine own_lo2 ho5 hb5.size ?_; simp; intro OA) | (refine imp_of (P := OwnB w5 (V.heap.size + 3) w5.heap.size xa L.n1 L.z1 ∧ V.heap.size + 3 ≤ w5.heap.size) ?_ ?_; refine own_lo2 ho5 hb5.size ?_; simp; intro OA)); (first | (refine imp_of (P := BoxQ w5 (V.heap.size) (.slice none 0 0) (.slice none 0 0)) ?_ ?_; refine BoxQ.below ?_ hb5; simp [BoxQ, go_sem]; intro zz) | (refine imp_of (P := BoxQ w5 (V.heap.size + 1) (.slice none 0 0) (.slice none 0 0)) ?_ ?_; refine BoxQ.below ?_ hb5; simp [BoxQ, go_sem]; intro zz) | (refine imp_of (P := BoxQ w5 (V.heap.size + 2) (.slice none 0 0) (.slice none 0 0)) ?_ ?_; refine BoxQ.below ?_ hb5; simp [BoxQ, go_sem]; intro zz) | skip); (first | (refine imp_of (P := Box2 w5 (V.heap.size) (.slice a2 L.n2 c2) (.slice pa 13 pc)) ?_ ?_; refine Box2.below ?_ hb5; simp [Box2, go_sem]; intro yy) | (refine imp_of (P := Box2 w5 (V.heap.size + 1) (.slice a2 L.n2 c2) (.slice pa 13 pc)) ?_ ?_; refine Box2.below ?_ hb5; simp [Box2, go_sem]; intro yy) | (refine imp_of (P := Box2 w5 (V.heap.size + 2) (.slice a2 L.n2 c2) (.slice pa 13 pc)) ?_ ?_; refine Box2.below ?_ hb5; simp [Box2, go_sem]; intro yy) | skip); have l0 := cell_below q0 HX5.out; have l1 := cell_below q1 HX5.out; have k0 := cell_below p0 HX5.out; have k1 := cell_below p1 HX5.out; have L0 := fun o : Obj => cell_alloc l0 o; have L1 := fun o : Obj => cell_alloc l1 o; have K1 := fun o : Obj => cell_alloc k1 o; have L1b := fun o o' : Obj => cell_alloc (cell_alloc l1 o) o'; have K1b := fun o o' : Obj => cell_alloc (cell_alloc k1 o) o'; clear hb5 ho5))
    all_goals
      have h56 := below_then HX5.out HX6.out
      have hz5 := HX5.out.size
      have hz6 := HX6.out.size
      go_wp2_with fail
      go_meet
      first
        | (have hguard := z0; clear hguard; refine ap_end_set ?_ ?_ ?_ ?_ OA OB h56 HX6.out zz)
        | (refine ap_end_new ?_ ?_ OA OB h56 HX6.out)
      all_goals omega
  case rest =>
    obtain ⟨B, xa, xb, da, db, l1, h1, l2, rfl, HBX7, HBc, HOW⟩ := hcut
    obtain ⟨b0, b1⟩ := HBX7.out
    have hzc := HBc.out.size
    have hVZ := HVZ.out
    have HB7 : Hid (Below w2.heap.size w2 wc) := below_then HBV.out HBc.out
    obtain ⟨r0, r1, r2, r3⟩ := ((HR4.out.below HBW.out).below HB2.out).below HB7.out
    have hzW := HZW.out
    have x2' := cell_below (cell_below HX2.out HB2.out) HB7.out
    have fz : ∀ i, wc.frozen? ⟨w.heap.size + 2, i, none⟩ = false := fun i => (HB7.out.frozen (p := ⟨w.heap.size + 2, i, none⟩) (by show w.heap.size + 2 < w2.heap.size; omega)).trans ((HB2.out.frozen (p := ⟨w.heap.size + 2, i, none⟩) (by show w.heap.size + 2 < W.heap.size; omega)).trans ((HBW.out.frozen (p := ⟨w.heap.size + 2, i, none⟩) (by show w.heap.size + 2 < w1.heap.size; omega)).trans (HRF.out i)))
    have hm13 := HM.out
    have hF := HF.out
    have hwm : IntKind.i64.wrap ((m : Int) + 1) = (m : Int) + 1 := by rw [IntKind.wrap_i64]; omega
    have HXX : Hid (∀ w', Writes (w.heap.size + 2) (w.heap.size + 3) wc w' → w'.heap.size = wc.heap.size → LRes (apC L (rf k t key hd old hs nw bk)) (apS L (rf k t key hd old hs nw bk)) (apL L (rf k t key hd old hs nw bk) (rb k t key hd old hs nw bk)) w (.returned (.agg #[.int .i64 0, .int .i64 ((m : Int) + 1), .slice xa L.n1 da, .slice xb (L.n2 + 13) db])) w') := fun w' hw hs7 => by
      obtain ⟨i1, i2, i3⟩ := ap_ok (rb k t key hd old hs nw bk) HC.out HRR.out HF.out
      rw [i1, i2, i3, ← HM.out]
      obtain ⟨g1, g2, g3, g4, g5, g6⟩ := HOW.out
      refine ⟨xa, xb, da, db, rfl, Writes.below (below_then HBB.out HB7.out) hw (by omega), by omega, l1, h1, l2, wc.heap.size, by omega, by omega, by omega, by omega, .inl g2, g5.writes hw (.inr (by omega)), ?_⟩
      exact g6.writes hw (.inr (by omega))
    clear HOW HBX7 hm13 hF
    go_wp2_with fail
    refine bodyPost_ret (v := .agg #[.int .i64 0, .int .i64 ((m : Int) + 1), .slice xa L.n1 da, .slice xb (L.n2 + 13) db]) (by simp [results, Tryz.results170, go_sem, r0, r1, r2, r3]) rfl ?_
    refine HXX.out _ ?_ (by simp [World.setCell])
    repeat (first | with_reducible exact Writes.refl _ _ _ | with_reducible refine Writes.setCell ?_ (by first | omega | (simp <;> omega)) (by first | omega | (simp <;> omega)) _)
end Go.Proofs.YtannmobmmnoegaaGreat
