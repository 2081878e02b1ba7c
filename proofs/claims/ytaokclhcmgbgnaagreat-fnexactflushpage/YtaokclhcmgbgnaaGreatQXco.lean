/- impl.writePage where the disk has to be synced first. -/
import Derived.Test.YtaokclhcmgbgnaaGreatQBase
import Derived.Test.YtaokclhcmgbgnaaGreatQSpl
import Derived.Test.YtaokclhcmgbgnaaGreatQFpa
import Derived.Test.YtaokclhcmgbgnaaGreatQZec
import Derived.Test.YtaokclhcmgbgnaaGreatQWae
namespace Go.Proofs.YtaokclhcmgbgnaaGreat
open Go.ChangeShapes Go.WideShapes Go.ChangeAt Go.RowKit Go.Deep Go.Joins
set_option linter.unusedVariables false
set_option maxRecDepth 20000
set_option linter.unusedSimpArgs false

theorem sumL_const (x : Nat) : ∀ n, sumL (fun _ => x) n = n * x
  | 0 => by simp [sumL]
  | n + 1 => by simp only [sumL, sumL_const x n]; rw [Nat.succ_mul]
theorem small_sy {D : Dk} (h : GoodD D) (F : Nat → Int) (k : Nat) : Small (syD D F k) := by
  have h1 := h.n8
  refine ⟨by simp [syD]; omega, by simp [syD], fun i _ => by simp [syD], fun i _ => by simp [syD], ?_, ?_⟩
  · simp only [syD, sumL_const]; omega
  · simp [syD, sumL]
theorem rD0 (X : Dk) : rD 0 X = X := if_pos rfl
theorem rD2 (X : Dk) : rD 2 X = E0 := if_neg (by decide)
/-- A disk that is answered, in a box d, both made since V. -/
def DT (c : Int) (X : Dk) (V wx : World) (d : Nat) (a a' : Option Addr) (c1 c2 : Nat) : Prop :=
  V.heap.size ≤ d ∧ Below V.heap.size V wx ∧ Box3 wx d (.int .i64 c) (.slice a X.n c1) (.slice a' X.m c2) ∧ (∀ i, wx.frozen? ⟨d, i, none⟩ = false) ∧ ∃ l h, V.heap.size ≤ l ∧ l ≤ h ∧ h ≤ wx.heap.size ∧ (d < l ∨ h ≤ d) ∧ OwnD wx l h a a' X
theorem DT.a {c : Int} {X : Dk} {V y0 w5 : World} {a a' : Option Addr} {c1 c2 : Nat} (ty : TypeId) (h0 : Below V.heap.size V y0) (hb : Below y0.heap.size y0 w5) (ho : OwnD w5 y0.heap.size w5.heap.size a a' X) :
    DT c X V (w5.alloc (.cells #[.int .i64 c, .slice a X.n c1, .slice a' X.m c2] ty)) w5.heap.size a a' c1 c2 := by
  have z0 := h0.size
  have z1 := hb.size
  exact ⟨by omega, below_then (below_then h0 hb) (below_new _ _), Box3.new _ _ _ _ _, fun i => by simp [go_sem], y0.heap.size, w5.heap.size, z0, z1, by rw [World.size_alloc]; omega, .inr (Nat.le_refl _), ho.below (below_new _ _)⟩
theorem DT.set {c : Int} {X : Dk} {V w5 : World} {a a' : Option Addr} {c1 c2 d l h : Nat} {u0 u1 u2 : Value} (hd : V.heap.size ≤ d) (h0 : Below V.heap.size V w5) (hbx : Box3 w5 d u0 u1 u2) (hf : ∀ i, w5.frozen? ⟨d, i, none⟩ = false) (hl : V.heap.size ≤ l) (hlh : l ≤ h) (hh : h ≤ w5.heap.size) (hdl : d < l ∨ h ≤ d) (ho : OwnD w5 l h a a' X) :
    DT c X V (((w5.setCell ⟨d, 0, none⟩ (.int .i64 c)).setCell ⟨d, 1, none⟩ (.slice a X.n c1)).setCell ⟨d, 2, none⟩ (.slice a' X.m c2)) d a a' c1 c2 := by
  obtain ⟨r0, r1, r2⟩ := hbx
  have hw : Writes d (d + 1) w5 (((w5.setCell ⟨d, 0, none⟩ (.int .i64 c)).setCell ⟨d, 1, none⟩ (.slice a X.n c1)).setCell ⟨d, 2, none⟩ (.slice a' X.m c2)) :=
    (((Writes.refl _ _ _).setCell (p := ⟨d, 0, none⟩) (Nat.le_refl _) (Nat.lt_succ_self _) _).setCell (p := ⟨d, 1, none⟩) (Nat.le_refl _) (Nat.lt_succ_self _) _).setCell (p := ⟨d, 2, none⟩) (Nat.le_refl _) (Nat.lt_succ_self _) _
  refine ⟨hd, hw.below h0 hd, ⟨?_, ?_, ?_⟩, fun i => by simp only [World.frozen?_setCell]; exact hf i, l, h, hl, hlh, by have := hw.size; omega, hdl, ho.writes hw (by omega)⟩
  · rw [setO (by omega), setO (by omega)]; exact setS r0
  · rw [setO (by omega)]; exact setS (by rw [setO (by omega)]; exact r1)
  · exact setS (by rw [setO (by omega), setO (by omega)]; exact r2)
theorem DT.b {c : Int} {X : Dk} {V y0 y1 w5 : World} {a a' : Option Addr} {c1 c2 : Nat} {u0 u1 u2 : Value} (h0 : Below V.heap.size V y0) (h1 : Below y0.heap.size y0 y1) (hs : y1.heap.size = y0.heap.size + 1) (hbx : Box3 y1 y0.heap.size u0 u1 u2) (hb : Below y1.heap.size y1 w5) (ho : OwnD w5 y1.heap.size w5.heap.size a a' X) (hf : ∀ i, y1.frozen? ⟨y0.heap.size, i, none⟩ = false) :
    DT c X V (((w5.setCell ⟨y0.heap.size, 0, none⟩ (.int .i64 c)).setCell ⟨y0.heap.size, 1, none⟩ (.slice a X.n c1)).setCell ⟨y0.heap.size, 2, none⟩ (.slice a' X.m c2)) y0.heap.size a a' c1 c2 := by
  have z0 := h0.size
  have z1 := hb.size
  exact DT.set z0 (below_then (below_then h0 h1) hb) (hbx.below hb) (fun i => (hb.frozen (p := ⟨y0.heap.size, i, none⟩) (by show y0.heap.size < y1.heap.size; omega)).trans (hf i)) (l := y1.heap.size) (h := w5.heap.size) (by omega) z1 (Nat.le_refl _) (.inl (by omega)) ho
/-- The end of writePage: the disk is laid into the store at work. -/
theorem wp_end {s1 : Sto} {n : Nat} {xs : List Value} {lo : Nat} {col col1 : Nat → Nat} {B d c1 c2 : Nat} {w V X : World} {a a' : Option Addr} {D : Dk} {c : Int} (HK : Wk s1 n xs lo col1 B V) (HF : WkF col B w V) (HC : ∀ x, x < w.heap.size → col1 x ≠ 0 → col x ≠ 0) (HD : DT c D V X d a a' c1 c2) (R : Sto) (hR : dkS s1 D = R) :
    CoR 0 R lo B col w (.returned (.int .i64 0)) ((X.setCell ⟨B, 2, none⟩ (.slice a D.n c1)).setCell ⟨B, 3, none⟩ (.slice a' D.m c2)) := by
  obtain ⟨k1, k2, k3⟩ := HK.lt
  obtain ⟨q1, q2, q3, q4, l, h, q5, q6, q7, q8, q9⟩ := HD
  have hw : Writes B (B + 1) X ((X.setCell ⟨B, 2, none⟩ (.slice a D.n c1)).setCell ⟨B, 3, none⟩ (.slice a' D.m c2)) := ((Writes.refl _ _ _).setCell (p := ⟨B, 2, none⟩) (Nat.le_refl _) (Nat.lt_succ_self _) _).setCell (p := ⟨B, 3, none⟩) (Nat.le_refl _) (Nat.lt_succ_self _) _
  have hsz := HF.size
  have hW := (HK.below q2).disk (d1 := c1) (d2 := c2) (by omega) q6 q7 (fun x x1 x2 => ⟨by
    by_cases e : col1 x = 0
    · exact e
    · have := (k3 x e).2; omega, by omega⟩) q9
  refine ⟨dkS s1 D, n, xs, colr col1 l h 2, rfl, fun _ => hR, fun x hx q => ?_, (HF.trans (WkF.of_below (col := col1) q2) HC).trans (WkF.of_writes (col := col) hw) (fun _ _ h => h), hW⟩
  refine HC x hx ?_
  unfold colr at q
  rwa [if_neg (by omega)] at q
set_option maxHeartbeats 16000000 in
theorem writePage_room (s : Sto) (n : Nat) (xs : List Value) (lo : Nat) (col : Nat → Nat) (B k : Nat) (w : World) (hG : GoodSt s) (hS : SmSt s) (hby : LogByt s.g) (hk : k < 4) (H : Wk s n xs lo col B w) (hcp : LgCap s.g.n1 B w) (hm : ¬ 57 < s.d.m) :
    Calls Tryz.prog 40 #[.pointer (some ⟨B, 0, none⟩), .int .i64 k] w (CoR 0 (fpS s k) lo B col w) := by
  have HWC : Hid (wrC s.d (s.pT k).id (s.pT k).lsn (s.pT k).cn (s.pT k).cK (s.pT k).cV = 0 ∧ wrD s.d (s.pT k).id (s.pT k).lsn (s.pT k).cn (s.pT k).cK (s.pT k).cV = fpD s k) := wr_room hG hk hm
  have HWK : Hid (Wk s n xs lo col B w) := H
  have HG : Hid (GoodSt s) := hG
  have HS : Hid (SmSt s) := hS
  have HBY : Hid (LogByt s.g) := hby
  have HSD : Hid (Small s.d) := hS.2.1
  have HCN : Hid ((s.pT k).cn ≤ 1048576) := by have := hG.cells k hk; show _ ≤ _; omega
  have hff : ∀ (c u : Int) (a1 a2 : Option Addr) (n1 c1 n2 c2 : Nat) (w : World), (Instr.field 153 (.agg #[.int .i64 c, .int .i64 u, .slice a1 n1 c1, .slice a2 n2 c2]) 2).run Tryz.prog w = .ok (.agg #[.slice a1 n1 c1, .slice a2 n2 c2]) w := fun _ _ _ _ _ _ _ _ _ => by kernel_rfl
  have hfd : ∀ (c : Int) (a1 a2 : Option Addr) (n1 c1 n2 c2 : Nat) (w : World), (Instr.field 156 (.agg #[.int .i64 c, .slice a1 n1 c1, .slice a2 n2 c2]) 1).run Tryz.prog w = .ok (.agg #[.slice a1 n1 c1, .slice a2 n2 c2]) w := fun _ _ _ _ _ _ _ _ => by kernel_rfl
  obtain ⟨k1, k2, k3⟩ := H.lt
  obtain ⟨e0, pb, ca, cc, u1, ⟨p0, p1, p2⟩, hca⟩ := H.page (k := k) (by rw [hG.pn]; exact hk)
  have HCP0 : Hid (∀ w', w.heap.size ≤ w'.heap.size → (∀ x, col x ≠ 0 → x < w.heap.size → w'.heap[x]? = w.heap[x]?) → CellsAt w' ca (s.pT k).cn (s.pT k).cK (s.pT k).cV) := hca
  obtain ⟨b0, e00, b1, e1, b2, e2, b3, e3, b4, e4, b5, e5, b6, e6, ra, rc, -, hbx, -, -, hfz, hcB, hpc, -⟩ := H
  have HIO : Hid (InSt w b0 b1 b2 b3 b4 b5 b6 s) := hpc.own.at
  have u4 : w.cell? ⟨B, 4, none⟩ = some (.slice b3 s.g.n1 e3) := hbx.2.2.2.2.1
  have u5 : w.cell? ⟨B, 5, none⟩ = some (.slice b4 s.g.n2 e4) := hbx.2.2.2.2.2.1
  have HCP : Hid (s.g.n1 ≤ e3) := hcp _ _ u4
  have HLG : Hid (lgC s.g = 0) := hG.lg
  have hn4 := (lgC_zero hG.lg).1
  have hkn : (k : Int) < (s.pn : Int) := by have := hG.pn; omega
  have hk0 : (0 : Int) ≤ (k : Int) := by omega
  obtain ⟨N, HN⟩ : ∃ N, Hid (cnt s.g.z1 s.g.n1 = N) := ⟨_, rfl⟩
  have HN13 : Hid (N = s.g.n1 / 13) := by show N = _; rw [← HN.out]; exact cnt_sure hG.lg
  have HHC : Hid (col B = 0) := hcB
  have HFZ : Hid (∀ i, w.frozen? ⟨B, i, none⟩ = false) := hfz
  clear hpc hbx hca hG hS hby hcp hcB hfz
  go_enter Tryz.func40, Tryz.ntmps40
  go_upto_region 2 with fail
  obtain ⟨W, hW⟩ : ∃ x, x = w.alloc (.cells #[.int .i64 (s.pT k).id, .int .i64 (s.pT k).lsn, .slice ca (s.pT k).cn cc] 66) := ⟨_, rfl⟩
  have HB0 : Hid (Below w.heap.size w W) := by rw [hW]; exact below_new _ _
  have HWS : Hid (W.heap.size = w.heap.size + 1) := by rw [hW]; simp [Hid]
  have HPW : Hid (Box3 W w.heap.size (.int .i64 (s.pT k).id) (.int .i64 (s.pT k).lsn) (.slice ca (s.pT k).cn cc)) := by rw [hW]; exact Box3.new _ _ _ _ _
  rw [← hW]
  clear hW p0 p1 p2 u1
  have v1 : W.cell? ⟨w.heap.size, 1, none⟩ = some (.int .i64 (s.pT k).lsn) := HPW.out.2.1
  have v4 := cell_below u4 HB0.out
  have v5 := cell_below u5 HB0.out
  have HIW : Hid (InSt W b0 b1 b2 b3 b4 b5 b6 s) := HIO.out.below HB0.out
  clear u4 u5
  have hb0 : Below W.heap.size W W.drew := (Below.refl _ _).drew
  go_region_held3 (fun u => Below W.heap.size W u ∧ u.cell? ⟨w.heap.size, 1, none⟩ = some (.int .i64 (s.pT k).lsn) ∧ u.cell? ⟨B, 4, none⟩ = some (.slice b3 s.g.n1 e3) ∧ u.cell? ⟨B, 5, none⟩ = some (.slice b4 s.g.n2 e4)) (go_keep)
    (first | (go_at_call 99; refine (sureRecs_2 s.g b3 b4 e3 e4 _ HCP.out (by omega) HBY.out (HIW.out.2.2.1.below (by simp [*]))).mono ?_; rintro e w2 ⟨ra2, rc2, rfl, hb2, -⟩; rw [HN.out]; have hU := below_then (w := W) (by simp [*]) hb2; have hU1 := cell_below (B := w.heap.size) (o := 1) (v := .int .i64 (s.pT k).lsn) (by simp [*]) hb2; have hU4 := cell_below (B := B) (o := 4) (v := .slice b3 s.g.n1 e3) (by simp [*]) hb2; have hU5 := cell_below (B := B) (o := 5) (v := .slice b4 s.g.n2 e4) (by simp [*]) hb2))
  have HB2 : Hid (Below W.heap.size W w2) := hU
  have HBw2 : Hid (Below w.heap.size w w2) := below_then HB0.out hU
  have HP2 : Hid (Box3 w2 w.heap.size (.int .i64 (s.pT k).id) (.int .i64 (s.pT k).lsn) (.slice ca (s.pT k).cn cc)) := HPW.out.below hU
  have HK2 : Hid (Wk s n xs lo col B w2) := HWK.out.below (below_then HB0.out hU)
  clear hb2 hU hU1 v1 v4 v5 hb0
  by_cases hfl : (N : Int) < (s.pT k).lsn
  · have HGG : Hid (flL s.g = fpG s k) := by show flL s.g = fpG s k; unfold fpG; rw [if_pos (by rw [← HN13.out]; exact hfl)]
    go_wp2_with fail
    refine (implFl_any s.g b3 b4 e3 e4 w2 (by omega) (by omega) HBY.out (HIW.out.2.2.1.below HB2.out)).mono ?_
    rw [HLG.out]
    rintro e w3 ⟨x1, x2, m1, m2, rfl, hb3, ho3⟩
    have y4 := cell_below hU4 hb3
    have y5 := cell_below hU5 hb3
    have yf : ∀ i, w3.frozen? ⟨B, i, none⟩ = false := fun i => ((below_then HBw2.out hb3).frozen (p := ⟨B, i, none⟩) k2).trans (HFZ.out i)
    obtain ⟨g1, HG1⟩ : ∃ g1, Hid (flL s.g = g1) := ⟨_, rfl⟩
    rw [HG1.out] at ho3 HGG ⊢
    go_upto_region 4 with fail
    obtain ⟨V, hV⟩ : ∃ x, x = (w3.setCell ⟨B, 4, none⟩ (.slice x1 g1.n1 m1)).setCell ⟨B, 5, none⟩ (.slice x2 g1.n2 m2) := ⟨_, rfl⟩
    have hw : Writes B (B + 1) w3 V := by rw [hV]; exact ((Writes.refl _ _ _).setCell (p := ⟨B, 4, none⟩) (Nat.le_refl _) (Nat.lt_succ_self _) _).setCell (p := ⟨B, 5, none⟩) (Nat.le_refl _) (Nat.lt_succ_self _) _
    have hl2 := HK2.out.lt
    have HKV : Hid (Wk (lgG s g1) n xs lo (colr col w2.heap.size w3.heap.size 3) B V) := by
      rw [hV]
      exact Wk.logG (HK2.out.below hb3) (by omega) hb3.size (Nat.le_refl _) (fun y y1 y2 => ⟨by
        by_cases e : col y = 0
        · exact e
        · have := (hl2.2.2 y e).2; omega, by omega⟩) ho3
    have hst := set_step2 (col := col) (B := B) (p := 4) (q := 5) (v := .slice x1 g1.n1 m1) (u := .slice x2 g1.n2 m2) (k5 := 3) hb3
    rw [← hV] at hst ⊢
    have HFx : Hid (WkF col B w V) := (WkF.of_below HBw2.out).trans hst.1 (fun _ _ h => h)
    have HCV : Hid (∀ x, x < w.heap.size → colr col w2.heap.size w3.heap.size 3 x ≠ 0 → col x ≠ 0) := fun x hx q => hst.2 x (by have := HBw2.out.size; omega) q
    have HPV : Hid (Box3 V w.heap.size (.int .i64 (s.pT k).id) (.int .i64 (s.pT k).lsn) (.slice ca (s.pT k).cn cc)) := (HP2.out.below hb3).writes hw (by omega)
    have HCA0 : Hid (CellsAt V ca (s.pT k).cn (s.pT k).cK (s.pT k).cV) := HCP0.out V (by have := HBw2.out.size; have := hb3.size; have := hw.size; omega) (fun x hx hl => by
      have hxB : x ≠ B := fun e => by rw [e] at hx; exact hx HHC.out
      have hs2 := HBw2.out.size
      have hs3 := hb3.size
      rw [hw.block x (by omega) (by omega), hb3.block x (by omega), HBw2.out.block x hl])
    have HRR : Hid (dkS (lgG s g1) (fpD s k) = fpS s k) := by show dkS (lgG s g1) (fpD s k) = fpS s k; rw [HGG.out]; rfl
    clear hV hw hst hb3 ho3 y4 y5 yf hU4 hU5 hfl hl2
    have HFV : Hid (WkF col B w V) := HFx.out
    obtain ⟨d0, f0, d1, f1, d2, f2, d3, f3, d4, f4, d5, f5, d6, f6, ra1, rc1, -, hbx, -, -, hfz, -, hpc, -⟩ := HKV.out
    have HBV : Hid (BoxS V B (.int .i64 s.nx) (.slice d0 s.pn f0) (.slice d1 s.d.n f1) (.slice d2 s.d.m f2) (.slice d3 g1.n1 f3) (.slice d4 g1.n2 f4) (.slice d5 s.hn f5) (.slice d6 s.on f6)) := hbx
    have HBL : Hid (B < V.heap.size) := hbx.lt
    have HBF : Hid (∀ i, V.frozen? ⟨B, i, none⟩ = false) := hfz
    have HD2 : Hid (V.cell? ⟨B, 2, none⟩ = some (.slice d1 s.d.n f1) ∧ V.cell? ⟨B, 3, none⟩ = some (.slice d2 s.d.m f2)) := ⟨hbx.2.2.1, hbx.2.2.2.1⟩
    have HDA : Hid (DiskAt V d1 d2 s.d) := hpc.own.at.2.1
    have HCA : Hid (∀ u, Below V.heap.size V u → CellsAt u ca (s.pT k).cn (s.pT k).cK (s.pT k).cV) := fun u hu => (HCA0.out).below hu
    clear hbx hpc hfz
    refine wp_region_E 7 (S := fun u => (u.cell? ⟨B, 2, none⟩ = some (.slice d1 s.d.n f1) ∧ u.cell? ⟨B, 3, none⟩ = some (.slice d2 s.d.m f2)) ∧ Box3 u w.heap.size (.int .i64 (s.pT k).id) (.int .i64 (s.pT k).lsn) (.slice ca (s.pT k).cn cc)) (by kernel_rfl) ⟨⟨HD2.out.1, HD2.out.2⟩, HPV.out⟩ (fun hS => ?_)
    obtain ⟨y0, hy0⟩ : ∃ y, y = V.drew := ⟨_, rfl⟩
    have HVY : Hid (Below V.heap.size V y0) := by rw [hy0]; exact (Below.refl _ _).drew
    have HYS : Hid (y0.heap.size = V.heap.size) := by rw [hy0]; rfl
    rw [← hy0] at hS ⊢
    clear hy0
    refine wpAnyE_takeD (L := 7) (i := 0) (v := .pointer (some ⟨B, 0, none⟩)) (some 32) rfl rfl (by kernel_rfl) (by kernel_rfl) (by kernel_rfl) (by kernel_rfl) (fun _ _ _ h => h) (Or.inl ⟨by kernel_rfl, by intro u hSu; go_simp⟩) hS ?_
    try simp only [Act.put, List.setIfInBounds_toArray, List.set_cons_zero, List.set_cons_succ]
    refine wpAnyE_takeD (L := 7) (i := 1) (v := .pointer (some ⟨B, 0, none⟩)) (some 33) rfl rfl (by kernel_rfl) (by kernel_rfl) (by kernel_rfl) (by kernel_rfl) (fun _ _ _ h => h) (Or.inl ⟨by kernel_rfl, by intro u hSu; go_simp⟩) hS ?_
    try simp only [Act.put, List.setIfInBounds_toArray, List.set_cons_zero, List.set_cons_succ]
    refine wpAnyE_takeD (L := 7) (i := 2) (v := .pointer (some ⟨B, 2, none⟩)) (some 34) rfl rfl (by kernel_rfl) (by kernel_rfl) (by kernel_rfl) (by kernel_rfl) (fun _ _ _ h => h) (Or.inl ⟨by kernel_rfl, by intro u hSu; go_simp⟩) hS ?_
    try simp only [Act.put, List.setIfInBounds_toArray, List.set_cons_zero, List.set_cons_succ]
    refine wpAnyE_takeD (L := 7) (i := 3) (v := .agg #[.slice d1 s.d.n f1, .slice d2 s.d.m f2]) (some 35) rfl rfl (by kernel_rfl) (by kernel_rfl) (by kernel_rfl) (by kernel_rfl) (fun _ _ _ h => h) (Or.inl ⟨by kernel_rfl, by intro u hSu; obtain ⟨⟨g2, g3⟩, -⟩ := hSu; go_simp⟩) hS ?_
    try simp only [Act.put, List.setIfInBounds_toArray, List.set_cons_zero, List.set_cons_succ]
    refine wpAnyE_takeD (L := 7) (i := 4) (v := .agg #[.int .i64 (s.pT k).id, .int .i64 (s.pT k).lsn, .slice ca (s.pT k).cn cc]) (some 36) rfl rfl (by kernel_rfl) (by kernel_rfl) (by kernel_rfl) (by kernel_rfl) (fun _ _ _ h => h) (Or.inl ⟨by kernel_rfl, by intro u hSu; obtain ⟨-, g0, g1, g2⟩ := hSu; go_simp⟩) hS ?_
    try simp only [Act.put, List.setIfInBounds_toArray, List.set_cons_zero, List.set_cons_succ]
    refine wpAnyE_ready (rs := [5, 6]) (by kernel_rfl) (by simp) ?_
    refine AllReadyE.cons rfl (fun K9 hK => ?_) (AllReadyE.cons rfl (fun K9 hK => ?_) AllReadyE.nil)
    · go_simp
      refine (implWriteP_any s.d (s.pT k).id (s.pT k).lsn (s.pT k).cn (s.pT k).cK (s.pT k).cV d1 d2 f1 f2 ca cc y0 HSD.out HCN.out (HDA.out.below HVY.out) (HCA.out y0 HVY.out)).mono ?_
      rw [HWC.out.1, HWC.out.2]
      rintro e w5 ⟨a5, a6, c5, c6, rfl, hb5, ho5⟩
      rw [rD0] at ho5 ⊢
      refine hK.out _ _ (⟨⟨cell_below hS.1.1 hb5, cell_below hS.1.2 hb5⟩, hS.2.below hb5⟩) (fun hS9 => ?_)
      try simp only [Act.put, List.setIfInBounds_toArray, List.set_cons_zero, List.set_cons_succ]
      clear hK K9 hS
      have hS := hS9
      clear hS9
      refine wpAnyE_ready (rs := [6]) (by kernel_rfl) (by simp) ?_
      refine AllReadyE.cons rfl (fun K9 hK => ?_) AllReadyE.nil
      go_simp
      refine hK.out _ _ (⟨⟨cell_below hS.1.1 (below_new _ _), cell_below hS.1.2 (below_new _ _)⟩, hS.2.below (below_new _ _)⟩) (fun hS9 => ?_)
      try simp only [Act.put, List.setIfInBounds_toArray, List.set_cons_zero, List.set_cons_succ]
      clear hK K9 hS
      have hS := hS9
      clear hS9
      refine wpAnyE_ready (rs := [7]) (by kernel_rfl) (by simp) ?_
      refine AllReadyE.last rfl (fun K9 hK => ?_)
      go_simp
      refine hK.out _ _ ?_
      try simp only [Act.put, List.setIfInBounds_toArray, List.set_cons_zero, List.set_cons_succ]
      clear hK K9 hS
      refine wpAnyE_done (by kernel_rfl) ?_ _
      go_simp
      have HDT : Hid (DT 0 (fpD s k) V (w5.alloc (.cells #[.int .i64 0, .slice a5 (fpD s k).n c5, .slice a6 (fpD s k).m c6] 156)) w5.heap.size a5 a6 c5 c6) := DT.a _ HVY.out hb5 ho5
      obtain ⟨X, hX⟩ : ∃ x, x = w5.alloc (.cells #[.int .i64 0, .slice a5 (fpD s k).n c5, .slice a6 (fpD s k).m c6] 156) := ⟨_, rfl⟩
      rw [← hX] at HDT ⊢
      clear hX hb5 ho5
      obtain ⟨N5, hN5⟩ : ∃ n5, n5 = w5.heap.size := ⟨_, rfl⟩
      rw [← hN5] at HDT ⊢
      clear hN5 w5
      obtain ⟨q1, q2, ⟨r0, r1, r2⟩, rf5, -⟩ := HDT.out
      have HBX : Hid (BoxS X B (.int .i64 s.nx) (.slice d0 s.pn f0) (.slice d1 s.d.n f1) (.slice d2 s.d.m f2) (.slice d3 g1.n1 f3) (.slice d4 g1.n2 f4) (.slice d5 s.hn f5) (.slice d6 s.on f6)) := HBV.out.below q2
      have t2 := HBX.out.2.2.1
      have t3 := HBX.out.2.2.2.1
      have tf : ∀ i, X.frozen? ⟨B, i, none⟩ = false := fun i => (q2.frozen (p := ⟨B, i, none⟩) HBL.out).trans (HBF.out i)
      have hne : ¬ N5 = B := by have := HBL.out; omega
      have hne' : ¬ B = N5 := by have := HBL.out; omega
      have HEND : Hid (CoR 0 (fpS s k) lo B col w (.returned (.int .i64 0)) ((X.setCell ⟨B, 2, none⟩ (.slice a5 (fpD s k).n c5)).setCell ⟨B, 3, none⟩ (.slice a6 (fpD s k).m c6))) := wp_end HKV.out HFV.out HCV.out HDT.out (fpS s k) HRR.out
      clear HBX q1 q2
      go_wp2_with fail
      go_ret
      exact HEND.out
    · go_simp
      have HYA : Hid (Below y0.heap.size y0 (y0.alloc (.cells #[.int .i64 0, .slice none 0 0, .slice none 0 0] 156))) := below_new _ _
      refine hK.out _ _ (⟨⟨cell_below hS.1.1 (below_new _ _), cell_below hS.1.2 (below_new _ _)⟩, hS.2.below (below_new _ _)⟩) (fun hS9 => ?_)
      try simp only [Act.put, List.setIfInBounds_toArray, List.set_cons_zero, List.set_cons_succ]
      clear hK K9 hS
      have hS := hS9
      clear hS9
      obtain ⟨y1, hy1⟩ : ∃ x, x = y0.alloc (.cells #[.int .i64 0, .slice none 0 0, .slice none 0 0] 156) := ⟨_, rfl⟩
      have HB3 : Hid (Box3 y1 y0.heap.size (.int .i64 0) (.slice none 0 0) (.slice none 0 0)) := by rw [hy1]; exact Box3.new _ _ _ _ _
      have HF3 : Hid (∀ i, y1.frozen? ⟨y0.heap.size, i, none⟩ = false) := fun i => by rw [hy1]; simp [go_sem]
      have HS3 : Hid (y1.heap.size = y0.heap.size + 1) := by rw [hy1]; simp [Hid]
      rw [← hy1] at HYA hS ⊢
      clear hy1
      refine wpAnyE_ready (rs := [5]) (by kernel_rfl) (by simp) ?_
      refine AllReadyE.cons rfl (fun K9 hK => ?_) AllReadyE.nil
      go_simp
      refine (implWriteP_any s.d (s.pT k).id (s.pT k).lsn (s.pT k).cn (s.pT k).cK (s.pT k).cV d1 d2 f1 f2 ca cc y1 HSD.out HCN.out (HDA.out.below (below_then HVY.out HYA.out)) (HCA.out y1 (below_then HVY.out HYA.out))).mono ?_
      rw [HWC.out.1, HWC.out.2]
      rintro e w5 ⟨a5, a6, c5, c6, rfl, hb5, ho5⟩
      rw [rD0] at ho5 ⊢
      obtain ⟨r0, r1, r2⟩ := HB3.out.below hb5
      have rf5 : ∀ i, w5.frozen? ⟨y0.heap.size, i, none⟩ = false := fun i => (hb5.frozen (p := ⟨y0.heap.size, i, none⟩) (by show y0.heap.size < y1.heap.size; have := HS3.out; omega)).trans (HF3.out i)
      refine hK.out _ _ (⟨⟨cell_below hS.1.1 hb5, cell_below hS.1.2 hb5⟩, hS.2.below hb5⟩) (fun hS9 => ?_)
      try simp only [Act.put, List.setIfInBounds_toArray, List.set_cons_zero, List.set_cons_succ]
      clear hK K9 hS
      have hS := hS9
      clear hS9
      refine wpAnyE_ready (rs := [7]) (by kernel_rfl) (by simp) ?_
      refine AllReadyE.last rfl (fun K9 hK => ?_)
      go_simp
      refine hK.out _ _ ?_
      try simp only [Act.put, List.setIfInBounds_toArray, List.set_cons_zero, List.set_cons_succ]
      clear hK K9 hS
      refine wpAnyE_done (by kernel_rfl) ?_ _
      go_simp
      have HDT : Hid (DT 0 (fpD s k) V (((w5.setCell ⟨y0.heap.size, 0, none⟩ (.int .i64 0)).setCell ⟨y0.heap.size, 1, none⟩ (.slice a5 (fpD s k).n c5)).setCell ⟨y0.heap.size, 2, none⟩ (.slice a6 (fpD s k).m c6)) y0.heap.size a5 a6 c5 c6) := DT.b HVY.out HYA.out HS3.out HB3.out hb5 ho5 HF3.out
      obtain ⟨X, hX⟩ : ∃ x, x = ((w5.setCell ⟨y0.heap.size, 0, none⟩ (.int .i64 0)).setCell ⟨y0.heap.size, 1, none⟩ (.slice a5 (fpD s k).n c5)).setCell ⟨y0.heap.size, 2, none⟩ (.slice a6 (fpD s k).m c6) := ⟨_, rfl⟩
      rw [← hX] at HDT ⊢
      clear hX hb5 ho5 r0 r1 r2 rf5
      obtain ⟨N5, hN5⟩ : ∃ n5, n5 = y0.heap.size := ⟨_, rfl⟩
      rw [← hN5] at HDT ⊢
      clear hN5 HB3 HF3 HS3 HYA
      obtain ⟨q1, q2, ⟨r0, r1, r2⟩, rf5, -⟩ := HDT.out
      have HBX : Hid (BoxS X B (.int .i64 s.nx) (.slice d0 s.pn f0) (.slice d1 s.d.n f1) (.slice d2 s.d.m f2) (.slice d3 g1.n1 f3) (.slice d4 g1.n2 f4) (.slice d5 s.hn f5) (.slice d6 s.on f6)) := HBV.out.below q2
      have t2 := HBX.out.2.2.1
      have t3 := HBX.out.2.2.2.1
      have tf : ∀ i, X.frozen? ⟨B, i, none⟩ = false := fun i => (q2.frozen (p := ⟨B, i, none⟩) HBL.out).trans (HBF.out i)
      have hne : ¬ N5 = B := by have := HBL.out; omega
      have hne' : ¬ B = N5 := by have := HBL.out; omega
      have HEND : Hid (CoR 0 (fpS s k) lo B col w (.returned (.int .i64 0)) ((X.setCell ⟨B, 2, none⟩ (.slice a5 (fpD s k).n c5)).setCell ⟨B, 3, none⟩ (.slice a6 (fpD s k).m c6))) := wp_end HKV.out HFV.out HCV.out HDT.out (fpS s k) HRR.out
      clear HBX q1 q2
      go_wp2_with fail
      go_ret
      exact HEND.out
  · have HGG : Hid (s.g = fpG s k) := by show s.g = fpG s k; unfold fpG; rw [if_neg (by rw [← HN13.out]; exact hfl)]
    go_upto_region 4 with fail
    obtain ⟨V, hV⟩ : ∃ x, x = w2 := ⟨_, rfl⟩
    rw [← hV] at HK2 HP2 HBw2 ⊢
    obtain ⟨g1, HG1⟩ : ∃ g1, Hid (s.g = g1) := ⟨_, rfl⟩
    rw [HG1.out] at HGG
    have HKV : Hid (Wk (lgG s g1) n xs lo col B V) := by show Wk (lgG s g1) n xs lo col B V; rw [← HG1.out]; exact HK2.out
    have HFx : Hid (WkF col B w V) := WkF.of_below HBw2.out
    have HCV : Hid (∀ x, x < w.heap.size → col x ≠ 0 → col x ≠ 0) := fun x _ q => q
    have HPV : Hid (Box3 V w.heap.size (.int .i64 (s.pT k).id) (.int .i64 (s.pT k).lsn) (.slice ca (s.pT k).cn cc)) := HP2.out
    have HCA0 : Hid (CellsAt V ca (s.pT k).cn (s.pT k).cK (s.pT k).cV) := HCP0.out V HBw2.out.size (fun x _ hl => HBw2.out.block x hl)
    have HRR : Hid (dkS (lgG s g1) (fpD s k) = fpS s k) := by show dkS (lgG s g1) (fpD s k) = fpS s k; rw [HGG.out]; rfl
    clear hV hU4 hU5 hfl
    have HFV : Hid (WkF col B w V) := HFx.out
    obtain ⟨d0, f0, d1, f1, d2, f2, d3, f3, d4, f4, d5, f5, d6, f6, ra1, rc1, -, hbx, -, -, hfz, -, hpc, -⟩ := HKV.out
    have HBV : Hid (BoxS V B (.int .i64 s.nx) (.slice d0 s.pn f0) (.slice d1 s.d.n f1) (.slice d2 s.d.m f2) (.slice d3 g1.n1 f3) (.slice d4 g1.n2 f4) (.slice d5 s.hn f5) (.slice d6 s.on f6)) := hbx
    have HBL : Hid (B < V.heap.size) := hbx.lt
    have HBF : Hid (∀ i, V.frozen? ⟨B, i, none⟩ = false) := hfz
    have HD2 : Hid (V.cell? ⟨B, 2, none⟩ = some (.slice d1 s.d.n f1) ∧ V.cell? ⟨B, 3, none⟩ = some (.slice d2 s.d.m f2)) := ⟨hbx.2.2.1, hbx.2.2.2.1⟩
    have HDA : Hid (DiskAt V d1 d2 s.d) := hpc.own.at.2.1
    have HCA : Hid (∀ u, Below V.heap.size V u → CellsAt u ca (s.pT k).cn (s.pT k).cK (s.pT k).cV) := fun u hu => (HCA0.out).below hu
    clear hbx hpc hfz
    refine wp_region_E 7 (S := fun u => (u.cell? ⟨B, 2, none⟩ = some (.slice d1 s.d.n f1) ∧ u.cell? ⟨B, 3, none⟩ = some (.slice d2 s.d.m f2)) ∧ Box3 u w.heap.size (.int .i64 (s.pT k).id) (.int .i64 (s.pT k).lsn) (.slice ca (s.pT k).cn cc)) (by kernel_rfl) ⟨⟨HD2.out.1, HD2.out.2⟩, HPV.out⟩ (fun hS => ?_)
    obtain ⟨y0, hy0⟩ : ∃ y, y = V.drew := ⟨_, rfl⟩
    have HVY : Hid (Below V.heap.size V y0) := by rw [hy0]; exact (Below.refl _ _).drew
    have HYS : Hid (y0.heap.size = V.heap.size) := by rw [hy0]; rfl
    rw [← hy0] at hS ⊢
    clear hy0
    refine wpAnyE_takeD (L := 7) (i := 0) (v := .pointer (some ⟨B, 0, none⟩)) (some 32) rfl rfl (by kernel_rfl) (by kernel_rfl) (by kernel_rfl) (by kernel_rfl) (fun _ _ _ h => h) (Or.inl ⟨by kernel_rfl, by intro u hSu; go_simp⟩) hS ?_
    try simp only [Act.put, List.setIfInBounds_toArray, List.set_cons_zero, List.set_cons_succ]
    refine wpAnyE_takeD (L := 7) (i := 1) (v := .pointer (some ⟨B, 0, none⟩)) (some 33) rfl rfl (by kernel_rfl) (by kernel_rfl) (by kernel_rfl) (by kernel_rfl) (fun _ _ _ h => h) (Or.inl ⟨by kernel_rfl, by intro u hSu; go_simp⟩) hS ?_
    try simp only [Act.put, List.setIfInBounds_toArray, List.set_cons_zero, List.set_cons_succ]
    refine wpAnyE_takeD (L := 7) (i := 2) (v := .pointer (some ⟨B, 2, none⟩)) (some 34) rfl rfl (by kernel_rfl) (by kernel_rfl) (by kernel_rfl) (by kernel_rfl) (fun _ _ _ h => h) (Or.inl ⟨by kernel_rfl, by intro u hSu; go_simp⟩) hS ?_
    try simp only [Act.put, List.setIfInBounds_toArray, List.set_cons_zero, List.set_cons_succ]
    refine wpAnyE_takeD (L := 7) (i := 3) (v := .agg #[.slice d1 s.d.n f1, .slice d2 s.d.m f2]) (some 35) rfl rfl (by kernel_rfl) (by kernel_rfl) (by kernel_rfl) (by kernel_rfl) (fun _ _ _ h => h) (Or.inl ⟨by kernel_rfl, by intro u hSu; obtain ⟨⟨g2, g3⟩, -⟩ := hSu; go_simp⟩) hS ?_
    try simp only [Act.put, List.setIfInBounds_toArray, List.set_cons_zero, List.set_cons_succ]
    refine wpAnyE_takeD (L := 7) (i := 4) (v := .agg #[.int .i64 (s.pT k).id, .int .i64 (s.pT k).lsn, .slice ca (s.pT k).cn cc]) (some 36) rfl rfl (by kernel_rfl) (by kernel_rfl) (by kernel_rfl) (by kernel_rfl) (fun _ _ _ h => h) (Or.inl ⟨by kernel_rfl, by intro u hSu; obtain ⟨-, g0, g1, g2⟩ := hSu; go_simp⟩) hS ?_
    try simp only [Act.put, List.setIfInBounds_toArray, List.set_cons_zero, List.set_cons_succ]
    refine wpAnyE_ready (rs := [5, 6]) (by kernel_rfl) (by simp) ?_
    refine AllReadyE.cons rfl (fun K9 hK => ?_) (AllReadyE.cons rfl (fun K9 hK => ?_) AllReadyE.nil)
    · go_simp
      refine (implWriteP_any s.d (s.pT k).id (s.pT k).lsn (s.pT k).cn (s.pT k).cK (s.pT k).cV d1 d2 f1 f2 ca cc y0 HSD.out HCN.out (HDA.out.below HVY.out) (HCA.out y0 HVY.out)).mono ?_
      rw [HWC.out.1, HWC.out.2]
      rintro e w5 ⟨a5, a6, c5, c6, rfl, hb5, ho5⟩
      rw [rD0] at ho5 ⊢
      refine hK.out _ _ (⟨⟨cell_below hS.1.1 hb5, cell_below hS.1.2 hb5⟩, hS.2.below hb5⟩) (fun hS9 => ?_)
      try simp only [Act.put, List.setIfInBounds_toArray, List.set_cons_zero, List.set_cons_succ]
      clear hK K9 hS
      have hS := hS9
      clear hS9
      refine wpAnyE_ready (rs := [6]) (by kernel_rfl) (by simp) ?_
      refine AllReadyE.cons rfl (fun K9 hK => ?_) AllReadyE.nil
      go_simp
      refine hK.out _ _ (⟨⟨cell_below hS.1.1 (below_new _ _), cell_below hS.1.2 (below_new _ _)⟩, hS.2.below (below_new _ _)⟩) (fun hS9 => ?_)
      try simp only [Act.put, List.setIfInBounds_toArray, List.set_cons_zero, List.set_cons_succ]
      clear hK K9 hS
      have hS := hS9
      clear hS9
      refine wpAnyE_ready (rs := [7]) (by kernel_rfl) (by simp) ?_
      refine AllReadyE.last rfl (fun K9 hK => ?_)
      go_simp
      refine hK.out _ _ ?_
      try simp only [Act.put, List.setIfInBounds_toArray, List.set_cons_zero, List.set_cons_succ]
      clear hK K9 hS
      refine wpAnyE_done (by kernel_rfl) ?_ _
      go_simp
      have HDT : Hid (DT 0 (fpD s k) V (w5.alloc (.cells #[.int .i64 0, .slice a5 (fpD s k).n c5, .slice a6 (fpD s k).m c6] 156)) w5.heap.size a5 a6 c5 c6) := DT.a _ HVY.out hb5 ho5
      obtain ⟨X, hX⟩ : ∃ x, x = w5.alloc (.cells #[.int .i64 0, .slice a5 (fpD s k).n c5, .slice a6 (fpD s k).m c6] 156) := ⟨_, rfl⟩
      rw [← hX] at HDT ⊢
      clear hX hb5 ho5
      obtain ⟨N5, hN5⟩ : ∃ n5, n5 = w5.heap.size := ⟨_, rfl⟩
      rw [← hN5] at HDT ⊢
      clear hN5 w5
      obtain ⟨q1, q2, ⟨r0, r1, r2⟩, rf5, -⟩ := HDT.out
      have HBX : Hid (BoxS X B (.int .i64 s.nx) (.slice d0 s.pn f0) (.slice d1 s.d.n f1) (.slice d2 s.d.m f2) (.slice d3 g1.n1 f3) (.slice d4 g1.n2 f4) (.slice d5 s.hn f5) (.slice d6 s.on f6)) := HBV.out.below q2
      have t2 := HBX.out.2.2.1
      have t3 := HBX.out.2.2.2.1
      have tf : ∀ i, X.frozen? ⟨B, i, none⟩ = false := fun i => (q2.frozen (p := ⟨B, i, none⟩) HBL.out).trans (HBF.out i)
      have hne : ¬ N5 = B := by have := HBL.out; omega
      have hne' : ¬ B = N5 := by have := HBL.out; omega
      have HEND : Hid (CoR 0 (fpS s k) lo B col w (.returned (.int .i64 0)) ((X.setCell ⟨B, 2, none⟩ (.slice a5 (fpD s k).n c5)).setCell ⟨B, 3, none⟩ (.slice a6 (fpD s k).m c6))) := wp_end HKV.out HFV.out HCV.out HDT.out (fpS s k) HRR.out
      clear HBX q1 q2
      go_wp2_with fail
      go_ret
      exact HEND.out
    · go_simp
      have HYA : Hid (Below y0.heap.size y0 (y0.alloc (.cells #[.int .i64 0, .slice none 0 0, .slice none 0 0] 156))) := below_new _ _
      refine hK.out _ _ (⟨⟨cell_below hS.1.1 (below_new _ _), cell_below hS.1.2 (below_new _ _)⟩, hS.2.below (below_new _ _)⟩) (fun hS9 => ?_)
      try simp only [Act.put, List.setIfInBounds_toArray, List.set_cons_zero, List.set_cons_succ]
      clear hK K9 hS
      have hS := hS9
      clear hS9
      obtain ⟨y1, hy1⟩ : ∃ x, x = y0.alloc (.cells #[.int .i64 0, .slice none 0 0, .slice none 0 0] 156) := ⟨_, rfl⟩
      have HB3 : Hid (Box3 y1 y0.heap.size (.int .i64 0) (.slice none 0 0) (.slice none 0 0)) := by rw [hy1]; exact Box3.new _ _ _ _ _
      have HF3 : Hid (∀ i, y1.frozen? ⟨y0.heap.size, i, none⟩ = false) := fun i => by rw [hy1]; simp [go_sem]
      have HS3 : Hid (y1.heap.size = y0.heap.size + 1) := by rw [hy1]; simp [Hid]
      rw [← hy1] at HYA hS ⊢
      clear hy1
      refine wpAnyE_ready (rs := [5]) (by kernel_rfl) (by simp) ?_
      refine AllReadyE.cons rfl (fun K9 hK => ?_) AllReadyE.nil
      go_simp
      refine (implWriteP_any s.d (s.pT k).id (s.pT k).lsn (s.pT k).cn (s.pT k).cK (s.pT k).cV d1 d2 f1 f2 ca cc y1 HSD.out HCN.out (HDA.out.below (below_then HVY.out HYA.out)) (HCA.out y1 (below_then HVY.out HYA.out))).mono ?_
      rw [HWC.out.1, HWC.out.2]
      rintro e w5 ⟨a5, a6, c5, c6, rfl, hb5, ho5⟩
      rw [rD0] at ho5 ⊢
      obtain ⟨r0, r1, r2⟩ := HB3.out.below hb5
      have rf5 : ∀ i, w5.frozen? ⟨y0.heap.size, i, none⟩ = false := fun i => (hb5.frozen (p := ⟨y0.heap.size, i, none⟩) (by show y0.heap.size < y1.heap.size; have := HS3.out; omega)).trans (HF3.out i)
      refine hK.out _ _ (⟨⟨cell_below hS.1.1 hb5, cell_below hS.1.2 hb5⟩, hS.2.below hb5⟩) (fun hS9 => ?_)
      try simp only [Act.put, List.setIfInBounds_toArray, List.set_cons_zero, List.set_cons_succ]
      clear hK K9 hS
      have hS := hS9
      clear hS9
      refine wpAnyE_ready (rs := [7]) (by kernel_rfl) (by simp) ?_
      refine AllReadyE.last rfl (fun K9 hK => ?_)
      go_simp
      refine hK.out _ _ ?_
      try simp only [Act.put, List.setIfInBounds_toArray, List.set_cons_zero, List.set_cons_succ]
      clear hK K9 hS
      refine wpAnyE_done (by kernel_rfl) ?_ _
      go_simp
      have HDT : Hid (DT 0 (fpD s k) V (((w5.setCell ⟨y0.heap.size, 0, none⟩ (.int .i64 0)).setCell ⟨y0.heap.size, 1, none⟩ (.slice a5 (fpD s k).n c5)).setCell ⟨y0.heap.size, 2, none⟩ (.slice a6 (fpD s k).m c6)) y0.heap.size a5 a6 c5 c6) := DT.b HVY.out HYA.out HS3.out HB3.out hb5 ho5 HF3.out
      obtain ⟨X, hX⟩ : ∃ x, x = ((w5.setCell ⟨y0.heap.size, 0, none⟩ (.int .i64 0)).setCell ⟨y0.heap.size, 1, none⟩ (.slice a5 (fpD s k).n c5)).setCell ⟨y0.heap.size, 2, none⟩ (.slice a6 (fpD s k).m c6) := ⟨_, rfl⟩
      rw [← hX] at HDT ⊢
      clear hX hb5 ho5 r0 r1 r2 rf5
      obtain ⟨N5, hN5⟩ : ∃ n5, n5 = y0.heap.size := ⟨_, rfl⟩
      rw [← hN5] at HDT ⊢
      clear hN5 HB3 HF3 HS3 HYA
      obtain ⟨q1, q2, ⟨r0, r1, r2⟩, rf5, -⟩ := HDT.out
      have HBX : Hid (BoxS X B (.int .i64 s.nx) (.slice d0 s.pn f0) (.slice d1 s.d.n f1) (.slice d2 s.d.m f2) (.slice d3 g1.n1 f3) (.slice d4 g1.n2 f4) (.slice d5 s.hn f5) (.slice d6 s.on f6)) := HBV.out.below q2
      have t2 := HBX.out.2.2.1
      have t3 := HBX.out.2.2.2.1
      have tf : ∀ i, X.frozen? ⟨B, i, none⟩ = false := fun i => (q2.frozen (p := ⟨B, i, none⟩) HBL.out).trans (HBF.out i)
      have hne : ¬ N5 = B := by have := HBL.out; omega
      have hne' : ¬ B = N5 := by have := HBL.out; omega
      have HEND : Hid (CoR 0 (fpS s k) lo B col w (.returned (.int .i64 0)) ((X.setCell ⟨B, 2, none⟩ (.slice a5 (fpD s k).n c5)).setCell ⟨B, 3, none⟩ (.slice a6 (fpD s k).m c6))) := wp_end HKV.out HFV.out HCV.out HDT.out (fpS s k) HRR.out
      clear HBX q1 q2
      go_wp2_with fail
      go_ret
      exact HEND.out
set_option maxHeartbeats 16000000 in
theorem writePage_full (s : Sto) (n : Nat) (xs : List Value) (lo : Nat) (col : Nat → Nat) (B k : Nat) (w : World) (hG : GoodSt s) (hS : SmSt s) (hby : LogByt s.g) (hk : k < 4) (H : Wk s n xs lo col B w) (hcp : LgCap s.g.n1 B w) (hm : 57 < s.d.m) :
    Calls Tryz.prog 40 #[.pointer (some ⟨B, 0, none⟩), .int .i64 k] w (CoR 0 (fpS s k) lo B col w) := by
  have HWC : Hid (wrC s.d (s.pT k).id (s.pT k).lsn (s.pT k).cn (s.pT k).cK (s.pT k).cV = 2) := wr_full hG hk hm
  have HW2 : Hid (wrC (syD s.d idF s.d.m) (s.pT k).id (s.pT k).lsn (s.pT k).cn (s.pT k).cK (s.pT k).cV = 0 ∧ wrD (syD s.d idF s.d.m) (s.pT k).id (s.pT k).lsn (s.pT k).cn (s.pT k).cK (s.pT k).cV = fpD s k) := wr_sync hG hk hm
  have HSY : Hid (Small (syD s.d idF s.d.m)) := small_sy (goodD_of hG.df) idF s.d.m
  have HDF : Hid (df s.d = 0) := hG.df
  have HWK : Hid (Wk s n xs lo col B w) := H
  have HG : Hid (GoodSt s) := hG
  have HS : Hid (SmSt s) := hS
  have HBY : Hid (LogByt s.g) := hby
  have HSD : Hid (Small s.d) := hS.2.1
  have HCN : Hid ((s.pT k).cn ≤ 1048576) := by have := hG.cells k hk; show _ ≤ _; omega
  have hff : ∀ (c u : Int) (a1 a2 : Option Addr) (n1 c1 n2 c2 : Nat) (w : World), (Instr.field 153 (.agg #[.int .i64 c, .int .i64 u, .slice a1 n1 c1, .slice a2 n2 c2]) 2).run Tryz.prog w = .ok (.agg #[.slice a1 n1 c1, .slice a2 n2 c2]) w := fun _ _ _ _ _ _ _ _ _ => by kernel_rfl
  have hfd : ∀ (c : Int) (a1 a2 : Option Addr) (n1 c1 n2 c2 : Nat) (w : World), (Instr.field 156 (.agg #[.int .i64 c, .slice a1 n1 c1, .slice a2 n2 c2]) 1).run Tryz.prog w = .ok (.agg #[.slice a1 n1 c1, .slice a2 n2 c2]) w := fun _ _ _ _ _ _ _ _ => by kernel_rfl
  obtain ⟨k1, k2, k3⟩ := H.lt
  obtain ⟨e0, pb, ca, cc, u1, ⟨p0, p1, p2⟩, hca⟩ := H.page (k := k) (by rw [hG.pn]; exact hk)
  have HCP0 : Hid (∀ w', w.heap.size ≤ w'.heap.size → (∀ x, col x ≠ 0 → x < w.heap.size → w'.heap[x]? = w.heap[x]?) → CellsAt w' ca (s.pT k).cn (s.pT k).cK (s.pT k).cV) := hca
  obtain ⟨b0, e00, b1, e1, b2, e2, b3, e3, b4, e4, b5, e5, b6, e6, ra, rc, -, hbx, -, -, hfz, hcB, hpc, -⟩ := H
  have HIO : Hid (InSt w b0 b1 b2 b3 b4 b5 b6 s) := hpc.own.at
  have u4 : w.cell? ⟨B, 4, none⟩ = some (.slice b3 s.g.n1 e3) := hbx.2.2.2.2.1
  have u5 : w.cell? ⟨B, 5, none⟩ = some (.slice b4 s.g.n2 e4) := hbx.2.2.2.2.2.1
  have HCP : Hid (s.g.n1 ≤ e3) := hcp _ _ u4
  have HLG : Hid (lgC s.g = 0) := hG.lg
  have hn4 := (lgC_zero hG.lg).1
  have hkn : (k : Int) < (s.pn : Int) := by have := hG.pn; omega
  have hk0 : (0 : Int) ≤ (k : Int) := by omega
  obtain ⟨N, HN⟩ : ∃ N, Hid (cnt s.g.z1 s.g.n1 = N) := ⟨_, rfl⟩
  have HN13 : Hid (N = s.g.n1 / 13) := by show N = _; rw [← HN.out]; exact cnt_sure hG.lg
  have HHC : Hid (col B = 0) := hcB
  have HFZ : Hid (∀ i, w.frozen? ⟨B, i, none⟩ = false) := hfz
  clear hpc hbx hca hG hS hby hcp hcB hfz
  go_enter Tryz.func40, Tryz.ntmps40
  go_upto_region 2 with fail
  obtain ⟨W, hW⟩ : ∃ x, x = w.alloc (.cells #[.int .i64 (s.pT k).id, .int .i64 (s.pT k).lsn, .slice ca (s.pT k).cn cc] 66) := ⟨_, rfl⟩
  have HB0 : Hid (Below w.heap.size w W) := by rw [hW]; exact below_new _ _
  have HWS : Hid (W.heap.size = w.heap.size + 1) := by rw [hW]; simp [Hid]
  have HPW : Hid (Box3 W w.heap.size (.int .i64 (s.pT k).id) (.int .i64 (s.pT k).lsn) (.slice ca (s.pT k).cn cc)) := by rw [hW]; exact Box3.new _ _ _ _ _
  rw [← hW]
  clear hW p0 p1 p2 u1
  have v1 : W.cell? ⟨w.heap.size, 1, none⟩ = some (.int .i64 (s.pT k).lsn) := HPW.out.2.1
  have v4 := cell_below u4 HB0.out
  have v5 := cell_below u5 HB0.out
  have HIW : Hid (InSt W b0 b1 b2 b3 b4 b5 b6 s) := HIO.out.below HB0.out
  clear u4 u5
  have hb0 : Below W.heap.size W W.drew := (Below.refl _ _).drew
  go_region_held3 (fun u => Below W.heap.size W u ∧ u.cell? ⟨w.heap.size, 1, none⟩ = some (.int .i64 (s.pT k).lsn) ∧ u.cell? ⟨B, 4, none⟩ = some (.slice b3 s.g.n1 e3) ∧ u.cell? ⟨B, 5, none⟩ = some (.slice b4 s.g.n2 e4)) (go_keep)
    (first | (go_at_call 99; refine (sureRecs_2 s.g b3 b4 e3 e4 _ HCP.out (by omega) HBY.out (HIW.out.2.2.1.below (by simp [*]))).mono ?_; rintro e w2 ⟨ra2, rc2, rfl, hb2, -⟩; rw [HN.out]; have hU := below_then (w := W) (by simp [*]) hb2; have hU1 := cell_below (B := w.heap.size) (o := 1) (v := .int .i64 (s.pT k).lsn) (by simp [*]) hb2; have hU4 := cell_below (B := B) (o := 4) (v := .slice b3 s.g.n1 e3) (by simp [*]) hb2; have hU5 := cell_below (B := B) (o := 5) (v := .slice b4 s.g.n2 e4) (by simp [*]) hb2))
  have HB2 : Hid (Below W.heap.size W w2) := hU
  have HBw2 : Hid (Below w.heap.size w w2) := below_then HB0.out hU
  have HP2 : Hid (Box3 w2 w.heap.size (.int .i64 (s.pT k).id) (.int .i64 (s.pT k).lsn) (.slice ca (s.pT k).cn cc)) := HPW.out.below hU
  have HK2 : Hid (Wk s n xs lo col B w2) := HWK.out.below (below_then HB0.out hU)
  clear hb2 hU hU1 v1 v4 v5 hb0
  by_cases hfl : (N : Int) < (s.pT k).lsn
  · have HGG : Hid (flL s.g = fpG s k) := by show flL s.g = fpG s k; unfold fpG; rw [if_pos (by rw [← HN13.out]; exact hfl)]
    go_wp2_with fail
    refine (implFl_any s.g b3 b4 e3 e4 w2 (by omega) (by omega) HBY.out (HIW.out.2.2.1.below HB2.out)).mono ?_
    rw [HLG.out]
    rintro e w3 ⟨x1, x2, m1, m2, rfl, hb3, ho3⟩
    have y4 := cell_below hU4 hb3
    have y5 := cell_below hU5 hb3
    have yf : ∀ i, w3.frozen? ⟨B, i, none⟩ = false := fun i => ((below_then HBw2.out hb3).frozen (p := ⟨B, i, none⟩) k2).trans (HFZ.out i)
    obtain ⟨g1, HG1⟩ : ∃ g1, Hid (flL s.g = g1) := ⟨_, rfl⟩
    rw [HG1.out] at ho3 HGG ⊢
    go_upto_region 4 with fail
    obtain ⟨V, hV⟩ : ∃ x, x = (w3.setCell ⟨B, 4, none⟩ (.slice x1 g1.n1 m1)).setCell ⟨B, 5, none⟩ (.slice x2 g1.n2 m2) := ⟨_, rfl⟩
    have hw : Writes B (B + 1) w3 V := by rw [hV]; exact ((Writes.refl _ _ _).setCell (p := ⟨B, 4, none⟩) (Nat.le_refl _) (Nat.lt_succ_self _) _).setCell (p := ⟨B, 5, none⟩) (Nat.le_refl _) (Nat.lt_succ_self _) _
    have hl2 := HK2.out.lt
    have HKV : Hid (Wk (lgG s g1) n xs lo (colr col w2.heap.size w3.heap.size 3) B V) := by
      rw [hV]
      exact Wk.logG (HK2.out.below hb3) (by omega) hb3.size (Nat.le_refl _) (fun y y1 y2 => ⟨by
        by_cases e : col y = 0
        · exact e
        · have := (hl2.2.2 y e).2; omega, by omega⟩) ho3
    have hst := set_step2 (col := col) (B := B) (p := 4) (q := 5) (v := .slice x1 g1.n1 m1) (u := .slice x2 g1.n2 m2) (k5 := 3) hb3
    rw [← hV] at hst ⊢
    have HFx : Hid (WkF col B w V) := (WkF.of_below HBw2.out).trans hst.1 (fun _ _ h => h)
    have HCV : Hid (∀ x, x < w.heap.size → colr col w2.heap.size w3.heap.size 3 x ≠ 0 → col x ≠ 0) := fun x hx q => hst.2 x (by have := HBw2.out.size; omega) q
    have HPV : Hid (Box3 V w.heap.size (.int .i64 (s.pT k).id) (.int .i64 (s.pT k).lsn) (.slice ca (s.pT k).cn cc)) := (HP2.out.below hb3).writes hw (by omega)
    have HCA0 : Hid (CellsAt V ca (s.pT k).cn (s.pT k).cK (s.pT k).cV) := HCP0.out V (by have := HBw2.out.size; have := hb3.size; have := hw.size; omega) (fun x hx hl => by
      have hxB : x ≠ B := fun e => by rw [e] at hx; exact hx HHC.out
      have hs2 := HBw2.out.size
      have hs3 := hb3.size
      rw [hw.block x (by omega) (by omega), hb3.block x (by omega), HBw2.out.block x hl])
    have HRR : Hid (dkS (lgG s g1) (fpD s k) = fpS s k) := by show dkS (lgG s g1) (fpD s k) = fpS s k; rw [HGG.out]; rfl
    clear hV hw hst hb3 ho3 y4 y5 yf hU4 hU5 hfl hl2
    have HFV : Hid (WkF col B w V) := HFx.out
    obtain ⟨d0, f0, d1, f1, d2, f2, d3, f3, d4, f4, d5, f5, d6, f6, ra1, rc1, -, hbx, -, -, hfz, -, hpc, -⟩ := HKV.out
    have HBV : Hid (BoxS V B (.int .i64 s.nx) (.slice d0 s.pn f0) (.slice d1 s.d.n f1) (.slice d2 s.d.m f2) (.slice d3 g1.n1 f3) (.slice d4 g1.n2 f4) (.slice d5 s.hn f5) (.slice d6 s.on f6)) := hbx
    have HBL : Hid (B < V.heap.size) := hbx.lt
    have HBF : Hid (∀ i, V.frozen? ⟨B, i, none⟩ = false) := hfz
    have HD2 : Hid (V.cell? ⟨B, 2, none⟩ = some (.slice d1 s.d.n f1) ∧ V.cell? ⟨B, 3, none⟩ = some (.slice d2 s.d.m f2)) := ⟨hbx.2.2.1, hbx.2.2.2.1⟩
    have HDA : Hid (DiskAt V d1 d2 s.d) := hpc.own.at.2.1
    have HCA : Hid (∀ u, Below V.heap.size V u → CellsAt u ca (s.pT k).cn (s.pT k).cK (s.pT k).cV) := fun u hu => (HCA0.out).below hu
    clear hbx hpc hfz
    refine wp_region_E 7 (S := fun u => (u.cell? ⟨B, 2, none⟩ = some (.slice d1 s.d.n f1) ∧ u.cell? ⟨B, 3, none⟩ = some (.slice d2 s.d.m f2)) ∧ Box3 u w.heap.size (.int .i64 (s.pT k).id) (.int .i64 (s.pT k).lsn) (.slice ca (s.pT k).cn cc)) (by kernel_rfl) ⟨⟨HD2.out.1, HD2.out.2⟩, HPV.out⟩ (fun hS => ?_)
    obtain ⟨y0, hy0⟩ : ∃ y, y = V.drew := ⟨_, rfl⟩
    have HVY : Hid (Below V.heap.size V y0) := by rw [hy0]; exact (Below.refl _ _).drew
    have HYS : Hid (y0.heap.size = V.heap.size) := by rw [hy0]; rfl
    rw [← hy0] at hS ⊢
    clear hy0
    refine wpAnyE_takeD (L := 7) (i := 0) (v := .pointer (some ⟨B, 0, none⟩)) (some 32) rfl rfl (by kernel_rfl) (by kernel_rfl) (by kernel_rfl) (by kernel_rfl) (fun _ _ _ h => h) (Or.inl ⟨by kernel_rfl, by intro u hSu; go_simp⟩) hS ?_
    try simp only [Act.put, List.setIfInBounds_toArray, List.set_cons_zero, List.set_cons_succ]
    refine wpAnyE_takeD (L := 7) (i := 1) (v := .pointer (some ⟨B, 0, none⟩)) (some 33) rfl rfl (by kernel_rfl) (by kernel_rfl) (by kernel_rfl) (by kernel_rfl) (fun _ _ _ h => h) (Or.inl ⟨by kernel_rfl, by intro u hSu; go_simp⟩) hS ?_
    try simp only [Act.put, List.setIfInBounds_toArray, List.set_cons_zero, List.set_cons_succ]
    refine wpAnyE_takeD (L := 7) (i := 2) (v := .pointer (some ⟨B, 2, none⟩)) (some 34) rfl rfl (by kernel_rfl) (by kernel_rfl) (by kernel_rfl) (by kernel_rfl) (fun _ _ _ h => h) (Or.inl ⟨by kernel_rfl, by intro u hSu; go_simp⟩) hS ?_
    try simp only [Act.put, List.setIfInBounds_toArray, List.set_cons_zero, List.set_cons_succ]
    refine wpAnyE_takeD (L := 7) (i := 3) (v := .agg #[.slice d1 s.d.n f1, .slice d2 s.d.m f2]) (some 35) rfl rfl (by kernel_rfl) (by kernel_rfl) (by kernel_rfl) (by kernel_rfl) (fun _ _ _ h => h) (Or.inl ⟨by kernel_rfl, by intro u hSu; obtain ⟨⟨g2, g3⟩, -⟩ := hSu; go_simp⟩) hS ?_
    try simp only [Act.put, List.setIfInBounds_toArray, List.set_cons_zero, List.set_cons_succ]
    refine wpAnyE_takeD (L := 7) (i := 4) (v := .agg #[.int .i64 (s.pT k).id, .int .i64 (s.pT k).lsn, .slice ca (s.pT k).cn cc]) (some 36) rfl rfl (by kernel_rfl) (by kernel_rfl) (by kernel_rfl) (by kernel_rfl) (fun _ _ _ h => h) (Or.inl ⟨by kernel_rfl, by intro u hSu; obtain ⟨-, g0, g1, g2⟩ := hSu; go_simp⟩) hS ?_
    try simp only [Act.put, List.setIfInBounds_toArray, List.set_cons_zero, List.set_cons_succ]
    refine wpAnyE_ready (rs := [5, 6]) (by kernel_rfl) (by simp) ?_
    refine AllReadyE.cons rfl (fun K9 hK => ?_) (AllReadyE.cons rfl (fun K9 hK => ?_) AllReadyE.nil)
    · go_simp
      refine (implWriteP_any s.d (s.pT k).id (s.pT k).lsn (s.pT k).cn (s.pT k).cK (s.pT k).cV d1 d2 f1 f2 ca cc y0 HSD.out HCN.out (HDA.out.below HVY.out) (HCA.out y0 HVY.out)).mono ?_
      rw [HWC.out]
      rintro e w5 ⟨a5, a6, c5, c6, rfl, hb5, ho5⟩
      rw [rD2] at ho5 ⊢
      refine hK.out _ _ (⟨⟨cell_below hS.1.1 hb5, cell_below hS.1.2 hb5⟩, hS.2.below hb5⟩) (fun hS9 => ?_)
      try simp only [Act.put, List.setIfInBounds_toArray, List.set_cons_zero, List.set_cons_succ]
      clear hK K9 hS
      have hS := hS9
      clear hS9
      refine wpAnyE_ready (rs := [6]) (by kernel_rfl) (by simp) ?_
      refine AllReadyE.cons rfl (fun K9 hK => ?_) AllReadyE.nil
      go_simp
      refine hK.out _ _ (⟨⟨cell_below hS.1.1 (below_new _ _), cell_below hS.1.2 (below_new _ _)⟩, hS.2.below (below_new _ _)⟩) (fun hS9 => ?_)
      try simp only [Act.put, List.setIfInBounds_toArray, List.set_cons_zero, List.set_cons_succ]
      clear hK K9 hS
      have hS := hS9
      clear hS9
      refine wpAnyE_ready (rs := [7]) (by kernel_rfl) (by simp) ?_
      refine AllReadyE.last rfl (fun K9 hK => ?_)
      go_simp
      refine hK.out _ _ ?_
      try simp only [Act.put, List.setIfInBounds_toArray, List.set_cons_zero, List.set_cons_succ]
      clear hK K9 hS
      refine wpAnyE_done (by kernel_rfl) ?_ _
      go_simp
      have HDT : Hid (DT 2 E0 V (w5.alloc (.cells #[.int .i64 2, .slice a5 E0.n c5, .slice a6 E0.m c6] 156)) w5.heap.size a5 a6 c5 c6) := DT.a _ HVY.out hb5 ho5
      obtain ⟨X, hX⟩ : ∃ x, x = w5.alloc (.cells #[.int .i64 2, .slice a5 E0.n c5, .slice a6 E0.m c6] 156) := ⟨_, rfl⟩
      rw [← hX] at HDT ⊢
      clear hX hb5 ho5
      obtain ⟨N5, hN5⟩ : ∃ n5, n5 = w5.heap.size := ⟨_, rfl⟩
      rw [← hN5] at HDT ⊢
      clear hN5 w5
      obtain ⟨h1, h2, ⟨r0, r1, r2⟩, rf5, -⟩ := HDT.out
      go_upto_region 6 with fail
      refine wp_region_E 8 (S := fun u => (u.cell? ⟨B, 2, none⟩ = some (.slice d1 s.d.n f1) ∧ u.cell? ⟨B, 3, none⟩ = some (.slice d2 s.d.m f2)) ∧ Box3 u w.heap.size (.int .i64 (s.pT k).id) (.int .i64 (s.pT k).lsn) (.slice ca (s.pT k).cn cc)) (by kernel_rfl) ⟨⟨cell_below HD2.out.1 h2.drew, cell_below HD2.out.2 h2.drew⟩, HPV.out.below h2.drew⟩ (fun hS => ?_)
      obtain ⟨y2, hy2⟩ : ∃ y, y = X.drew := ⟨_, rfl⟩
      have HXY : Hid (Below X.heap.size X y2) := by rw [hy2]; exact (Below.refl _ _).drew
      rw [← hy2] at hS ⊢
      clear hy2
      refine wpAnyE_takeD (L := 8) (i := 0) (v := .pointer (some ⟨B, 0, none⟩)) (some 41) rfl rfl (by kernel_rfl) (by kernel_rfl) (by kernel_rfl) (by kernel_rfl) (fun _ _ _ h => h) (Or.inl ⟨by kernel_rfl, by intro u hSu; go_simp⟩) hS ?_
      try simp only [Act.put, List.setIfInBounds_toArray, List.set_cons_zero, List.set_cons_succ]
      refine wpAnyE_takeD (L := 8) (i := 1) (v := .pointer (some ⟨B, 0, none⟩)) (some 42) rfl rfl (by kernel_rfl) (by kernel_rfl) (by kernel_rfl) (by kernel_rfl) (fun _ _ _ h => h) (Or.inl ⟨by kernel_rfl, by intro u hSu; go_simp⟩) hS ?_
      try simp only [Act.put, List.setIfInBounds_toArray, List.set_cons_zero, List.set_cons_succ]
      refine wpAnyE_takeD (L := 8) (i := 2) (v := .pointer (some ⟨B, 2, none⟩)) (some 43) rfl rfl (by kernel_rfl) (by kernel_rfl) (by kernel_rfl) (by kernel_rfl) (fun _ _ _ h => h) (Or.inl ⟨by kernel_rfl, by intro u hSu; go_simp⟩) hS ?_
      try simp only [Act.put, List.setIfInBounds_toArray, List.set_cons_zero, List.set_cons_succ]
      refine wpAnyE_takeD (L := 8) (i := 3) (v := .agg #[.slice d1 s.d.n f1, .slice d2 s.d.m f2]) (some 44) rfl rfl (by kernel_rfl) (by kernel_rfl) (by kernel_rfl) (by kernel_rfl) (fun _ _ _ h => h) (Or.inl ⟨by kernel_rfl, by intro u hSu; obtain ⟨⟨g2, g3⟩, -⟩ := hSu; go_simp⟩) hS ?_
      try simp only [Act.put, List.setIfInBounds_toArray, List.set_cons_zero, List.set_cons_succ]
      refine wpAnyE_takeD (L := 8) (i := 6) (v := .agg #[.int .i64 (s.pT k).id, .int .i64 (s.pT k).lsn, .slice ca (s.pT k).cn cc]) (some 47) rfl rfl (by kernel_rfl) (by kernel_rfl) (by kernel_rfl) (by kernel_rfl) (fun _ _ _ h => h) (Or.inl ⟨by kernel_rfl, by intro u hSu; obtain ⟨-, g0, g1, g2⟩ := hSu; go_simp⟩) hS ?_
      try simp only [Act.put, List.setIfInBounds_toArray, List.set_cons_zero, List.set_cons_succ]
      refine wpAnyE_ready (rs := [4]) (by kernel_rfl) (by simp) ?_
      refine AllReadyE.cons rfl (fun K9 hK => ?_) AllReadyE.nil
      go_simp
      refine (implSync_any s.d d1 d2 f1 f2 y2 HSD.out (HDA.out.below (below_then h2 HXY.out))).mono ?_
      rw [HDF.out]
      rintro e w6 ⟨a7, a8, c7, c8, rfl, hb6, ho6⟩
      rw [rD0] at ho6 ⊢
      refine hK.out _ _ (⟨⟨cell_below hS.1.1 hb6, cell_below hS.1.2 hb6⟩, hS.2.below hb6⟩) (fun hS9 => ?_)
      try simp only [Act.put, List.setIfInBounds_toArray, List.set_cons_zero, List.set_cons_succ]
      clear hK K9 hS
      have hS := hS9
      clear hS9
      refine wpAnyE_ready (rs := [5]) (by kernel_rfl) (by simp) ?_
      refine AllReadyE.cons rfl (fun K9 hK => ?_) AllReadyE.nil
      go_simp
      refine hK.out _ _ (hS) (fun hS9 => ?_)
      try simp only [Act.put, List.setIfInBounds_toArray, List.set_cons_zero, List.set_cons_succ]
      clear hK K9 hS
      have hS := hS9
      clear hS9
      refine wpAnyE_ready (rs := [7]) (by kernel_rfl) (by simp) ?_
      refine AllReadyE.cons rfl (fun K9 hK => ?_) AllReadyE.nil
      go_simp
      refine (implWriteP_any (syD s.d idF s.d.m) (s.pT k).id (s.pT k).lsn (s.pT k).cn (s.pT k).cK (s.pT k).cV a7 a8 c7 c8 ca cc w6 HSY.out HCN.out ho6.at (HCA.out w6 (below_then (below_then h2 HXY.out) hb6))).mono ?_
      rw [HW2.out.1, HW2.out.2]
      rintro e w7 ⟨a9, a10, c9, c10, rfl, hb7, ho7⟩
      rw [rD0] at ho7 ⊢
      have hX7 : Below X.heap.size X w7 := below_then (below_then HXY.out hb6) hb7
      have hz6 := hb6.size
      have hz7 := hb7.size
      have hzX := HXY.out.size
      have HBX7 : Hid (Box3 w7 N5 (.int .i64 2) (.slice a5 E0.n c5) (.slice a6 E0.m c6)) := Box3.below ⟨r0, r1, r2⟩ hX7
      obtain ⟨s0, s1, s2⟩ := HBX7.out
      have hN5 : N5 < X.heap.size := Go.block_lt_of_cell r0
      have sf : ∀ i, w7.frozen? ⟨N5, i, none⟩ = false := fun i => (hX7.frozen (p := ⟨N5, i, none⟩) hN5).trans (rf5 i)
      refine hK.out _ _ (⟨⟨cell_below hS.1.1 hb7, cell_below hS.1.2 hb7⟩, hS.2.below hb7⟩) (fun hS9 => ?_)
      try simp only [Act.put, List.setIfInBounds_toArray, List.set_cons_zero, List.set_cons_succ]
      clear hK K9 hS
      have hS := hS9
      clear hS9
      refine wpAnyE_ready (rs := [8]) (by kernel_rfl) (by simp) ?_
      refine AllReadyE.last rfl (fun K9 hK => ?_)
      go_simp
      refine hK.out _ _ ?_
      try simp only [Act.put, List.setIfInBounds_toArray, List.set_cons_zero, List.set_cons_succ]
      clear hK K9 hS
      refine wpAnyE_done (by kernel_rfl) ?_ _
      go_simp
      have HDT2 : Hid (DT 0 (fpD s k) V (((w7.setCell ⟨N5, 0, none⟩ (.int .i64 0)).setCell ⟨N5, 1, none⟩ (.slice a9 (fpD s k).n c9)).setCell ⟨N5, 2, none⟩ (.slice a10 (fpD s k).m c10)) N5 a9 a10 c9 c10) := DT.set h1 (below_then h2 hX7) HBX7.out sf (l := w6.heap.size) (h := w7.heap.size) (by have := h2.size; omega) hz7 (Nat.le_refl _) (.inl (by omega)) ho7
      obtain ⟨Y, hY⟩ : ∃ x, x = ((w7.setCell ⟨N5, 0, none⟩ (.int .i64 0)).setCell ⟨N5, 1, none⟩ (.slice a9 (fpD s k).n c9)).setCell ⟨N5, 2, none⟩ (.slice a10 (fpD s k).m c10) := ⟨_, rfl⟩
      rw [← hY] at HDT2 ⊢
      clear hY h1 h2 r0 r1 r2 rf5 s0 s1 s2 sf hX7 hb6 hb7 ho6 ho7 HDT HBX7
      obtain ⟨q1, q2, ⟨r0, r1, r2⟩, rf5, -⟩ := HDT2.out
      have HBX : Hid (BoxS Y B (.int .i64 s.nx) (.slice d0 s.pn f0) (.slice d1 s.d.n f1) (.slice d2 s.d.m f2) (.slice d3 g1.n1 f3) (.slice d4 g1.n2 f4) (.slice d5 s.hn f5) (.slice d6 s.on f6)) := HBV.out.below q2
      have t2 := HBX.out.2.2.1
      have t3 := HBX.out.2.2.2.1
      have tf : ∀ i, Y.frozen? ⟨B, i, none⟩ = false := fun i => (q2.frozen (p := ⟨B, i, none⟩) HBL.out).trans (HBF.out i)
      have hne : ¬ N5 = B := by have := HBL.out; omega
      have hne' : ¬ B = N5 := by have := HBL.out; omega
      have HEND : Hid (CoR 0 (fpS s k) lo B col w (.returned (.int .i64 0)) ((Y.setCell ⟨B, 2, none⟩ (.slice a9 (fpD s k).n c9)).setCell ⟨B, 3, none⟩ (.slice a10 (fpD s k).m c10))) := wp_end HKV.out HFV.out HCV.out HDT2.out (fpS s k) HRR.out
      clear HBX q1 q2
      go_wp2_with fail
      go_ret
      exact HEND.out
    · go_simp
      have HYA : Hid (Below y0.heap.size y0 (y0.alloc (.cells #[.int .i64 0, .slice none 0 0, .slice none 0 0] 156))) := below_new _ _
      refine hK.out _ _ (⟨⟨cell_below hS.1.1 (below_new _ _), cell_below hS.1.2 (below_new _ _)⟩, hS.2.below (below_new _ _)⟩) (fun hS9 => ?_)
      try simp only [Act.put, List.setIfInBounds_toArray, List.set_cons_zero, List.set_cons_succ]
      clear hK K9 hS
      have hS := hS9
      clear hS9
      obtain ⟨y1, hy1⟩ : ∃ x, x = y0.alloc (.cells #[.int .i64 0, .slice none 0 0, .slice none 0 0] 156) := ⟨_, rfl⟩
      have HB3 : Hid (Box3 y1 y0.heap.size (.int .i64 0) (.slice none 0 0) (.slice none 0 0)) := by rw [hy1]; exact Box3.new _ _ _ _ _
      have HF3 : Hid (∀ i, y1.frozen? ⟨y0.heap.size, i, none⟩ = false) := fun i => by rw [hy1]; simp [go_sem]
      have HS3 : Hid (y1.heap.size = y0.heap.size + 1) := by rw [hy1]; simp [Hid]
      rw [← hy1] at HYA hS ⊢
      clear hy1
      refine wpAnyE_ready (rs := [5]) (by kernel_rfl) (by simp) ?_
      refine AllReadyE.cons rfl (fun K9 hK => ?_) AllReadyE.nil
      go_simp
      refine (implWriteP_any s.d (s.pT k).id (s.pT k).lsn (s.pT k).cn (s.pT k).cK (s.pT k).cV d1 d2 f1 f2 ca cc y1 HSD.out HCN.out (HDA.out.below (below_then HVY.out HYA.out)) (HCA.out y1 (below_then HVY.out HYA.out))).mono ?_
      rw [HWC.out]
      rintro e w5 ⟨a5, a6, c5, c6, rfl, hb5, ho5⟩
      rw [rD2] at ho5 ⊢
      obtain ⟨r0, r1, r2⟩ := HB3.out.below hb5
      have rf5 : ∀ i, w5.frozen? ⟨y0.heap.size, i, none⟩ = false := fun i => (hb5.frozen (p := ⟨y0.heap.size, i, none⟩) (by show y0.heap.size < y1.heap.size; have := HS3.out; omega)).trans (HF3.out i)
      refine hK.out _ _ (⟨⟨cell_below hS.1.1 hb5, cell_below hS.1.2 hb5⟩, hS.2.below hb5⟩) (fun hS9 => ?_)
      try simp only [Act.put, List.setIfInBounds_toArray, List.set_cons_zero, List.set_cons_succ]
      clear hK K9 hS
      have hS := hS9
      clear hS9
      refine wpAnyE_ready (rs := [7]) (by kernel_rfl) (by simp) ?_
      refine AllReadyE.last rfl (fun K9 hK => ?_)
      go_simp
      refine hK.out _ _ ?_
      try simp only [Act.put, List.setIfInBounds_toArray, List.set_cons_zero, List.set_cons_succ]
      clear hK K9 hS
      refine wpAnyE_done (by kernel_rfl) ?_ _
      go_simp
      have HDT : Hid (DT 2 E0 V (((w5.setCell ⟨y0.heap.size, 0, none⟩ (.int .i64 2)).setCell ⟨y0.heap.size, 1, none⟩ (.slice a5 E0.n c5)).setCell ⟨y0.heap.size, 2, none⟩ (.slice a6 E0.m c6)) y0.heap.size a5 a6 c5 c6) := DT.b HVY.out HYA.out HS3.out HB3.out hb5 ho5 HF3.out
      obtain ⟨X, hX⟩ : ∃ x, x = ((w5.setCell ⟨y0.heap.size, 0, none⟩ (.int .i64 2)).setCell ⟨y0.heap.size, 1, none⟩ (.slice a5 E0.n c5)).setCell ⟨y0.heap.size, 2, none⟩ (.slice a6 E0.m c6) := ⟨_, rfl⟩
      rw [← hX] at HDT ⊢
      clear hX hb5 ho5 r0 r1 r2 rf5
      obtain ⟨N5, hN5⟩ : ∃ n5, n5 = y0.heap.size := ⟨_, rfl⟩
      rw [← hN5] at HDT ⊢
      clear hN5 HB3 HF3 HS3 HYA
      obtain ⟨h1, h2, ⟨r0, r1, r2⟩, rf5, -⟩ := HDT.out
      go_upto_region 6 with fail
      refine wp_region_E 8 (S := fun u => (u.cell? ⟨B, 2, none⟩ = some (.slice d1 s.d.n f1) ∧ u.cell? ⟨B, 3, none⟩ = some (.slice d2 s.d.m f2)) ∧ Box3 u w.heap.size (.int .i64 (s.pT k).id) (.int .i64 (s.pT k).lsn) (.slice ca (s.pT k).cn cc)) (by kernel_rfl) ⟨⟨cell_below HD2.out.1 h2.drew, cell_below HD2.out.2 h2.drew⟩, HPV.out.below h2.drew⟩ (fun hS => ?_)
      obtain ⟨y2, hy2⟩ : ∃ y, y = X.drew := ⟨_, rfl⟩
      have HXY : Hid (Below X.heap.size X y2) := by rw [hy2]; exact (Below.refl _ _).drew
      rw [← hy2] at hS ⊢
      clear hy2
      refine wpAnyE_takeD (L := 8) (i := 0) (v := .pointer (some ⟨B, 0, none⟩)) (some 41) rfl rfl (by kernel_rfl) (by kernel_rfl) (by kernel_rfl) (by kernel_rfl) (fun _ _ _ h => h) (Or.inl ⟨by kernel_rfl, by intro u hSu; go_simp⟩) hS ?_
      try simp only [Act.put, List.setIfInBounds_toArray, List.set_cons_zero, List.set_cons_succ]
      refine wpAnyE_takeD (L := 8) (i := 1) (v := .pointer (some ⟨B, 0, none⟩)) (some 42) rfl rfl (by kernel_rfl) (by kernel_rfl) (by kernel_rfl) (by kernel_rfl) (fun _ _ _ h => h) (Or.inl ⟨by kernel_rfl, by intro u hSu; go_simp⟩) hS ?_
      try simp only [Act.put, List.setIfInBounds_toArray, List.set_cons_zero, List.set_cons_succ]
      refine wpAnyE_takeD (L := 8) (i := 2) (v := .pointer (some ⟨B, 2, none⟩)) (some 43) rfl rfl (by kernel_rfl) (by kernel_rfl) (by kernel_rfl) (by kernel_rfl) (fun _ _ _ h => h) (Or.inl ⟨by kernel_rfl, by intro u hSu; go_simp⟩) hS ?_
      try simp only [Act.put, List.setIfInBounds_toArray, List.set_cons_zero, List.set_cons_succ]
      refine wpAnyE_takeD (L := 8) (i := 3) (v := .agg #[.slice d1 s.d.n f1, .slice d2 s.d.m f2]) (some 44) rfl rfl (by kernel_rfl) (by kernel_rfl) (by kernel_rfl) (by kernel_rfl) (fun _ _ _ h => h) (Or.inl ⟨by kernel_rfl, by intro u hSu; obtain ⟨⟨g2, g3⟩, -⟩ := hSu; go_simp⟩) hS ?_
      try simp only [Act.put, List.setIfInBounds_toArray, List.set_cons_zero, List.set_cons_succ]
      refine wpAnyE_takeD (L := 8) (i := 6) (v := .agg #[.int .i64 (s.pT k).id, .int .i64 (s.pT k).lsn, .slice ca (s.pT k).cn cc]) (some 47) rfl rfl (by kernel_rfl) (by kernel_rfl) (by kernel_rfl) (by kernel_rfl) (fun _ _ _ h => h) (Or.inl ⟨by kernel_rfl, by intro u hSu; obtain ⟨-, g0, g1, g2⟩ := hSu; go_simp⟩) hS ?_
      try simp only [Act.put, List.setIfInBounds_toArray, List.set_cons_zero, List.set_cons_succ]
      refine wpAnyE_ready (rs := [4]) (by kernel_rfl) (by simp) ?_
      refine AllReadyE.cons rfl (fun K9 hK => ?_) AllReadyE.nil
      go_simp
      refine (implSync_any s.d d1 d2 f1 f2 y2 HSD.out (HDA.out.below (below_then h2 HXY.out))).mono ?_
      rw [HDF.out]
      rintro e w6 ⟨a7, a8, c7, c8, rfl, hb6, ho6⟩
      rw [rD0] at ho6 ⊢
      refine hK.out _ _ (⟨⟨cell_below hS.1.1 hb6, cell_below hS.1.2 hb6⟩, hS.2.below hb6⟩) (fun hS9 => ?_)
      try simp only [Act.put, List.setIfInBounds_toArray, List.set_cons_zero, List.set_cons_succ]
      clear hK K9 hS
      have hS := hS9
      clear hS9
      refine wpAnyE_ready (rs := [5]) (by kernel_rfl) (by simp) ?_
      refine AllReadyE.cons rfl (fun K9 hK => ?_) AllReadyE.nil
      go_simp
      refine hK.out _ _ (hS) (fun hS9 => ?_)
      try simp only [Act.put, List.setIfInBounds_toArray, List.set_cons_zero, List.set_cons_succ]
      clear hK K9 hS
      have hS := hS9
      clear hS9
      refine wpAnyE_ready (rs := [7]) (by kernel_rfl) (by simp) ?_
      refine AllReadyE.cons rfl (fun K9 hK => ?_) AllReadyE.nil
      go_simp
      refine (implWriteP_any (syD s.d idF s.d.m) (s.pT k).id (s.pT k).lsn (s.pT k).cn (s.pT k).cK (s.pT k).cV a7 a8 c7 c8 ca cc w6 HSY.out HCN.out ho6.at (HCA.out w6 (below_then (below_then h2 HXY.out) hb6))).mono ?_
      rw [HW2.out.1, HW2.out.2]
      rintro e w7 ⟨a9, a10, c9, c10, rfl, hb7, ho7⟩
      rw [rD0] at ho7 ⊢
      have hX7 : Below X.heap.size X w7 := below_then (below_then HXY.out hb6) hb7
      have hz6 := hb6.size
      have hz7 := hb7.size
      have hzX := HXY.out.size
      have HBX7 : Hid (Box3 w7 N5 (.int .i64 2) (.slice a5 E0.n c5) (.slice a6 E0.m c6)) := Box3.below ⟨r0, r1, r2⟩ hX7
      obtain ⟨s0, s1, s2⟩ := HBX7.out
      have hN5 : N5 < X.heap.size := Go.block_lt_of_cell r0
      have sf : ∀ i, w7.frozen? ⟨N5, i, none⟩ = false := fun i => (hX7.frozen (p := ⟨N5, i, none⟩) hN5).trans (rf5 i)
      refine hK.out _ _ (⟨⟨cell_below hS.1.1 hb7, cell_below hS.1.2 hb7⟩, hS.2.below hb7⟩) (fun hS9 => ?_)
      try simp only [Act.put, List.setIfInBounds_toArray, List.set_cons_zero, List.set_cons_succ]
      clear hK K9 hS
      have hS := hS9
      clear hS9
      refine wpAnyE_ready (rs := [8]) (by kernel_rfl) (by simp) ?_
      refine AllReadyE.last rfl (fun K9 hK => ?_)
      go_simp
      refine hK.out _ _ ?_
      try simp only [Act.put, List.setIfInBounds_toArray, List.set_cons_zero, List.set_cons_succ]
      clear hK K9 hS
      refine wpAnyE_done (by kernel_rfl) ?_ _
      go_simp
      have HDT2 : Hid (DT 0 (fpD s k) V (((w7.setCell ⟨N5, 0, none⟩ (.int .i64 0)).setCell ⟨N5, 1, none⟩ (.slice a9 (fpD s k).n c9)).setCell ⟨N5, 2, none⟩ (.slice a10 (fpD s k).m c10)) N5 a9 a10 c9 c10) := DT.set h1 (below_then h2 hX7) HBX7.out sf (l := w6.heap.size) (h := w7.heap.size) (by have := h2.size; omega) hz7 (Nat.le_refl _) (.inl (by omega)) ho7
      obtain ⟨Y, hY⟩ : ∃ x, x = ((w7.setCell ⟨N5, 0, none⟩ (.int .i64 0)).setCell ⟨N5, 1, none⟩ (.slice a9 (fpD s k).n c9)).setCell ⟨N5, 2, none⟩ (.slice a10 (fpD s k).m c10) := ⟨_, rfl⟩
      rw [← hY] at HDT2 ⊢
      clear hY h1 h2 r0 r1 r2 rf5 s0 s1 s2 sf hX7 hb6 hb7 ho6 ho7 HDT HBX7
      obtain ⟨q1, q2, ⟨r0, r1, r2⟩, rf5, -⟩ := HDT2.out
      have HBX : Hid (BoxS Y B (.int .i64 s.nx) (.slice d0 s.pn f0) (.slice d1 s.d.n f1) (.slice d2 s.d.m f2) (.slice d3 g1.n1 f3) (.slice d4 g1.n2 f4) (.slice d5 s.hn f5) (.slice d6 s.on f6)) := HBV.out.below q2
      have t2 := HBX.out.2.2.1
      have t3 := HBX.out.2.2.2.1
      have tf : ∀ i, Y.frozen? ⟨B, i, none⟩ = false := fun i => (q2.frozen (p := ⟨B, i, none⟩) HBL.out).trans (HBF.out i)
      have hne : ¬ N5 = B := by have := HBL.out; omega
      have hne' : ¬ B = N5 := by have := HBL.out; omega
      have HEND : Hid (CoR 0 (fpS s k) lo B col w (.returned (.int .i64 0)) ((Y.setCell ⟨B, 2, none⟩ (.slice a9 (fpD s k).n c9)).setCell ⟨B, 3, none⟩ (.slice a10 (fpD s k).m c10))) := wp_end HKV.out HFV.out HCV.out HDT2.out (fpS s k) HRR.out
      clear HBX q1 q2
      go_wp2_with fail
      go_ret
      exact HEND.out
  · have HGG : Hid (s.g = fpG s k) := by show s.g = fpG s k; unfold fpG; rw [if_neg (by rw [← HN13.out]; exact hfl)]
    go_upto_region 4 with fail
    obtain ⟨V, hV⟩ : ∃ x, x = w2 := ⟨_, rfl⟩
    rw [← hV] at HK2 HP2 HBw2 ⊢
    obtain ⟨g1, HG1⟩ : ∃ g1, Hid (s.g = g1) := ⟨_, rfl⟩
    rw [HG1.out] at HGG
    have HKV : Hid (Wk (lgG s g1) n xs lo col B V) := by show Wk (lgG s g1) n xs lo col B V; rw [← HG1.out]; exact HK2.out
    have HFx : Hid (WkF col B w V) := WkF.of_below HBw2.out
    have HCV : Hid (∀ x, x < w.heap.size → col x ≠ 0 → col x ≠ 0) := fun x _ q => q
    have HPV : Hid (Box3 V w.heap.size (.int .i64 (s.pT k).id) (.int .i64 (s.pT k).lsn) (.slice ca (s.pT k).cn cc)) := HP2.out
    have HCA0 : Hid (CellsAt V ca (s.pT k).cn (s.pT k).cK (s.pT k).cV) := HCP0.out V HBw2.out.size (fun x _ hl => HBw2.out.block x hl)
    have HRR : Hid (dkS (lgG s g1) (fpD s k) = fpS s k) := by show dkS (lgG s g1) (fpD s k) = fpS s k; rw [HGG.out]; rfl
    clear hV hU4 hU5 hfl
    have HFV : Hid (WkF col B w V) := HFx.out
    obtain ⟨d0, f0, d1, f1, d2, f2, d3, f3, d4, f4, d5, f5, d6, f6, ra1, rc1, -, hbx, -, -, hfz, -, hpc, -⟩ := HKV.out
    have HBV : Hid (BoxS V B (.int .i64 s.nx) (.slice d0 s.pn f0) (.slice d1 s.d.n f1) (.slice d2 s.d.m f2) (.slice d3 g1.n1 f3) (.slice d4 g1.n2 f4) (.slice d5 s.hn f5) (.slice d6 s.on f6)) := hbx
    have HBL : Hid (B < V.heap.size) := hbx.lt
    have HBF : Hid (∀ i, V.frozen? ⟨B, i, none⟩ = false) := hfz
    have HD2 : Hid (V.cell? ⟨B, 2, none⟩ = some (.slice d1 s.d.n f1) ∧ V.cell? ⟨B, 3, none⟩ = some (.slice d2 s.d.m f2)) := ⟨hbx.2.2.1, hbx.2.2.2.1⟩
    have HDA : Hid (DiskAt V d1 d2 s.d) := hpc.own.at.2.1
    have HCA : Hid (∀ u, Below V.heap.size V u → CellsAt u ca (s.pT k).cn (s.pT k).cK (s.pT k).cV) := fun u hu => (HCA0.out).below hu
    clear hbx hpc hfz
    refine wp_region_E 7 (S := fun u => (u.cell? ⟨B, 2, none⟩ = some (.slice d1 s.d.n f1) ∧ u.cell? ⟨B, 3, none⟩ = some (.slice d2 s.d.m f2)) ∧ Box3 u w.heap.size (.int .i64 (s.pT k).id) (.int .i64 (s.pT k).lsn) (.slice ca (s.pT k).cn cc)) (by kernel_rfl) ⟨⟨HD2.out.1, HD2.out.2⟩, HPV.out⟩ (fun hS => ?_)
    obtain ⟨y0, hy0⟩ : ∃ y, y = V.drew := ⟨_, rfl⟩
    have HVY : Hid (Below V.heap.size V y0) := by rw [hy0]; exact (Below.refl _ _).drew
    have HYS : Hid (y0.heap.size = V.heap.size) := by rw [hy0]; rfl
    rw [← hy0] at hS ⊢
    clear hy0
    refine wpAnyE_takeD (L := 7) (i := 0) (v := .pointer (some ⟨B, 0, none⟩)) (some 32) rfl rfl (by kernel_rfl) (by kernel_rfl) (by kernel_rfl) (by kernel_rfl) (fun _ _ _ h => h) (Or.inl ⟨by kernel_rfl, by intro u hSu; go_simp⟩) hS ?_
    try simp only [Act.put, List.setIfInBounds_toArray, List.set_cons_zero, List.set_cons_succ]
    refine wpAnyE_takeD (L := 7) (i := 1) (v := .pointer (some ⟨B, 0, none⟩)) (some 33) rfl rfl (by kernel_rfl) (by kernel_rfl) (by kernel_rfl) (by kernel_rfl) (fun _ _ _ h => h) (Or.inl ⟨by kernel_rfl, by intro u hSu; go_simp⟩) hS ?_
    try simp only [Act.put, List.setIfInBounds_toArray, List.set_cons_zero, List.set_cons_succ]
    refine wpAnyE_takeD (L := 7) (i := 2) (v := .pointer (some ⟨B, 2, none⟩)) (some 34) rfl rfl (by kernel_rfl) (by kernel_rfl) (by kernel_rfl) (by kernel_rfl) (fun _ _ _ h => h) (Or.inl ⟨by kernel_rfl, by intro u hSu; go_simp⟩) hS ?_
    try simp only [Act.put, List.setIfInBounds_toArray, List.set_cons_zero, List.set_cons_succ]
    refine wpAnyE_takeD (L := 7) (i := 3) (v := .agg #[.slice d1 s.d.n f1, .slice d2 s.d.m f2]) (some 35) rfl rfl (by kernel_rfl) (by kernel_rfl) (by kernel_rfl) (by kernel_rfl) (fun _ _ _ h => h) (Or.inl ⟨by kernel_rfl, by intro u hSu; obtain ⟨⟨g2, g3⟩, -⟩ := hSu; go_simp⟩) hS ?_
    try simp only [Act.put, List.setIfInBounds_toArray, List.set_cons_zero, List.set_cons_succ]
    refine wpAnyE_takeD (L := 7) (i := 4) (v := .agg #[.int .i64 (s.pT k).id, .int .i64 (s.pT k).lsn, .slice ca (s.pT k).cn cc]) (some 36) rfl rfl (by kernel_rfl) (by kernel_rfl) (by kernel_rfl) (by kernel_rfl) (fun _ _ _ h => h) (Or.inl ⟨by kernel_rfl, by intro u hSu; obtain ⟨-, g0, g1, g2⟩ := hSu; go_simp⟩) hS ?_
    try simp only [Act.put, List.setIfInBounds_toArray, List.set_cons_zero, List.set_cons_succ]
    refine wpAnyE_ready (rs := [5, 6]) (by kernel_rfl) (by simp) ?_
    refine AllReadyE.cons rfl (fun K9 hK => ?_) (AllReadyE.cons rfl (fun K9 hK => ?_) AllReadyE.nil)
    · go_simp
      refine (implWriteP_any s.d (s.pT k).id (s.pT k).lsn (s.pT k).cn (s.pT k).cK (s.pT k).cV d1 d2 f1 f2 ca cc y0 HSD.out HCN.out (HDA.out.below HVY.out) (HCA.out y0 HVY.out)).mono ?_
      rw [HWC.out]
      rintro e w5 ⟨a5, a6, c5, c6, rfl, hb5, ho5⟩
      rw [rD2] at ho5 ⊢
      refine hK.out _ _ (⟨⟨cell_below hS.1.1 hb5, cell_below hS.1.2 hb5⟩, hS.2.below hb5⟩) (fun hS9 => ?_)
      try simp only [Act.put, List.setIfInBounds_toArray, List.set_cons_zero, List.set_cons_succ]
      clear hK K9 hS
      have hS := hS9
      clear hS9
      refine wpAnyE_ready (rs := [6]) (by kernel_rfl) (by simp) ?_
      refine AllReadyE.cons rfl (fun K9 hK => ?_) AllReadyE.nil
      go_simp
      refine hK.out _ _ (⟨⟨cell_below hS.1.1 (below_new _ _), cell_below hS.1.2 (below_new _ _)⟩, hS.2.below (below_new _ _)⟩) (fun hS9 => ?_)
      try simp only [Act.put, List.setIfInBounds_toArray, List.set_cons_zero, List.set_cons_succ]
      clear hK K9 hS
      have hS := hS9
      clear hS9
      refine wpAnyE_ready (rs := [7]) (by kernel_rfl) (by simp) ?_
      refine AllReadyE.last rfl (fun K9 hK => ?_)
      go_simp
      refine hK.out _ _ ?_
      try simp only [Act.put, List.setIfInBounds_toArray, List.set_cons_zero, List.set_cons_succ]
      clear hK K9 hS
      refine wpAnyE_done (by kernel_rfl) ?_ _
      go_simp
      have HDT : Hid (DT 2 E0 V (w5.alloc (.cells #[.int .i64 2, .slice a5 E0.n c5, .slice a6 E0.m c6] 156)) w5.heap.size a5 a6 c5 c6) := DT.a _ HVY.out hb5 ho5
      obtain ⟨X, hX⟩ : ∃ x, x = w5.alloc (.cells #[.int .i64 2, .slice a5 E0.n c5, .slice a6 E0.m c6] 156) := ⟨_, rfl⟩
      rw [← hX] at HDT ⊢
      clear hX hb5 ho5
      obtain ⟨N5, hN5⟩ : ∃ n5, n5 = w5.heap.size := ⟨_, rfl⟩
      rw [← hN5] at HDT ⊢
      clear hN5 w5
      obtain ⟨h1, h2, ⟨r0, r1, r2⟩, rf5, -⟩ := HDT.out
      go_upto_region 6 with fail
      refine wp_region_E 8 (S := fun u => (u.cell? ⟨B, 2, none⟩ = some (.slice d1 s.d.n f1) ∧ u.cell? ⟨B, 3, none⟩ = some (.slice d2 s.d.m f2)) ∧ Box3 u w.heap.size (.int .i64 (s.pT k).id) (.int .i64 (s.pT k).lsn) (.slice ca (s.pT k).cn cc)) (by kernel_rfl) ⟨⟨cell_below HD2.out.1 h2.drew, cell_below HD2.out.2 h2.drew⟩, HPV.out.below h2.drew⟩ (fun hS => ?_)
      obtain ⟨y2, hy2⟩ : ∃ y, y = X.drew := ⟨_, rfl⟩
      have HXY : Hid (Below X.heap.size X y2) := by rw [hy2]; exact (Below.refl _ _).drew
      rw [← hy2] at hS ⊢
      clear hy2
      refine wpAnyE_takeD (L := 8) (i := 0) (v := .pointer (some ⟨B, 0, none⟩)) (some 41) rfl rfl (by kernel_rfl) (by kernel_rfl) (by kernel_rfl) (by kernel_rfl) (fun _ _ _ h => h) (Or.inl ⟨by kernel_rfl, by intro u hSu; go_simp⟩) hS ?_
      try simp only [Act.put, List.setIfInBounds_toArray, List.set_cons_zero, List.set_cons_succ]
      refine wpAnyE_takeD (L := 8) (i := 1) (v := .pointer (some ⟨B, 0, none⟩)) (some 42) rfl rfl (by kernel_rfl) (by kernel_rfl) (by kernel_rfl) (by kernel_rfl) (fun _ _ _ h => h) (Or.inl ⟨by kernel_rfl, by intro u hSu; go_simp⟩) hS ?_
      try simp only [Act.put, List.setIfInBounds_toArray, List.set_cons_zero, List.set_cons_succ]
      refine wpAnyE_takeD (L := 8) (i := 2) (v := .pointer (some ⟨B, 2, none⟩)) (some 43) rfl rfl (by kernel_rfl) (by kernel_rfl) (by kernel_rfl) (by kernel_rfl) (fun _ _ _ h => h) (Or.inl ⟨by kernel_rfl, by intro u hSu; go_simp⟩) hS ?_
      try simp only [Act.put, List.setIfInBounds_toArray, List.set_cons_zero, List.set_cons_succ]
      refine wpAnyE_takeD (L := 8) (i := 3) (v := .agg #[.slice d1 s.d.n f1, .slice d2 s.d.m f2]) (some 44) rfl rfl (by kernel_rfl) (by kernel_rfl) (by kernel_rfl) (by kernel_rfl) (fun _ _ _ h => h) (Or.inl ⟨by kernel_rfl, by intro u hSu; obtain ⟨⟨g2, g3⟩, -⟩ := hSu; go_simp⟩) hS ?_
      try simp only [Act.put, List.setIfInBounds_toArray, List.set_cons_zero, List.set_cons_succ]
      refine wpAnyE_takeD (L := 8) (i := 6) (v := .agg #[.int .i64 (s.pT k).id, .int .i64 (s.pT k).lsn, .slice ca (s.pT k).cn cc]) (some 47) rfl rfl (by kernel_rfl) (by kernel_rfl) (by kernel_rfl) (by kernel_rfl) (fun _ _ _ h => h) (Or.inl ⟨by kernel_rfl, by intro u hSu; obtain ⟨-, g0, g1, g2⟩ := hSu; go_simp⟩) hS ?_
      try simp only [Act.put, List.setIfInBounds_toArray, List.set_cons_zero, List.set_cons_succ]
      refine wpAnyE_ready (rs := [4]) (by kernel_rfl) (by simp) ?_
      refine AllReadyE.cons rfl (fun K9 hK => ?_) AllReadyE.nil
      go_simp
      refine (implSync_any s.d d1 d2 f1 f2 y2 HSD.out (HDA.out.below (below_then h2 HXY.out))).mono ?_
      rw [HDF.out]
      rintro e w6 ⟨a7, a8, c7, c8, rfl, hb6, ho6⟩
      rw [rD0] at ho6 ⊢
      refine hK.out _ _ (⟨⟨cell_below hS.1.1 hb6, cell_below hS.1.2 hb6⟩, hS.2.below hb6⟩) (fun hS9 => ?_)
      try simp only [Act.put, List.setIfInBounds_toArray, List.set_cons_zero, List.set_cons_succ]
      clear hK K9 hS
      have hS := hS9
      clear hS9
      refine wpAnyE_ready (rs := [5]) (by kernel_rfl) (by simp) ?_
      refine AllReadyE.cons rfl (fun K9 hK => ?_) AllReadyE.nil
      go_simp
      refine hK.out _ _ (hS) (fun hS9 => ?_)
      try simp only [Act.put, List.setIfInBounds_toArray, List.set_cons_zero, List.set_cons_succ]
      clear hK K9 hS
      have hS := hS9
      clear hS9
      refine wpAnyE_ready (rs := [7]) (by kernel_rfl) (by simp) ?_
      refine AllReadyE.cons rfl (fun K9 hK => ?_) AllReadyE.nil
      go_simp
      refine (implWriteP_any (syD s.d idF s.d.m) (s.pT k).id (s.pT k).lsn (s.pT k).cn (s.pT k).cK (s.pT k).cV a7 a8 c7 c8 ca cc w6 HSY.out HCN.out ho6.at (HCA.out w6 (below_then (below_then h2 HXY.out) hb6))).mono ?_
      rw [HW2.out.1, HW2.out.2]
      rintro e w7 ⟨a9, a10, c9, c10, rfl, hb7, ho7⟩
      rw [rD0] at ho7 ⊢
      have hX7 : Below X.heap.size X w7 := below_then (below_then HXY.out hb6) hb7
      have hz6 := hb6.size
      have hz7 := hb7.size
      have hzX := HXY.out.size
      have HBX7 : Hid (Box3 w7 N5 (.int .i64 2) (.slice a5 E0.n c5) (.slice a6 E0.m c6)) := Box3.below ⟨r0, r1, r2⟩ hX7
      obtain ⟨s0, s1, s2⟩ := HBX7.out
      have hN5 : N5 < X.heap.size := Go.block_lt_of_cell r0
      have sf : ∀ i, w7.frozen? ⟨N5, i, none⟩ = false := fun i => (hX7.frozen (p := ⟨N5, i, none⟩) hN5).trans (rf5 i)
      refine hK.out _ _ (⟨⟨cell_below hS.1.1 hb7, cell_below hS.1.2 hb7⟩, hS.2.below hb7⟩) (fun hS9 => ?_)
      try simp only [Act.put, List.setIfInBounds_toArray, List.set_cons_zero, List.set_cons_succ]
      clear hK K9 hS
      have hS := hS9
      clear hS9
      refine wpAnyE_ready (rs := [8]) (by kernel_rfl) (by simp) ?_
      refine AllReadyE.last rfl (fun K9 hK => ?_)
      go_simp
      refine hK.out _ _ ?_
      try simp only [Act.put, List.setIfInBounds_toArray, List.set_cons_zero, List.set_cons_succ]
      clear hK K9 hS
      refine wpAnyE_done (by kernel_rfl) ?_ _
      go_simp
      have HDT2 : Hid (DT 0 (fpD s k) V (((w7.setCell ⟨N5, 0, none⟩ (.int .i64 0)).setCell ⟨N5, 1, none⟩ (.slice a9 (fpD s k).n c9)).setCell ⟨N5, 2, none⟩ (.slice a10 (fpD s k).m c10)) N5 a9 a10 c9 c10) := DT.set h1 (below_then h2 hX7) HBX7.out sf (l := w6.heap.size) (h := w7.heap.size) (by have := h2.size; omega) hz7 (Nat.le_refl _) (.inl (by omega)) ho7
      obtain ⟨Y, hY⟩ : ∃ x, x = ((w7.setCell ⟨N5, 0, none⟩ (.int .i64 0)).setCell ⟨N5, 1, none⟩ (.slice a9 (fpD s k).n c9)).setCell ⟨N5, 2, none⟩ (.slice a10 (fpD s k).m c10) := ⟨_, rfl⟩
      rw [← hY] at HDT2 ⊢
      clear hY h1 h2 r0 r1 r2 rf5 s0 s1 s2 sf hX7 hb6 hb7 ho6 ho7 HDT HBX7
      obtain ⟨q1, q2, ⟨r0, r1, r2⟩, rf5, -⟩ := HDT2.out
      have HBX : Hid (BoxS Y B (.int .i64 s.nx) (.slice d0 s.pn f0) (.slice d1 s.d.n f1) (.slice d2 s.d.m f2) (.slice d3 g1.n1 f3) (.slice d4 g1.n2 f4) (.slice d5 s.hn f5) (.slice d6 s.on f6)) := HBV.out.below q2
      have t2 := HBX.out.2.2.1
      have t3 := HBX.out.2.2.2.1
      have tf : ∀ i, Y.frozen? ⟨B, i, none⟩ = false := fun i => (q2.frozen (p := ⟨B, i, none⟩) HBL.out).trans (HBF.out i)
      have hne : ¬ N5 = B := by have := HBL.out; omega
      have hne' : ¬ B = N5 := by have := HBL.out; omega
      have HEND : Hid (CoR 0 (fpS s k) lo B col w (.returned (.int .i64 0)) ((Y.setCell ⟨B, 2, none⟩ (.slice a9 (fpD s k).n c9)).setCell ⟨B, 3, none⟩ (.slice a10 (fpD s k).m c10))) := wp_end HKV.out HFV.out HCV.out HDT2.out (fpS s k) HRR.out
      clear HBX q1 q2
      go_wp2_with fail
      go_ret
      exact HEND.out
    · go_simp
      have HYA : Hid (Below y0.heap.size y0 (y0.alloc (.cells #[.int .i64 0, .slice none 0 0, .slice none 0 0] 156))) := below_new _ _
      refine hK.out _ _ (⟨⟨cell_below hS.1.1 (below_new _ _), cell_below hS.1.2 (below_new _ _)⟩, hS.2.below (below_new _ _)⟩) (fun hS9 => ?_)
      try simp only [Act.put, List.setIfInBounds_toArray, List.set_cons_zero, List.set_cons_succ]
      clear hK K9 hS
      have hS := hS9
      clear hS9
      obtain ⟨y1, hy1⟩ : ∃ x, x = y0.alloc (.cells #[.int .i64 0, .slice none 0 0, .slice none 0 0] 156) := ⟨_, rfl⟩
      have HB3 : Hid (Box3 y1 y0.heap.size (.int .i64 0) (.slice none 0 0) (.slice none 0 0)) := by rw [hy1]; exact Box3.new _ _ _ _ _
      have HF3 : Hid (∀ i, y1.frozen? ⟨y0.heap.size, i, none⟩ = false) := fun i => by rw [hy1]; simp [go_sem]
      have HS3 : Hid (y1.heap.size = y0.heap.size + 1) := by rw [hy1]; simp [Hid]
      rw [← hy1] at HYA hS ⊢
      clear hy1
      refine wpAnyE_ready (rs := [5]) (by kernel_rfl) (by simp) ?_
      refine AllReadyE.cons rfl (fun K9 hK => ?_) AllReadyE.nil
      go_simp
      refine (implWriteP_any s.d (s.pT k).id (s.pT k).lsn (s.pT k).cn (s.pT k).cK (s.pT k).cV d1 d2 f1 f2 ca cc y1 HSD.out HCN.out (HDA.out.below (below_then HVY.out HYA.out)) (HCA.out y1 (below_then HVY.out HYA.out))).mono ?_
      rw [HWC.out]
      rintro e w5 ⟨a5, a6, c5, c6, rfl, hb5, ho5⟩
      rw [rD2] at ho5 ⊢
      obtain ⟨r0, r1, r2⟩ := HB3.out.below hb5
      have rf5 : ∀ i, w5.frozen? ⟨y0.heap.size, i, none⟩ = false := fun i => (hb5.frozen (p := ⟨y0.heap.size, i, none⟩) (by show y0.heap.size < y1.heap.size; have := HS3.out; omega)).trans (HF3.out i)
      refine hK.out _ _ (⟨⟨cell_below hS.1.1 hb5, cell_below hS.1.2 hb5⟩, hS.2.below hb5⟩) (fun hS9 => ?_)
      try simp only [Act.put, List.setIfInBounds_toArray, List.set_cons_zero, List.set_cons_succ]
      clear hK K9 hS
      have hS := hS9
      clear hS9
      refine wpAnyE_ready (rs := [7]) (by kernel_rfl) (by simp) ?_
      refine AllReadyE.last rfl (fun K9 hK => ?_)
      go_simp
      refine hK.out _ _ ?_
      try simp only [Act.put, List.setIfInBounds_toArray, List.set_cons_zero, List.set_cons_succ]
      clear hK K9 hS
      refine wpAnyE_done (by kernel_rfl) ?_ _
      go_simp
      have HDT : Hid (DT 2 E0 V (((w5.setCell ⟨y0.heap.size, 0, none⟩ (.int .i64 2)).setCell ⟨y0.heap.size, 1, none⟩ (.slice a5 E0.n c5)).setCell ⟨y0.heap.size, 2, none⟩ (.slice a6 E0.m c6)) y0.heap.size a5 a6 c5 c6) := DT.b HVY.out HYA.out HS3.out HB3.out hb5 ho5 HF3.out
      obtain ⟨X, hX⟩ : ∃ x, x = ((w5.setCell ⟨y0.heap.size, 0, none⟩ (.int .i64 2)).setCell ⟨y0.heap.size, 1, none⟩ (.slice a5 E0.n c5)).setCell ⟨y0.heap.size, 2, none⟩ (.slice a6 E0.m c6) := ⟨_, rfl⟩
      rw [← hX] at HDT ⊢
      clear hX hb5 ho5 r0 r1 r2 rf5
      obtain ⟨N5, hN5⟩ : ∃ n5, n5 = y0.heap.size := ⟨_, rfl⟩
      rw [← hN5] at HDT ⊢
      clear hN5 HB3 HF3 HS3 HYA
      obtain ⟨h1, h2, ⟨r0, r1, r2⟩, rf5, -⟩ := HDT.out
      go_upto_region 6 with fail
      refine wp_region_E 8 (S := fun u => (u.cell? ⟨B, 2, none⟩ = some (.slice d1 s.d.n f1) ∧ u.cell? ⟨B, 3, none⟩ = some (.slice d2 s.d.m f2)) ∧ Box3 u w.heap.size (.int .i64 (s.pT k).id) (.int .i64 (s.pT k).lsn) (.slice ca (s.pT k).cn cc)) (by kernel_rfl) ⟨⟨cell_below HD2.out.1 h2.drew, cell_below HD2.out.2 h2.drew⟩, HPV.out.below h2.drew⟩ (fun hS => ?_)
      obtain ⟨y2, hy2⟩ : ∃ y, y = X.drew := ⟨_, rfl⟩
      have HXY : Hid (Below X.heap.size X y2) := by rw [hy2]; exact (Below.refl _ _).drew
      rw [← hy2] at hS ⊢
      clear hy2
      refine wpAnyE_takeD (L := 8) (i := 0) (v := .pointer (some ⟨B, 0, none⟩)) (some 41) rfl rfl (by kernel_rfl) (by kernel_rfl) (by kernel_rfl) (by kernel_rfl) (fun _ _ _ h => h) (Or.inl ⟨by kernel_rfl, by intro u hSu; go_simp⟩) hS ?_
      try simp only [Act.put, List.setIfInBounds_toArray, List.set_cons_zero, List.set_cons_succ]
      refine wpAnyE_takeD (L := 8) (i := 1) (v := .pointer (some ⟨B, 0, none⟩)) (some 42) rfl rfl (by kernel_rfl) (by kernel_rfl) (by kernel_rfl) (by kernel_rfl) (fun _ _ _ h => h) (Or.inl ⟨by kernel_rfl, by intro u hSu; go_simp⟩) hS ?_
      try simp only [Act.put, List.setIfInBounds_toArray, List.set_cons_zero, List.set_cons_succ]
      refine wpAnyE_takeD (L := 8) (i := 2) (v := .pointer (some ⟨B, 2, none⟩)) (some 43) rfl rfl (by kernel_rfl) (by kernel_rfl) (by kernel_rfl) (by kernel_rfl) (fun _ _ _ h => h) (Or.inl ⟨by kernel_rfl, by intro u hSu; go_simp⟩) hS ?_
      try simp only [Act.put, List.setIfInBounds_toArray, List.set_cons_zero, List.set_cons_succ]
      refine wpAnyE_takeD (L := 8) (i := 3) (v := .agg #[.slice d1 s.d.n f1, .slice d2 s.d.m f2]) (some 44) rfl rfl (by kernel_rfl) (by kernel_rfl) (by kernel_rfl) (by kernel_rfl) (fun _ _ _ h => h) (Or.inl ⟨by kernel_rfl, by intro u hSu; obtain ⟨⟨g2, g3⟩, -⟩ := hSu; go_simp⟩) hS ?_
      try simp only [Act.put, List.setIfInBounds_toArray, List.set_cons_zero, List.set_cons_succ]
      refine wpAnyE_takeD (L := 8) (i := 6) (v := .agg #[.int .i64 (s.pT k).id, .int .i64 (s.pT k).lsn, .slice ca (s.pT k).cn cc]) (some 47) rfl rfl (by kernel_rfl) (by kernel_rfl) (by kernel_rfl) (by kernel_rfl) (fun _ _ _ h => h) (Or.inl ⟨by kernel_rfl, by intro u hSu; obtain ⟨-, g0, g1, g2⟩ := hSu; go_simp⟩) hS ?_
      try simp only [Act.put, List.setIfInBounds_toArray, List.set_cons_zero, List.set_cons_succ]
      refine wpAnyE_ready (rs := [4]) (by kernel_rfl) (by simp) ?_
      refine AllReadyE.cons rfl (fun K9 hK => ?_) AllReadyE.nil
      go_simp
      refine (implSync_any s.d d1 d2 f1 f2 y2 HSD.out (HDA.out.below (below_then h2 HXY.out))).mono ?_
      rw [HDF.out]
      rintro e w6 ⟨a7, a8, c7, c8, rfl, hb6, ho6⟩
      rw [rD0] at ho6 ⊢
      refine hK.out _ _ (⟨⟨cell_below hS.1.1 hb6, cell_below hS.1.2 hb6⟩, hS.2.below hb6⟩) (fun hS9 => ?_)
      try simp only [Act.put, List.setIfInBounds_toArray, List.set_cons_zero, List.set_cons_succ]
      clear hK K9 hS
      have hS := hS9
      clear hS9
      refine wpAnyE_ready (rs := [5]) (by kernel_rfl) (by simp) ?_
      refine AllReadyE.cons rfl (fun K9 hK => ?_) AllReadyE.nil
      go_simp
      refine hK.out _ _ (hS) (fun hS9 => ?_)
      try simp only [Act.put, List.setIfInBounds_toArray, List.set_cons_zero, List.set_cons_succ]
      clear hK K9 hS
      have hS := hS9
      clear hS9
      refine wpAnyE_ready (rs := [7]) (by kernel_rfl) (by simp) ?_
      refine AllReadyE.cons rfl (fun K9 hK => ?_) AllReadyE.nil
      go_simp
      refine (implWriteP_any (syD s.d idF s.d.m) (s.pT k).id (s.pT k).lsn (s.pT k).cn (s.pT k).cK (s.pT k).cV a7 a8 c7 c8 ca cc w6 HSY.out HCN.out ho6.at (HCA.out w6 (below_then (below_then h2 HXY.out) hb6))).mono ?_
      rw [HW2.out.1, HW2.out.2]
      rintro e w7 ⟨a9, a10, c9, c10, rfl, hb7, ho7⟩
      rw [rD0] at ho7 ⊢
      have hX7 : Below X.heap.size X w7 := below_then (below_then HXY.out hb6) hb7
      have hz6 := hb6.size
      have hz7 := hb7.size
      have hzX := HXY.out.size
      have HBX7 : Hid (Box3 w7 N5 (.int .i64 2) (.slice a5 E0.n c5) (.slice a6 E0.m c6)) := Box3.below ⟨r0, r1, r2⟩ hX7
      obtain ⟨s0, s1, s2⟩ := HBX7.out
      have hN5 : N5 < X.heap.size := Go.block_lt_of_cell r0
      have sf : ∀ i, w7.frozen? ⟨N5, i, none⟩ = false := fun i => (hX7.frozen (p := ⟨N5, i, none⟩) hN5).trans (rf5 i)
      refine hK.out _ _ (⟨⟨cell_below hS.1.1 hb7, cell_below hS.1.2 hb7⟩, hS.2.below hb7⟩) (fun hS9 => ?_)
      try simp only [Act.put, List.setIfInBounds_toArray, List.set_cons_zero, List.set_cons_succ]
      clear hK K9 hS
      have hS := hS9
      clear hS9
      refine wpAnyE_ready (rs := [8]) (by kernel_rfl) (by simp) ?_
      refine AllReadyE.last rfl (fun K9 hK => ?_)
      go_simp
      refine hK.out _ _ ?_
      try simp only [Act.put, List.setIfInBounds_toArray, List.set_cons_zero, List.set_cons_succ]
      clear hK K9 hS
      refine wpAnyE_done (by kernel_rfl) ?_ _
      go_simp
      have HDT2 : Hid (DT 0 (fpD s k) V (((w7.setCell ⟨N5, 0, none⟩ (.int .i64 0)).setCell ⟨N5, 1, none⟩ (.slice a9 (fpD s k).n c9)).setCell ⟨N5, 2, none⟩ (.slice a10 (fpD s k).m c10)) N5 a9 a10 c9 c10) := DT.set h1 (below_then h2 hX7) HBX7.out sf (l := w6.heap.size) (h := w7.heap.size) (by have := h2.size; omega) hz7 (Nat.le_refl _) (.inl (by omega)) ho7
      obtain ⟨Y, hY⟩ : ∃ x, x = ((w7.setCell ⟨N5, 0, none⟩ (.int .i64 0)).setCell ⟨N5, 1, none⟩ (.slice a9 (fpD s k).n c9)).setCell ⟨N5, 2, none⟩ (.slice a10 (fpD s k).m c10) := ⟨_, rfl⟩
      rw [← hY] at HDT2 ⊢
      clear hY h1 h2 r0 r1 r2 rf5 s0 s1 s2 sf hX7 hb6 hb7 ho6 ho7 HDT HBX7
      obtain ⟨q1, q2, ⟨r0, r1, r2⟩, rf5, -⟩ := HDT2.out
      have HBX : Hid (BoxS Y B (.int .i64 s.nx) (.slice d0 s.pn f0) (.slice d1 s.d.n f1) (.slice d2 s.d.m f2) (.slice d3 g1.n1 f3) (.slice d4 g1.n2 f4) (.slice d5 s.hn f5) (.slice d6 s.on f6)) := HBV.out.below q2
      have t2 := HBX.out.2.2.1
      have t3 := HBX.out.2.2.2.1
      have tf : ∀ i, Y.frozen? ⟨B, i, none⟩ = false := fun i => (q2.frozen (p := ⟨B, i, none⟩) HBL.out).trans (HBF.out i)
      have hne : ¬ N5 = B := by have := HBL.out; omega
      have hne' : ¬ B = N5 := by have := HBL.out; omega
      have HEND : Hid (CoR 0 (fpS s k) lo B col w (.returned (.int .i64 0)) ((Y.setCell ⟨B, 2, none⟩ (.slice a9 (fpD s k).n c9)).setCell ⟨B, 3, none⟩ (.slice a10 (fpD s k).m c10))) := wp_end HKV.out HFV.out HCV.out HDT2.out (fpS s k) HRR.out
      clear HBX q1 q2
      go_wp2_with fail
      go_ret
      exact HEND.out
theorem writePage_any (s : Sto) (n : Nat) (xs : List Value) (lo : Nat) (col : Nat → Nat) (B k : Nat) (w : World) (hG : GoodSt s) (hS : SmSt s) (hby : LogByt s.g) (hk : k < 4) (H : Wk s n xs lo col B w) (hcp : LgCap s.g.n1 B w) :
    Calls Tryz.prog 40 #[.pointer (some ⟨B, 0, none⟩), .int .i64 k] w (CoR 0 (fpS s k) lo B col w) := by
  by_cases hm : 57 < s.d.m
  · exact writePage_full s n xs lo col B k w hG hS hby hk H hcp hm
  · exact writePage_room s n xs lo col B k w hG hS hby hk H hcp hm
end Go.Proofs.YtaokclhcmgbgnaaGreat
