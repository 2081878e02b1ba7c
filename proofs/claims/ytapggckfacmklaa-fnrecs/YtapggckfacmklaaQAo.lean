/- AppendRec: what it answers; spec.AppendRec. -/
import Derived.Test.YtapggckfacmklaaQAn
namespace Go.Proofs.Ytapggckfacmklaa
open Go.RowKit Go.Deep
set_option linter.unusedVariables false
set_option maxRecDepth 20000

theorem ownB_at {w : World} {lo hi n : Nat} {a : Option Addr} {z : Nat → Int} (h : OwnB w lo hi a n z) : n = 0 ∨ ∃ g off, a = some ⟨g, off, none⟩ ∧ lo ≤ g ∧ g < hi ∧ OwnB w g (g + 1) a n z := by
  obtain ⟨h0, h1 | ⟨b, off, ha, hl, hh, r⟩⟩ := h
  · exact .inl h1
  · exact .inr ⟨b, off, ha, hl, hh, by omega, .inr ⟨b, off, ha, Nat.le_refl _, Nat.lt_succ_self _, r⟩⟩
theorem ownB_zero {w : World} {lo n : Nat} {a : Option Addr} {z : Nat → Int} (h : n = 0) (hl : lo ≤ w.heap.size) : OwnB w lo lo a n z := ⟨hl, .inl h⟩
theorem two_ownG {w : World} {m n1 n2 d1 d2 : Nat} {x1 x2 : Option Addr} {z1 : Nat → Int} {ys : List Int} (h : Two m w (.slice x1 n1 d1) (.slice x2 n2 d2) (zL z1 n1) ys) (hy : ys.length = n2) (hm : m ≤ w.heap.size) : OwnG w m w.heap.size x1 x2 ⟨n1, z1, n2, zOf ys⟩ := by
  obtain ⟨h1, h2, h3⟩ := h
  obtain ⟨y1, e1, k1, o1⟩ := ownB_of_row h1
  obtain ⟨y2, e2, k2, o2⟩ := ownB_of_row h2
  simp only [Value.slice.injEq] at k1 k2
  obtain ⟨rfl, -, -⟩ := k1
  obtain ⟨rfl, -, -⟩ := k2
  rw [zL_len] at o1
  rw [hy] at o2
  have o1' := ownB_zL o1
  refine ⟨Nat.le_refl _, ?_⟩
  rcases ownB_at o1' with p | ⟨g1, f1, rfl, p1, p2, p3⟩
  · rcases ownB_at o2 with q | ⟨g2, f2, rfl, q1, q2, q3⟩
    · exact ⟨m, m, m, m, Nat.le_refl _, hm, Nat.le_refl _, hm, .inl (Nat.le_refl _), ownB_zero p hm, ownB_zero q hm⟩
    · exact ⟨m, m, g2, g2 + 1, Nat.le_refl _, hm, q1, q2, .inl q1, ownB_zero p hm, q3⟩
  · rcases ownB_at o2 with q | ⟨g2, f2, rfl, q1, q2, q3⟩
    · exact ⟨g1, g1 + 1, m, m, p1, p2, Nat.le_refl _, hm, .inr p1, p3, ownB_zero q hm⟩
    · have hne : g1 ≠ g2 := fun e => h3 g1 rfl (by rw [e]; rfl)
      exact ⟨g1, g1 + 1, g2, g2 + 1, p1, p2, q1, q2, by omega, p3, q3⟩
def apC (L : Lo) (r : Int) : Int := if lgC L = 0 then (if r = 0 then (if 4000 < L.n1 + L.n2 + 13 then 2 else 0) else r) else lgC L
def apS (L : Lo) (r : Int) : Int := if apC L r = 0 then (((L.n1 + L.n2) / 13 + 1 : Nat) : Int) else 0
def apL (L : Lo) (r : Int) (rs : List Int) : Lo := if apC L r = 0 then ⟨L.n1, L.z1, L.n2 + 13, zOf (zL L.z2 L.n2 ++ rs)⟩ else ⟨0, fun _ => 0, 0, fun _ => 0⟩
theorem ap_log {L : Lo} {r : Int} (rs : List Int) (h : lgC L ≠ 0) : apC L r = lgC L ∧ apS L r = 0 ∧ apL L r rs = ⟨0, fun _ => 0, 0, fun _ => 0⟩ := by
  have e : apC L r = lgC L := if_neg h
  exact ⟨e, if_neg (by rw [e]; exact h), if_neg (by rw [e]; exact h)⟩
theorem ap_rec {L : Lo} {r : Int} (rs : List Int) (h : lgC L = 0) (hr : r ≠ 0) : apC L r = r ∧ apS L r = 0 ∧ apL L r rs = ⟨0, fun _ => 0, 0, fun _ => 0⟩ := by
  have e : apC L r = r := by unfold apC; rw [if_pos h, if_neg hr]
  exact ⟨e, if_neg (by rw [e]; exact hr), if_neg (by rw [e]; exact hr)⟩
theorem ap_full {L : Lo} {r : Int} (rs : List Int) (h : lgC L = 0) (hr : r = 0) (hf : 4000 < L.n1 + L.n2 + 13) : apC L r = 2 ∧ apS L r = 0 ∧ apL L r rs = ⟨0, fun _ => 0, 0, fun _ => 0⟩ := by
  have e : apC L r = 2 := by unfold apC; rw [if_pos h, if_pos hr, if_pos hf]
  exact ⟨e, if_neg (by rw [e]; omega), if_neg (by rw [e]; omega)⟩
theorem ap_ok {L : Lo} {r : Int} (rs : List Int) (h : lgC L = 0) (hr : r = 0) (hf : L.n1 + L.n2 + 13 ≤ 4000) : apC L r = 0 ∧ apS L r = (((L.n1 + L.n2) / 13 + 1 : Nat) : Int) ∧ apL L r rs = ⟨L.n1, L.z1, L.n2 + 13, zOf (zL L.z2 L.n2 ++ rs)⟩ := by
  have e : apC L r = 0 := by unfold apC; rw [if_pos h, if_pos hr, if_neg (by omega)]
  exact ⟨e, if_pos e, if_pos e⟩
/-- An answer with a log out of its box. -/
theorem lres_two {s : Int} {n1 n2 d1 d2 m lo : Nat} {z1 : Nat → Int} {ys : List Int} {w wq w' : World} {x1 x2 : Option Addr} (hB : Below w.heap.size w wq) (hl : w.heap.size ≤ lo) (hlo : lo + 1 ≤ m) (hm : m ≤ wq.heap.size) (hy : ys.length = n2) (h2 : Two m wq (.slice x1 n1 d1) (.slice x2 n2 d2) (zL z1 n1) ys) (hw : Writes lo (lo + 1) wq w') (hs : w'.heap.size = wq.heap.size) :
    LRes 0 s ⟨n1, z1, n2, zOf ys⟩ w (.returned (.agg #[.int .i64 0, .int .i64 s, .slice x1 n1 d1, .slice x2 n2 d2])) w' := by
  have h3 := h2.writes hw fun q hq => by
    rcases hq with hq | hq
    · have := (own_lt2 h2.1 q hq).1; omega
    · have := (own_lt2 h2.2.1 q hq).1; omega
  exact ⟨x1, x2, d1, d2, rfl, Writes.below hB hw hl, (two_ownG h3 hy (by omega)).wide (by omega) (Nat.le_refl _) (Nat.le_refl _)⟩
set_option maxHeartbeats 4000000 in
theorem specAr_any (L : Lo) (a1 a2 : Option Addr) (c1 c2 : Nat) (k t key : Int) (hd : Bool) (old : Int) (hs : Bool) (nw bk : Int) (w : World) (hn1 : L.n1 ≤ 1048576) (hn2 : L.n2 ≤ 1048576) (hby : LogByt L) (h : LogAt w a1 a2 L) :
    Calls Try.prog 14 #[.agg #[.slice a1 L.n1 c1, .slice a2 L.n2 c2], .agg #[.int .i64 k, .int .i64 t, .int .i64 key, .bool hd, .int .i64 old, .bool hs, .int .i64 nw, .int .i64 bk]] w (LRes (apC L (rf k t key hd old hs nw bk)) (apS L (rf k t key hd old hs nw bk)) (apL L (rf k t key hd old hs nw bk) (rb k t key hd old hs nw bk)) w) := by
  have HA : Hid (LogAt w a1 a2 L) := h
  have HY : Hid (LogByt L) := hby
  have HBX : Hid (∀ o1 o2 o3 : Obj, o1 = .cells #[.slice a1 L.n1 c1, .slice a2 L.n2 c2] 25 → o2 = .cells #[.int .i64 k, .int .i64 t, .int .i64 key, .bool hd, .int .i64 old, .bool hs, .int .i64 nw, .int .i64 bk] 37 → o3 = .cells #[.int .i64 0, .int .i64 0, .slice none 0 0, .slice none 0 0] 29 → Box2 (((w.alloc o1).alloc o2).alloc o3) w.heap.size (.slice a1 L.n1 c1) (.slice a2 L.n2 c2) ∧ Box8 (((w.alloc o1).alloc o2).alloc o3) (w.heap.size + 1) k t key hd old hs nw bk ∧ Box4 (((w.alloc o1).alloc o2).alloc o3) (w.heap.size + 2) (.int .i64 0) (.int .i64 0) (.slice none 0 0) (.slice none 0 0) ∧ (∀ i, (((w.alloc o1).alloc o2).alloc o3).frozen? ⟨w.heap.size + 2, i, none⟩ = false) ∧ Below w.heap.size w (((w.alloc o1).alloc o2).alloc o3) ∧ (((w.alloc o1).alloc o2).alloc o3).heap.size = w.heap.size + 3) := by
    rintro o1 o2 o3 rfl rfl rfl
    exact ⟨⟨by simp [go_sem], by simp [go_sem]⟩, ⟨by simp [go_sem], by simp [go_sem], by simp [go_sem], by simp [go_sem], by simp [go_sem], by simp [go_sem], by simp [go_sem], by simp [go_sem]⟩, ⟨by simp [go_sem], by simp [go_sem], by simp [go_sem], by simp [go_sem]⟩, fun i => by simp [go_sem], (((Below.refl _ _).alloc (Nat.le_refl _) _).alloc (by simp) _).alloc (by simp; omega) _, by simp⟩
  clear h hby
  go_enter Try.func14, Try.ntmps14
  go_wp2_with fail
  obtain ⟨hb1, hb8, hb4, hbf, hbw, hbs⟩ := HBX.out _ _ _ rfl rfl rfl
  refine (specLf_any L a1 a2 c1 c2 _ hn1 hn2 HY.out (HA.out.below hbw)).mono ?_
  rintro e w1 ⟨rfl, hbb⟩
  have HB1 : Hid (Below w.heap.size w w1) := below_then hbw hbb
  have HL : Hid (Box2 w1 w.heap.size (.slice a1 L.n1 c1) (.slice a2 L.n2 c2)) := hb1.below hbb
  have HR8 : Hid (Box8 w1 (w.heap.size + 1) k t key hd old hs nw bk) := hb8.below hbb
  have HR4 : Hid (Box4 w1 (w.heap.size + 2) (.int .i64 0) (.int .i64 0) (.slice none 0 0) (.slice none 0 0)) := hb4.below hbb
  have HRF : Hid (∀ i, w1.frozen? ⟨w.heap.size + 2, i, none⟩ = false) := fun i => ((bcell hbb).2 _ _ (by rw [hbs]; omega)).trans (hbf i)
  have hz1 : w.heap.size + 3 ≤ w1.heap.size := by have := hbb.size; rw [hbs] at this; exact this
  clear hb1 hb8 hb4 hbf hbw hbs hbb HBX
  obtain ⟨e0, e1, e2, e3, e4, e5, e6, e7⟩ := HR8.out
  by_cases hc : lgC L = 0
  case neg =>
    have hcc : (lgC L != 0) = true := by simpa using hc
    have HX : Hid (∀ w', Below w.heap.size w w' → LRes (apC L (rf k t key hd old hs nw bk)) (apS L (rf k t key hd old hs nw bk)) (apL L (rf k t key hd old hs nw bk) (rb k t key hd old hs nw bk)) w (.returned (.agg #[.int .i64 (lgC L), .int .i64 0, .slice none 0 0, .slice none 0 0])) w') := fun w' hb => by
      obtain ⟨i1, i2, i3⟩ := ap_log (r := rf k t key hd old hs nw bk) (rb k t key hd old hs nw bk) hc
      rw [i1, i2, i3]; exact lres_none hb
    obtain ⟨r0, r1, r2, r3⟩ := HR4.out
    have fz := HRF.out
    clear hc e0 e1 e2 e3 e4 e5 e6 e7
    generalize lgC L = c at *
    go_wp2_with fail
    refine bodyPost_ret (v := .agg #[.int .i64 c, .int .i64 0, .slice none 0 0, .slice none 0 0]) (by simp [results, Try.results14, go_sem, r0, r1, r2, r3]) rfl ?_
    refine HX.out _ ?_
    repeat (first | with_reducible exact HB1.out | with_reducible refine Below.setCell ?_ (by first | omega | (simp <;> omega)) _)
  have hle := (lgC_zero hc).1
  have HC : Hid (lgC L = 0) := hc
  rw [hc]
  clear hc
  go_wp2_with fail
  refine (specRf_any k t key hd old hs nw bk w1).mono ?_
  rintro e w2 ⟨rfl, hb2⟩
  have HB2 : Hid (Below w1.heap.size w1 w2) := hb2
  clear hb2 e0 e1 e2 e3 e4 e5 e6 e7
  obtain ⟨r0, r1, r2, r3⟩ := HR4.out.below HB2.out
  have fz : ∀ i, w2.frozen? ⟨w.heap.size + 2, i, none⟩ = false := fun i => (HB2.out.frozen (p := ⟨w.heap.size + 2, i, none⟩) (by show w.heap.size + 2 < w1.heap.size; omega)).trans (HRF.out i)
  by_cases hr : rf k t key hd old hs nw bk = 0
  case neg =>
    have hcc : (rf k t key hd old hs nw bk != 0) = true := by simpa using hr
    have HX : Hid (∀ w', Below w.heap.size w w' → LRes (apC L (rf k t key hd old hs nw bk)) (apS L (rf k t key hd old hs nw bk)) (apL L (rf k t key hd old hs nw bk) (rb k t key hd old hs nw bk)) w (.returned (.agg #[.int .i64 (rf k t key hd old hs nw bk), .int .i64 0, .slice none 0 0, .slice none 0 0])) w') := fun w' hb => by
      obtain ⟨i1, i2, i3⟩ := ap_rec (rb k t key hd old hs nw bk) HC.out hr
      rw [i1, i2, i3]; exact lres_none hb
    have HBB : Hid (Below w.heap.size w w2) := below_then HB1.out HB2.out
    clear hr
    generalize rf k t key hd old hs nw bk = c at *
    go_wp2_with fail
    refine bodyPost_ret (v := .agg #[.int .i64 c, .int .i64 0, .slice none 0 0, .slice none 0 0]) (by simp [results, Try.results14, go_sem, r0, r1, r2, r3]) rfl ?_
    refine HX.out _ ?_
    repeat (first | with_reducible exact HBB.out | with_reducible refine Below.setCell ?_ (by first | omega | (simp <;> omega)) _)
  have HG : Hid (GoodR k t key hd old hs nw bk) := goodR_of k t key hd old hs nw bk hr
  have HRR : Hid (rf k t key hd old hs nw bk = 0) := hr
  rw [hr]
  obtain ⟨e0, e1, e2, e3, e4, e5, e6, e7⟩ := HR8.out.below HB2.out
  obtain ⟨l0, l1⟩ := HL.out.below HB2.out
  clear hr
  go_wp2_with fail
  refine (l3Append_any L a1 a2 c1 c2 k t key hd old hs nw bk w2 hle HG.out ((HA.out.below HB1.out).below HB2.out)).mono ?_
  rintro e w3 ⟨hb3, hr3⟩
  have HB3 : Hid (Below w.heap.size w w3) := below_then (below_then HB1.out HB2.out) hb3
  have hz2 := HB2.out.size
  have hz3 := hb3.size
  replace r0 := cell_below r0 hb3
  replace r1 := cell_below r1 hb3
  replace r2 := cell_below r2 hb3
  replace r3 := cell_below r3 hb3
  replace fz : ∀ i, w3.frozen? ⟨w.heap.size + 2, i, none⟩ = false := fun i => (hb3.frozen (p := ⟨w.heap.size + 2, i, none⟩) (by show w.heap.size + 2 < w2.heap.size; omega)).trans (fz i)
  clear hb3 e0 e1 e2 e3 e4 e5 e6 e7 l0 l1
  rcases hr3 with ⟨hf, rfl⟩ | ⟨hf, x1, d1, x2, d2, rfl, h2⟩
  · have HX : Hid (∀ w', Below w.heap.size w w' → LRes (apC L (rf k t key hd old hs nw bk)) (apS L (rf k t key hd old hs nw bk)) (apL L (rf k t key hd old hs nw bk) (rb k t key hd old hs nw bk)) w (.returned (.agg #[.int .i64 2, .int .i64 0, .slice none 0 0, .slice none 0 0])) w') := fun w' hb => by
      obtain ⟨i1, i2, i3⟩ := ap_full (rb k t key hd old hs nw bk) HC.out HRR.out hf
      rw [i1, i2, i3]; exact lres_none hb
    have R0 := fun o : Obj => cell_alloc r0 o
    have R1 := fun o : Obj => cell_alloc r1 o
    have R2 := fun o : Obj => cell_alloc r2 o
    have R3 := fun o : Obj => cell_alloc r3 o
    have FZ : ∀ i c t, (w3.alloc (.cells c t)).frozen? ⟨w.heap.size + 2, i, none⟩ = false := fun i c t => by rw [frozen?_alloc_cells]; exact fz i
    have HBA : Hid (∀ o : Obj, Below w.heap.size w (w3.alloc o)) := fun o => below_then HB3.out (below_new _ _)
    clear hf
    go_wp2_with fail
    refine bodyPost_ret (v := .agg #[.int .i64 2, .int .i64 0, .slice none 0 0, .slice none 0 0]) (by simp [results, Try.results14, go_sem, R0, R1, R2, R3]) rfl ?_
    refine HX.out _ ?_
    repeat (first | with_reducible exact HBA.out _ | with_reducible refine Below.setCell ?_ (by first | omega | (simp <;> omega)) _)
  · have hu7 : L.n1 + (L.n2 + 13) ≤ 1048576 := by omega
    have hlr : (zL L.z2 L.n2 ++ rb k t key hd old hs nw bk).length = L.n2 + 13 := by rw [List.length_append, zL_len, rb_len]
    have HLR : Hid ((zL L.z2 L.n2 ++ rb k t key hd old hs nw bk).length = L.n2 + 13) := hlr
    have H2 : Hid (Two (w2.heap.size + 2) w3 (.slice x1 L.n1 d1) (.slice x2 (L.n2 + 13) d2) (zL L.z1 L.n1) (zL L.z2 L.n2 ++ rb k t key hd old hs nw bk)) := h2
    have HF : Hid (L.n1 + L.n2 + 13 ≤ 4000) := hf
    clear h2 hlr hf
    go_upto_region 10 with fail
    obtain ⟨W, hW⟩ : ∃ y, y = w3.alloc (.cells #[.slice x1 L.n1 d1, .slice x2 (L.n2 + 13) d2] 25) := ⟨_, rfl⟩
    have HBW : Hid (Below w3.heap.size w3 W) := by rw [hW]; exact below_new _ _
    have y0 : W.cell? ⟨w3.heap.size, 0, none⟩ = some (.slice x1 L.n1 d1) := by rw [hW]; simp [go_sem]
    have y1 : W.cell? ⟨w3.heap.size, 1, none⟩ = some (.slice x2 (L.n2 + 13) d2) := by rw [hW]; simp [go_sem]
    rw [← hW]
    clear hW
    replace r0 := cell_below r0 HBW.out
    replace r1 := cell_below r1 HBW.out
    replace r2 := cell_below r2 HBW.out
    replace r3 := cell_below r3 HBW.out
    replace fz : ∀ i, W.frozen? ⟨w.heap.size + 2, i, none⟩ = false := fun i => (HBW.out.frozen (p := ⟨w.heap.size + 2, i, none⟩) (by show w.heap.size + 2 < w3.heap.size; omega)).trans (fz i)
    go_region_law (first | (go_simp; go_at_call 28; refine (l3Count_any ⟨L.n1, L.z1, L.n2 + 13, fun _ => 0⟩ x1 x2 d1 d2 _ hu7).mono ?_; rintro e wa ⟨rfl, hba⟩; have hB := drewB6 hba; have s0 := cell_below y0 hB; have s1 := cell_below y1 hB; have t0 := cell_below r0 hB; have t1 := cell_below r1 hB; have t2 := cell_below r2 hB; have t3 := cell_below r3 hB; have tf := fun i : Nat => (hB.frozen (p := ⟨w.heap.size + 2, i, none⟩) (by have := Go.block_lt_of_cell r0; exact this)).trans (fz i); have HBA : Hid (Below w3.heap.size w3 wa) := below_then HBW.out hB; clear hba hB))
    all_goals
      have hud : ((L.n1 : Int) + ((L.n2 : Int) + 13)) / 13 = (((L.n1 + L.n2) / 13 + 1 : Nat) : Int) := by omega
      have hud2 : ((L.n1 + (L.n2 + 13)) / 13 : Nat) = (L.n1 + L.n2) / 13 + 1 := by omega
      have HX : Hid (∀ w', Writes (w.heap.size + 2) (w.heap.size + 3) wa w' → w'.heap.size = wa.heap.size → LRes (apC L (rf k t key hd old hs nw bk)) (apS L (rf k t key hd old hs nw bk)) (apL L (rf k t key hd old hs nw bk) (rb k t key hd old hs nw bk)) w (.returned (.agg #[.int .i64 0, .int .i64 (((L.n1 + L.n2) / 13 + 1 : Nat) : Int), .slice x1 L.n1 d1, .slice x2 (L.n2 + 13) d2])) w') := fun w' hw hs7 => by
        obtain ⟨i1, i2, i3⟩ := ap_ok (rb k t key hd old hs nw bk) HC.out HRR.out HF.out
        rw [i1, i2, i3]
        exact lres_two (m := w2.heap.size) (below_then HB3.out HBA.out) (by omega) (by omega) (by have := HBA.out.size; omega) HLR.out ((H2.out.down (by omega)).below HBA.out) hw hs7
      obtain ⟨ns, hns⟩ : ∃ ns : Int, ns = (((L.n1 + L.n2) / 13 + 1 : Nat) : Int) := ⟨_, rfl⟩
      rw [← hns] at HX hud
      clear hns
      go_wp2_with fail
      refine bodyPost_ret (v := .agg #[.int .i64 0, .int .i64 ns, .slice x1 L.n1 d1, .slice x2 (L.n2 + 13) d2]) (by simp [results, Try.results14, go_sem, t0, t1, t2, t3, hud]) rfl ?_
      refine HX.out _ ?_ (by simp [World.setCell])
      repeat (first | with_reducible exact Writes.refl _ _ _ | with_reducible apply Writes.drew1 | with_reducible refine Writes.setCell ?_ (by first | omega | (simp <;> omega)) (by first | omega | (simp <;> omega)) _)
end Go.Proofs.Ytapggckfacmklaa
