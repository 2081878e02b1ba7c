/- spec.l12Log: a record appended to the log of a store in its box. -/
import Derived.Test.YtannmobmmnoegaaGreatQZdb
import Derived.Test.YtannmobmmnoegaaGreatQAn
namespace Go.Proofs.YtannmobmmnoegaaGreat
open Go.ChangeShapes Go.WideShapes Go.ChangeAt Go.RowKit Go.Deep Go.Joins
set_option linter.unusedVariables false
set_option maxRecDepth 20000

/-- The log behind one more record. -/
def apR (L : Lo) (rs : List Int) : Lo := ⟨L.n1, L.z1, L.n2 + 13, zOf (zL L.z2 L.n2 ++ rs)⟩
/-- What l12Log answers and does to the box B. -/
def LogR (L : Lo) (rs : List Int) (B : Nat) (w : World) (e : Ending) (w' : World) : Prop :=
  (4000 < L.n1 + L.n2 + 13 ∧ e = .returned (.int .i64 2) ∧ Below w.heap.size w w') ∨ (L.n1 + L.n2 + 13 ≤ 4000 ∧ e = .returned (.int .i64 0) ∧ ∃ w0 x1 d1 x2 d2, Below w.heap.size w w0 ∧ OwnG w0 w.heap.size w0.heap.size x1 x2 (apR L rs) ∧ w' = (w0.setCell ⟨B, 4, none⟩ (.slice x1 L.n1 d1)).setCell ⟨B, 5, none⟩ (.slice x2 (L.n2 + 13) d2))
theorem box8_below {w w' : World} {b : Nat} {k t key : Int} {hd : Bool} {old : Int} {hs : Bool} {nw bk : Int} (h : Box8 w b k t key hd old hs nw bk) (hb : Below w.heap.size w w') : Box8 w' b k t key hd old hs nw bk := by
  obtain ⟨r0, r1, r2, r3, r4, r5, r6, r7⟩ := h
  exact ⟨cell_below r0 hb, cell_below r1 hb, cell_below r2 hb, cell_below r3 hb, cell_below r4 hb, cell_below r5 hb, cell_below r6 hb, cell_below r7 hb⟩
theorem box8_block {w w' : World} {b : Nat} {k t key : Int} {hd : Bool} {old : Int} {hs : Bool} {nw bk : Int} (h : Box8 w b k t key hd old hs nw bk) (e : w'.heap[b]? = w.heap[b]?) : Box8 w' b k t key hd old hs nw bk := by
  have q : ∀ i, w'.cell? ⟨b, i, none⟩ = w.cell? ⟨b, i, none⟩ := fun i => World.cell?_of_block (w := w) (a := ⟨b, i, none⟩) e
  obtain ⟨r0, r1, r2, r3, r4, r5, r6, r7⟩ := h
  exact ⟨(q 0).trans r0, (q 1).trans r1, (q 2).trans r2, (q 3).trans r3, (q 4).trans r4, (q 5).trans r5, (q 6).trans r6, (q 7).trans r7⟩
theorem two_size {w w' : World} {v1 v2 : Value} {xs ys : List Int} (h : Two (w.heap.size + 2) w' v1 v2 xs ys) (hy : 0 < ys.length) : w.heap.size + 2 ≤ w'.heap.size := by
  rcases h.2.1.2 with ⟨_, q'⟩ | ⟨g, _, _, _, q1, q2, _⟩
  · omega
  · have := (Array.getElem?_eq_some_iff.1 q2).1; omega
set_option maxHeartbeats 8000000 in
theorem l12Log_any (L : Lo) (B : Nat) (v0 v1 v2 v3 v6 v7 : Value) (a1 a2 : Option Addr) (c1 c2 : Nat) (k t key : Int) (hd : Bool) (old : Int) (hs : Bool) (nw bk : Int) (w : World) (hsz : L.n1 + L.n2 ≤ 4000) (g : GoodR k t key hd old hs nw bk) (hbx : BoxS w B v0 v1 v2 v3 (.slice a1 L.n1 c1) (.slice a2 L.n2 c2) v6 v7) (hfr : ∀ i, w.frozen? ⟨B, i, none⟩ = false) (h : LogAt w a1 a2 L) :
    Calls Tryz.prog 33 #[.pointer (some ⟨B, 0, none⟩), .agg #[.int .i64 k, .int .i64 t, .int .i64 key, .bool hd, .int .i64 old, .bool hs, .int .i64 nw, .int .i64 bk]] w (LogR L (rb k t key hd old hs nw bk) B w) := by
  have HA : Hid (LogAt w a1 a2 L) := h
  have HG : Hid (GoodR k t key hd old hs nw bk) := g
  have hBl : B < w.heap.size := hbx.lt
  clear h g
  go_enter Tryz.func33, Tryz.ntmps33
  go_upto_region 1 with fail
  obtain ⟨W, hW⟩ : ∃ x, x = w.alloc (.cells #[.int .i64 k, .int .i64 t, .int .i64 key, .bool hd, .int .i64 old, .bool hs, .int .i64 nw, .int .i64 bk] 67) := ⟨_, rfl⟩
  have hbW : Below w.heap.size w W := by rw [hW]; exact below_new _ _
  have hWs : W.heap.size = w.heap.size + 1 := by rw [hW]; simp
  have SW : BoxS W B v0 v1 v2 v3 (.slice a1 L.n1 c1) (.slice a2 L.n2 c2) v6 v7 ∧ Box8 W w.heap.size k t key hd old hs nw bk := by
    refine ⟨hbx.below hbW, ?_⟩
    rw [hW]
    simp [Box8, go_sem]
  have HFW : Hid (∀ i, W.frozen? ⟨B, i, none⟩ = false) := fun i => (hbW.frozen (p := ⟨B, i, none⟩) hBl).trans (hfr i)
  rw [← hW]
  clear hW hbx hfr
  refine wp_region_E 11 (S := fun u => BoxS u B v0 v1 v2 v3 (.slice a1 L.n1 c1) (.slice a2 L.n2 c2) v6 v7 ∧ Box8 u w.heap.size k t key hd old hs nw bk) (by kernel_rfl) ⟨SW.1.below ((Below.refl _ _).drew), by obtain ⟨r0, r1, r2, r3, r4, r5, r6, r7⟩ := SW.2; exact ⟨r0, r1, r2, r3, r4, r5, r6, r7⟩⟩ (fun hS => ?_)
  obtain ⟨y0, hy0⟩ : ∃ y, y = W.drew := ⟨_, rfl⟩
  have hby : Below W.heap.size W y0 := by rw [hy0]; exact (Below.refl _ _).drew
  rw [← hy0] at hS ⊢
  clear hy0 SW
  have HBY : Hid (Below w.heap.size w y0) := below_then hbW hby
  have HYS : Hid (w.heap.size + 1 ≤ y0.heap.size) := by have := hby.size; show _ ≤ _; omega
  replace HFW : Hid (∀ i, y0.frozen? ⟨B, i, none⟩ = false) := fun i => (hby.frozen (p := ⟨B, i, none⟩) (by show B < W.heap.size; omega)).trans (HFW.out i)
  replace HA : Hid (LogAt y0 a1 a2 L) := HA.out.below HBY.out
  clear hby hbW hWs
  refine wpAnyE_takeD (L := 11) (i := 0) (v := .pointer (some ⟨B, 0, none⟩)) (some 8) rfl rfl (by kernel_rfl) (by kernel_rfl) (by kernel_rfl) (by kernel_rfl) (fun _ _ _ h => h) (Or.inl ⟨by kernel_rfl, by intro u hSu; go_simp⟩) hS ?_
  try simp only [Act.put, List.setIfInBounds_toArray, List.set_cons_zero, List.set_cons_succ]
  refine wpAnyE_takeD (L := 11) (i := 1) (v := .pointer (some ⟨B, 0, none⟩)) (some 9) rfl rfl (by kernel_rfl) (by kernel_rfl) (by kernel_rfl) (by kernel_rfl) (fun _ _ _ h => h) (Or.inl ⟨by kernel_rfl, by intro u hSu; go_simp⟩) hS ?_
  try simp only [Act.put, List.setIfInBounds_toArray, List.set_cons_zero, List.set_cons_succ]
  refine wpAnyE_takeD (L := 11) (i := 2) (v := .pointer (some ⟨B, 4, none⟩)) (some 10) rfl rfl (by kernel_rfl) (by kernel_rfl) (by kernel_rfl) (by kernel_rfl) (fun _ _ _ h => h) (Or.inl ⟨by kernel_rfl, by intro u hSu; go_simp⟩) hS ?_
  try simp only [Act.put, List.setIfInBounds_toArray, List.set_cons_zero, List.set_cons_succ]
  refine wpAnyE_takeD (L := 11) (i := 3) (v := .agg #[.slice a1 L.n1 c1, .slice a2 L.n2 c2]) (some 11) rfl rfl (by kernel_rfl) (by kernel_rfl) (by kernel_rfl) (by kernel_rfl) (fun _ _ _ h => h) (Or.inl ⟨by kernel_rfl, by intro u hSu; obtain ⟨⟨h0, h1, h2, h3, h4, h5, h6, h7⟩, -⟩ := hSu; go_simp⟩) hS ?_
  try simp only [Act.put, List.setIfInBounds_toArray, List.set_cons_zero, List.set_cons_succ]
  refine wpAnyE_takeD (L := 11) (i := 4) (v := .agg #[.int .i64 k, .int .i64 t, .int .i64 key, .bool hd, .int .i64 old, .bool hs, .int .i64 nw, .int .i64 bk]) (some 12) rfl rfl (by kernel_rfl) (by kernel_rfl) (by kernel_rfl) (by kernel_rfl) (fun _ _ _ h => h) (Or.inl ⟨by kernel_rfl, by intro u hSu; obtain ⟨-, ⟨r0, r1, r2, r3, r4, r5, r6, r7⟩⟩ := hSu; go_simp⟩) hS ?_
  try simp only [Act.put, List.setIfInBounds_toArray, List.set_cons_zero, List.set_cons_succ]
  refine wpAnyE_ready (rs := [5, 9]) (by kernel_rfl) (by simp) ?_
  refine AllReadyE.cons rfl (fun K9 hK => ?_) (AllReadyE.cons rfl (fun K9 hK => ?_) AllReadyE.nil)
  · go_simp
    have HAy : Hid (LogAt y0 a1 a2 L) := HA.out
    refine (l3Append_any L a1 a2 c1 c2 k t key hd old hs nw bk y0 hsz HG.out HAy.out).mono ?_
    rintro e w1 ⟨hb1, ⟨hgt, rfl⟩ | ⟨hle, x1, d1, x2, d2, rfl, h2⟩⟩
    · have HB1 : Hid (Below y0.heap.size y0 w1) := hb1
      have HS1 : Hid (BoxS w1 B v0 v1 v2 v3 (.slice a1 L.n1 c1) (.slice a2 L.n2 c2) v6 v7 ∧ Box8 w1 w.heap.size k t key hd old hs nw bk) := ⟨hS.1.below hb1, box8_below hS.2 hb1⟩
      refine hK.out _ _ (HS1.out) (fun hS9 => ?_)
      try simp only [Act.put, List.setIfInBounds_toArray, List.set_cons_zero, List.set_cons_succ]
      clear hK K9 hS
      have hS := hS9
      clear hS9
      refine wpAnyE_takeD (L := 11) (i := 6) (v := .tuple #[.agg #[.slice a1 L.n1 c1, .slice a2 L.n2 c2], .int .i64 2]) (some 7) rfl rfl (by kernel_rfl) (by kernel_rfl) (by kernel_rfl) (by kernel_rfl) (fun _ _ _ h => h) (Or.inl ⟨by kernel_rfl, by intro u hSu; go_simp⟩) hS ?_
      try simp only [Act.put, List.setIfInBounds_toArray, List.set_cons_zero, List.set_cons_succ]
      refine wpAnyE_takeD (L := 11) (i := 7) (v := .agg #[.slice a1 L.n1 c1, .slice a2 L.n2 c2]) (some 14) rfl rfl (by kernel_rfl) (by kernel_rfl) (by kernel_rfl) (by kernel_rfl) (fun _ _ _ h => h) (Or.inl ⟨by kernel_rfl, by intro u hSu; go_simp⟩) hS ?_
      try simp only [Act.put, List.setIfInBounds_toArray, List.set_cons_zero, List.set_cons_succ]
      refine wpAnyE_takeD (L := 11) (i := 8) (v := .int .i64 2) (some 15) rfl rfl (by kernel_rfl) (by kernel_rfl) (by kernel_rfl) (by kernel_rfl) (fun _ _ _ h => h) (Or.inl ⟨by kernel_rfl, by intro u hSu; go_simp⟩) hS ?_
      try simp only [Act.put, List.setIfInBounds_toArray, List.set_cons_zero, List.set_cons_succ]
      refine wpAnyE_ready (rs := [9]) (by kernel_rfl) (by simp) ?_
      refine AllReadyE.cons rfl (fun K9 hK => ?_) AllReadyE.nil
      go_simp
      refine hK.out _ _ (⟨hS.1.below (below_new _ _), box8_below hS.2 (below_new _ _)⟩) (fun hS9 => ?_)
      try simp only [Act.put, List.setIfInBounds_toArray, List.set_cons_zero, List.set_cons_succ]
      clear hK K9 hS
      have hS := hS9
      clear hS9
      refine wpAnyE_ready (rs := [10]) (by kernel_rfl) (by simp) ?_
      refine AllReadyE.cons rfl (fun K9 hK => ?_) AllReadyE.nil
      go_simp
      refine hK.out _ _ (⟨HS1.out.1.below (below_new _ _), box8_below HS1.out.2 (below_new _ _)⟩) (fun hS9 => ?_)
      try simp only [Act.put, List.setIfInBounds_toArray, List.set_cons_zero, List.set_cons_succ]
      clear hK K9 hS
      have hS := hS9
      clear hS9
      refine wpAnyE_ready (rs := [11]) (by kernel_rfl) (by simp) ?_
      refine AllReadyE.last rfl (fun K9 hK => ?_)
      go_simp
      refine hK.out _ _ ?_
      try simp only [Act.put, List.setIfInBounds_toArray, List.set_cons_zero, List.set_cons_succ]
      clear hK K9 hS
      refine wpAnyE_done (by kernel_rfl) ?_ _
      go_simp
      obtain ⟨WE, hWE⟩ : ∃ x, x = w1.alloc (.cells #[.slice a1 L.n1 c1, .slice a2 L.n2 c2] 39) := ⟨_, rfl⟩
      have HBE : Hid (Below w.heap.size w WE) := by rw [hWE]; exact below_then (below_then HBY.out HB1.out) (below_new _ _)
      rw [← hWE]
      have hb9 : Below w1.heap.size w1 WE := by rw [hWE]; exact below_new _ _
      obtain ⟨z0, z1, z2, z3, z4, z5, z6, z7⟩ := HS1.out.1.below hb9
      have zf : ∀ i, WE.frozen? ⟨B, i, none⟩ = false := fun i => ((below_then HB1.out hb9).frozen (p := ⟨B, i, none⟩) (by have := HYS.out; show B < y0.heap.size; omega)).trans (HFW.out i)
      have l0 : WE.cell? ⟨w1.heap.size, 0, none⟩ = some (.slice a1 L.n1 c1) := by rw [hWE]; simp [go_sem]
      have l1 : WE.cell? ⟨w1.heap.size, 1, none⟩ = some (.slice a2 L.n2 c2) := by rw [hWE]; simp [go_sem]
      clear hWE hb9
      go_wp2_with fail
      refine bodyPost_ret (v := .int .i64 2) (by simp [results, Tryz.results33, go_sem]) rfl (.inl ⟨hgt, rfl, ?_⟩)
      exact HBE.out
    · have HB1 : Hid (Below y0.heap.size y0 w1) := hb1
      have HS1 : Hid (BoxS w1 B v0 v1 v2 v3 (.slice a1 L.n1 c1) (.slice a2 L.n2 c2) v6 v7 ∧ Box8 w1 w.heap.size k t key hd old hs nw bk) := ⟨hS.1.below hb1, box8_below hS.2 hb1⟩
      have HOG : Hid (OwnG w1 (y0.heap.size + 2) w1.heap.size x1 x2 (apR L (rb k t key hd old hs nw bk))) := two_ownG h2 (by simp [zL, rb_len]) (two_size h2 (by simp [rb_len]))
      clear h2
      refine hK.out _ _ (HS1.out) (fun hS9 => ?_)
      try simp only [Act.put, List.setIfInBounds_toArray, List.set_cons_zero, List.set_cons_succ]
      clear hK K9 hS
      have hS := hS9
      clear hS9
      refine wpAnyE_takeD (L := 11) (i := 6) (v := .tuple #[.agg #[.slice x1 L.n1 d1, .slice x2 (L.n2 + 13) d2], .int .i64 0]) (some 7) rfl rfl (by kernel_rfl) (by kernel_rfl) (by kernel_rfl) (by kernel_rfl) (fun _ _ _ h => h) (Or.inl ⟨by kernel_rfl, by intro u hSu; go_simp⟩) hS ?_
      try simp only [Act.put, List.setIfInBounds_toArray, List.set_cons_zero, List.set_cons_succ]
      refine wpAnyE_takeD (L := 11) (i := 7) (v := .agg #[.slice x1 L.n1 d1, .slice x2 (L.n2 + 13) d2]) (some 14) rfl rfl (by kernel_rfl) (by kernel_rfl) (by kernel_rfl) (by kernel_rfl) (fun _ _ _ h => h) (Or.inl ⟨by kernel_rfl, by intro u hSu; go_simp⟩) hS ?_
      try simp only [Act.put, List.setIfInBounds_toArray, List.set_cons_zero, List.set_cons_succ]
      refine wpAnyE_takeD (L := 11) (i := 8) (v := .int .i64 0) (some 15) rfl rfl (by kernel_rfl) (by kernel_rfl) (by kernel_rfl) (by kernel_rfl) (fun _ _ _ h => h) (Or.inl ⟨by kernel_rfl, by intro u hSu; go_simp⟩) hS ?_
      try simp only [Act.put, List.setIfInBounds_toArray, List.set_cons_zero, List.set_cons_succ]
      refine wpAnyE_ready (rs := [9]) (by kernel_rfl) (by simp) ?_
      refine AllReadyE.cons rfl (fun K9 hK => ?_) AllReadyE.nil
      go_simp
      refine hK.out _ _ (⟨hS.1.below (below_new _ _), box8_below hS.2 (below_new _ _)⟩) (fun hS9 => ?_)
      try simp only [Act.put, List.setIfInBounds_toArray, List.set_cons_zero, List.set_cons_succ]
      clear hK K9 hS
      have hS := hS9
      clear hS9
      refine wpAnyE_ready (rs := [10]) (by kernel_rfl) (by simp) ?_
      refine AllReadyE.cons rfl (fun K9 hK => ?_) AllReadyE.nil
      go_simp
      refine hK.out _ _ (⟨HS1.out.1.below (below_new _ _), box8_below HS1.out.2 (below_new _ _)⟩) (fun hS9 => ?_)
      try simp only [Act.put, List.setIfInBounds_toArray, List.set_cons_zero, List.set_cons_succ]
      clear hK K9 hS
      have hS := hS9
      clear hS9
      refine wpAnyE_ready (rs := [11]) (by kernel_rfl) (by simp) ?_
      refine AllReadyE.last rfl (fun K9 hK => ?_)
      go_simp
      refine hK.out _ _ ?_
      try simp only [Act.put, List.setIfInBounds_toArray, List.set_cons_zero, List.set_cons_succ]
      clear hK K9 hS
      refine wpAnyE_done (by kernel_rfl) ?_ _
      go_simp
      obtain ⟨WE, hWE⟩ : ∃ x, x = w1.alloc (.cells #[.slice x1 L.n1 d1, .slice x2 (L.n2 + 13) d2] 39) := ⟨_, rfl⟩
      have HBE : Hid (Below w.heap.size w WE) := by rw [hWE]; exact below_then (below_then HBY.out HB1.out) (below_new _ _)
      have HOE : Hid (OwnG WE w.heap.size WE.heap.size x1 x2 (apR L (rb k t key hd old hs nw bk))) := by rw [hWE]; exact (HOG.out.below (below_new _ _)).wide (by have := HYS.out; omega) (by simp) (Nat.le_refl _)
      rw [← hWE]
      have hb9 : Below w1.heap.size w1 WE := by rw [hWE]; exact below_new _ _
      obtain ⟨z0, z1, z2, z3, z4, z5, z6, z7⟩ := HS1.out.1.below hb9
      have zf : ∀ i, WE.frozen? ⟨B, i, none⟩ = false := fun i => ((below_then HB1.out hb9).frozen (p := ⟨B, i, none⟩) (by have := HYS.out; show B < y0.heap.size; omega)).trans (HFW.out i)
      have l0 : WE.cell? ⟨w1.heap.size, 0, none⟩ = some (.slice x1 L.n1 d1) := by rw [hWE]; simp [go_sem]
      have l1 : WE.cell? ⟨w1.heap.size, 1, none⟩ = some (.slice x2 (L.n2 + 13) d2) := by rw [hWE]; simp [go_sem]
      clear hWE hb9
      go_wp2_with fail
      refine bodyPost_ret (v := .int .i64 0) (by simp [results, Tryz.results33, go_sem]) rfl (.inr ⟨hle, rfl, WE, x1, d1, x2, d2, HBE.out, HOE.out, rfl⟩)
  · go_simp
    refine hK.out _ _ (⟨hS.1.below (below_new _ _), box8_below hS.2 (below_new _ _)⟩) (fun hS9 => ?_)
    try simp only [Act.put, List.setIfInBounds_toArray, List.set_cons_zero, List.set_cons_succ]
    clear hK K9 hS
    have hS := hS9
    clear hS9
    obtain ⟨y1, hy1⟩ : ∃ x, x = y0.alloc (.cells #[.slice none 0 0, .slice none 0 0] 39) := ⟨_, rfl⟩
    have HY1 : Hid (Below y0.heap.size y0 y1) := by rw [hy1]; exact below_new _ _
    have hys : y1.heap.size = y0.heap.size + 1 := by rw [hy1]; simp
    have m0 : y1.cell? ⟨y0.heap.size, 0, none⟩ = some (.slice none 0 0) := by rw [hy1]; simp [go_sem]
    have m1 : y1.cell? ⟨y0.heap.size, 1, none⟩ = some (.slice none 0 0) := by rw [hy1]; simp [go_sem]
    have mf : ∀ i, y1.frozen? ⟨y0.heap.size, i, none⟩ = false := fun i => by rw [hy1]; simp [go_sem]
    rw [← hy1] at hS ⊢
    clear hy1
    have HAy : Hid (LogAt y1 a1 a2 L) := HA.out.below HY1.out
    refine wpAnyE_ready (rs := [5]) (by kernel_rfl) (by simp) ?_
    refine AllReadyE.cons rfl (fun K9 hK => ?_) AllReadyE.nil
    go_simp
    refine (l3Append_any L a1 a2 c1 c2 k t key hd old hs nw bk y1 hsz HG.out HAy.out).mono ?_
    rintro e w1 ⟨hb1, ⟨hgt, rfl⟩ | ⟨hle, x1, d1, x2, d2, rfl, h2⟩⟩
    · have HB1 : Hid (Below y1.heap.size y1 w1) := hb1
      have HS1 : Hid (BoxS w1 B v0 v1 v2 v3 (.slice a1 L.n1 c1) (.slice a2 L.n2 c2) v6 v7 ∧ Box8 w1 w.heap.size k t key hd old hs nw bk) := ⟨hS.1.below hb1, box8_below hS.2 hb1⟩
      have n0 := cell_below m0 hb1
      have n1 := cell_below m1 hb1
      have nf : ∀ i, w1.frozen? ⟨y0.heap.size, i, none⟩ = false := fun i => (hb1.frozen (p := ⟨y0.heap.size, i, none⟩) (by show y0.heap.size < y1.heap.size; omega)).trans (mf i)
      have HWW : Hid (Writes y0.heap.size (y0.heap.size + 1) w1 ((w1.setCell ⟨y0.heap.size, 0, none⟩ (.slice a1 L.n1 c1)).setCell ⟨y0.heap.size, 1, none⟩ (.slice a2 L.n2 c2))) := ((Writes.refl _ _ _).setCell (p := ⟨y0.heap.size, 0, none⟩) (Nat.le_refl _) (Nat.lt_succ_self _) _).setCell (p := ⟨y0.heap.size, 1, none⟩) (Nat.le_refl _) (Nat.lt_succ_self _) _
      have HSE : Hid (BoxS ((w1.setCell ⟨y0.heap.size, 0, none⟩ (.slice a1 L.n1 c1)).setCell ⟨y0.heap.size, 1, none⟩ (.slice a2 L.n2 c2)) B v0 v1 v2 v3 (.slice a1 L.n1 c1) (.slice a2 L.n2 c2) v6 v7 ∧ Box8 ((w1.setCell ⟨y0.heap.size, 0, none⟩ (.slice a1 L.n1 c1)).setCell ⟨y0.heap.size, 1, none⟩ (.slice a2 L.n2 c2)) w.heap.size k t key hd old hs nw bk) := ⟨HS1.out.1.writes HWW.out (.inl (by have := HYS.out; omega)), box8_block HS1.out.2 (HWW.out.block _ (by have := HYS.out; have := hb1.size; omega) (.inl (by have := HYS.out; omega)))⟩
      have HNF : Hid (∀ i, ((w1.setCell ⟨y0.heap.size, 0, none⟩ (.slice a1 L.n1 c1)).setCell ⟨y0.heap.size, 1, none⟩ (.slice a2 L.n2 c2)).frozen? ⟨B, i, none⟩ = false) := fun i => by
        rw [World.frozen?_setCell, World.frozen?_setCell]
        exact ((below_then HY1.out hb1).frozen (p := ⟨B, i, none⟩) (by have := HYS.out; show B < y0.heap.size; omega)).trans (HFW.out i)
      have HBW : Hid (Below w.heap.size w ((w1.setCell ⟨y0.heap.size, 0, none⟩ (.slice a1 L.n1 c1)).setCell ⟨y0.heap.size, 1, none⟩ (.slice a2 L.n2 c2))) := HWW.out.below (below_then (below_then HBY.out HY1.out) hb1) (by have := HYS.out; omega)
      refine hK.out _ _ (HS1.out) (fun hS9 => ?_)
      try simp only [Act.put, List.setIfInBounds_toArray, List.set_cons_zero, List.set_cons_succ]
      clear hK K9 hS
      have hS := hS9
      clear hS9
      clear hb1
      refine wpAnyE_takeD (L := 11) (i := 6) (v := .tuple #[.agg #[.slice a1 L.n1 c1, .slice a2 L.n2 c2], .int .i64 2]) (some 7) rfl rfl (by kernel_rfl) (by kernel_rfl) (by kernel_rfl) (by kernel_rfl) (fun _ _ _ h => h) (Or.inl ⟨by kernel_rfl, by intro u hSu; go_simp⟩) hS ?_
      try simp only [Act.put, List.setIfInBounds_toArray, List.set_cons_zero, List.set_cons_succ]
      refine wpAnyE_takeD (L := 11) (i := 7) (v := .agg #[.slice a1 L.n1 c1, .slice a2 L.n2 c2]) (some 14) rfl rfl (by kernel_rfl) (by kernel_rfl) (by kernel_rfl) (by kernel_rfl) (fun _ _ _ h => h) (Or.inl ⟨by kernel_rfl, by intro u hSu; go_simp⟩) hS ?_
      try simp only [Act.put, List.setIfInBounds_toArray, List.set_cons_zero, List.set_cons_succ]
      refine wpAnyE_takeD (L := 11) (i := 8) (v := .int .i64 2) (some 15) rfl rfl (by kernel_rfl) (by kernel_rfl) (by kernel_rfl) (by kernel_rfl) (fun _ _ _ h => h) (Or.inl ⟨by kernel_rfl, by intro u hSu; go_simp⟩) hS ?_
      try simp only [Act.put, List.setIfInBounds_toArray, List.set_cons_zero, List.set_cons_succ]
      refine wpAnyE_ready (rs := [10]) (by kernel_rfl) (by simp) ?_
      refine AllReadyE.cons rfl (fun K9 hK => ?_) AllReadyE.nil
      go_simp
      refine hK.out _ _ (HSE.out) (fun hS9 => ?_)
      try simp only [Act.put, List.setIfInBounds_toArray, List.set_cons_zero, List.set_cons_succ]
      clear hK K9 hS
      have hS := hS9
      clear hS9
      clear n0 n1 nf
      refine wpAnyE_ready (rs := [11]) (by kernel_rfl) (by simp) ?_
      refine AllReadyE.last rfl (fun K9 hK => ?_)
      go_simp
      refine hK.out _ _ ?_
      try simp only [Act.put, List.setIfInBounds_toArray, List.set_cons_zero, List.set_cons_succ]
      clear hK K9 hS
      refine wpAnyE_done (by kernel_rfl) ?_ _
      go_simp
      obtain ⟨WE, hWE⟩ : ∃ x, x = (w1.setCell ⟨y0.heap.size, 0, none⟩ (.slice a1 L.n1 c1)).setCell ⟨y0.heap.size, 1, none⟩ (.slice a2 L.n2 c2) := ⟨_, rfl⟩
      have HBE : Hid (Below w.heap.size w WE) := by rw [hWE]; exact HBW.out
      rw [← hWE]
      have l0 : WE.cell? ⟨y0.heap.size, 0, none⟩ = some (.slice a1 L.n1 c1) := by rw [hWE, setO (by omega)]; exact setS (cell_below m0 HB1.out)
      have l1 : WE.cell? ⟨y0.heap.size, 1, none⟩ = some (.slice a2 L.n2 c2) := by rw [hWE]; exact setS (by rw [setO (by omega)]; exact cell_below m1 HB1.out)
      rw [← hWE] at HSE HNF
      obtain ⟨z0, z1, z2, z3, z4, z5, z6, z7⟩ := HSE.out.1
      have zf := HNF.out
      clear hWE HWW HBW HSE
      go_wp2_with fail
      refine bodyPost_ret (v := .int .i64 2) (by simp [results, Tryz.results33, go_sem]) rfl (.inl ⟨hgt, rfl, ?_⟩)
      exact HBE.out
    · have HB1 : Hid (Below y1.heap.size y1 w1) := hb1
      have HS1 : Hid (BoxS w1 B v0 v1 v2 v3 (.slice a1 L.n1 c1) (.slice a2 L.n2 c2) v6 v7 ∧ Box8 w1 w.heap.size k t key hd old hs nw bk) := ⟨hS.1.below hb1, box8_below hS.2 hb1⟩
      have n0 := cell_below m0 hb1
      have n1 := cell_below m1 hb1
      have nf : ∀ i, w1.frozen? ⟨y0.heap.size, i, none⟩ = false := fun i => (hb1.frozen (p := ⟨y0.heap.size, i, none⟩) (by show y0.heap.size < y1.heap.size; omega)).trans (mf i)
      have HWW : Hid (Writes y0.heap.size (y0.heap.size + 1) w1 ((w1.setCell ⟨y0.heap.size, 0, none⟩ (.slice x1 L.n1 d1)).setCell ⟨y0.heap.size, 1, none⟩ (.slice x2 (L.n2 + 13) d2))) := ((Writes.refl _ _ _).setCell (p := ⟨y0.heap.size, 0, none⟩) (Nat.le_refl _) (Nat.lt_succ_self _) _).setCell (p := ⟨y0.heap.size, 1, none⟩) (Nat.le_refl _) (Nat.lt_succ_self _) _
      have HSE : Hid (BoxS ((w1.setCell ⟨y0.heap.size, 0, none⟩ (.slice x1 L.n1 d1)).setCell ⟨y0.heap.size, 1, none⟩ (.slice x2 (L.n2 + 13) d2)) B v0 v1 v2 v3 (.slice a1 L.n1 c1) (.slice a2 L.n2 c2) v6 v7 ∧ Box8 ((w1.setCell ⟨y0.heap.size, 0, none⟩ (.slice x1 L.n1 d1)).setCell ⟨y0.heap.size, 1, none⟩ (.slice x2 (L.n2 + 13) d2)) w.heap.size k t key hd old hs nw bk) := ⟨HS1.out.1.writes HWW.out (.inl (by have := HYS.out; omega)), box8_block HS1.out.2 (HWW.out.block _ (by have := HYS.out; have := hb1.size; omega) (.inl (by have := HYS.out; omega)))⟩
      have HNF : Hid (∀ i, ((w1.setCell ⟨y0.heap.size, 0, none⟩ (.slice x1 L.n1 d1)).setCell ⟨y0.heap.size, 1, none⟩ (.slice x2 (L.n2 + 13) d2)).frozen? ⟨B, i, none⟩ = false) := fun i => by
        rw [World.frozen?_setCell, World.frozen?_setCell]
        exact ((below_then HY1.out hb1).frozen (p := ⟨B, i, none⟩) (by have := HYS.out; show B < y0.heap.size; omega)).trans (HFW.out i)
      have HBW : Hid (Below w.heap.size w ((w1.setCell ⟨y0.heap.size, 0, none⟩ (.slice x1 L.n1 d1)).setCell ⟨y0.heap.size, 1, none⟩ (.slice x2 (L.n2 + 13) d2))) := HWW.out.below (below_then (below_then HBY.out HY1.out) hb1) (by have := HYS.out; omega)
      have HOG : Hid (OwnG w1 (y1.heap.size + 2) w1.heap.size x1 x2 (apR L (rb k t key hd old hs nw bk))) := two_ownG h2 (by simp [zL, rb_len]) (two_size h2 (by simp [rb_len]))
      clear h2
      refine hK.out _ _ (HS1.out) (fun hS9 => ?_)
      try simp only [Act.put, List.setIfInBounds_toArray, List.set_cons_zero, List.set_cons_succ]
      clear hK K9 hS
      have hS := hS9
      clear hS9
      clear hb1
      refine wpAnyE_takeD (L := 11) (i := 6) (v := .tuple #[.agg #[.slice x1 L.n1 d1, .slice x2 (L.n2 + 13) d2], .int .i64 0]) (some 7) rfl rfl (by kernel_rfl) (by kernel_rfl) (by kernel_rfl) (by kernel_rfl) (fun _ _ _ h => h) (Or.inl ⟨by kernel_rfl, by intro u hSu; go_simp⟩) hS ?_
      try simp only [Act.put, List.setIfInBounds_toArray, List.set_cons_zero, List.set_cons_succ]
      refine wpAnyE_takeD (L := 11) (i := 7) (v := .agg #[.slice x1 L.n1 d1, .slice x2 (L.n2 + 13) d2]) (some 14) rfl rfl (by kernel_rfl) (by kernel_rfl) (by kernel_rfl) (by kernel_rfl) (fun _ _ _ h => h) (Or.inl ⟨by kernel_rfl, by intro u hSu; go_simp⟩) hS ?_
      try simp only [Act.put, List.setIfInBounds_toArray, List.set_cons_zero, List.set_cons_succ]
      refine wpAnyE_takeD (L := 11) (i := 8) (v := .int .i64 0) (some 15) rfl rfl (by kernel_rfl) (by kernel_rfl) (by kernel_rfl) (by kernel_rfl) (fun _ _ _ h => h) (Or.inl ⟨by kernel_rfl, by intro u hSu; go_simp⟩) hS ?_
      try simp only [Act.put, List.setIfInBounds_toArray, List.set_cons_zero, List.set_cons_succ]
      refine wpAnyE_ready (rs := [10]) (by kernel_rfl) (by simp) ?_
      refine AllReadyE.cons rfl (fun K9 hK => ?_) AllReadyE.nil
      go_simp
      refine hK.out _ _ (HSE.out) (fun hS9 => ?_)
      try simp only [Act.put, List.setIfInBounds_toArray, List.set_cons_zero, List.set_cons_succ]
      clear hK K9 hS
      have hS := hS9
      clear hS9
      clear n0 n1 nf
      refine wpAnyE_ready (rs := [11]) (by kernel_rfl) (by simp) ?_
      refine AllReadyE.last rfl (fun K9 hK => ?_)
      go_simp
      refine hK.out _ _ ?_
      try simp only [Act.put, List.setIfInBounds_toArray, List.set_cons_zero, List.set_cons_succ]
      clear hK K9 hS
      refine wpAnyE_done (by kernel_rfl) ?_ _
      go_simp
      obtain ⟨WE, hWE⟩ : ∃ x, x = (w1.setCell ⟨y0.heap.size, 0, none⟩ (.slice x1 L.n1 d1)).setCell ⟨y0.heap.size, 1, none⟩ (.slice x2 (L.n2 + 13) d2) := ⟨_, rfl⟩
      have HBE : Hid (Below w.heap.size w WE) := by rw [hWE]; exact HBW.out
      have HOE : Hid (OwnG WE w.heap.size WE.heap.size x1 x2 (apR L (rb k t key hd old hs nw bk))) := by rw [hWE]; exact ((HOG.out.writes HWW.out (.inr (by omega))).wide (by have := HYS.out; omega) (by simp [World.setCell]) (Nat.le_refl _))
      rw [← hWE]
      have l0 : WE.cell? ⟨y0.heap.size, 0, none⟩ = some (.slice x1 L.n1 d1) := by rw [hWE, setO (by omega)]; exact setS (cell_below m0 HB1.out)
      have l1 : WE.cell? ⟨y0.heap.size, 1, none⟩ = some (.slice x2 (L.n2 + 13) d2) := by rw [hWE]; exact setS (by rw [setO (by omega)]; exact cell_below m1 HB1.out)
      rw [← hWE] at HSE HNF
      obtain ⟨z0, z1, z2, z3, z4, z5, z6, z7⟩ := HSE.out.1
      have zf := HNF.out
      clear hWE HWW HBW HSE
      go_wp2_with fail
      refine bodyPost_ret (v := .int .i64 0) (by simp [results, Tryz.results33, go_sem]) rfl (.inr ⟨hle, rfl, WE, x1, d1, x2, d2, HBE.out, HOE.out, rfl⟩)
end Go.Proofs.YtannmobmmnoegaaGreat
