/- New copies: the walk of impl.NewCopies. -/
import Derived.Test.YtenglcgkachomaaNkb
namespace Go.Proofs.Ytenglcgkachomaa
open Go.ChangeShapes Go.WideShapes Go.ChangeAt Go.RowKit Go.Deep Go.Joins
set_option linter.unusedVariables false
set_option maxRecDepth 20000

/-- New copies under way, ahead of their numbers. -/
structure Nj (w wr : World) (B l1 h1 : Nat) (a0 : Option Addr) (c0 n : Nat) (K V : Nat → Int) (nx ck : Int) : Prop where
  below : Below w.heap.size w wr
  b : Box5 wr B (.int .i64 nx) (.int .i64 ck) (.slice a0 n c0) (.slice none 0 0) (.slice none 0 0)
  bf : ∀ i, wr.frozen? ⟨B, i, none⟩ = false
  own : Own wr l1 h1 a0 n K V
  hB : w.heap.size ≤ B
  hl : w.heap.size ≤ l1
  nB : B < l1 ∨ h1 ≤ B
theorem Nj.made {w u : World} {B l1 h1 : Nat} {a0 : Option Addr} {c0 n : Nat} {K V : Nat → Int} {z0 z1 z2 z3 z4 : Value} (nx ck : Int) (hbel : Below w.heap.size w u) (hbx : Box5 u B z0 z1 z2 z3 z4) (hbf : ∀ i, u.frozen? ⟨B, i, none⟩ = false) (hown : Own u l1 h1 a0 n K V) (hB : w.heap.size ≤ B) (hl : w.heap.size ≤ l1) (nB : B < l1 ∨ h1 ≤ B) :
    Nj w (((((u.setCell ⟨B, 0, none⟩ (.int .i64 nx)).setCell ⟨B, 1, none⟩ (.int .i64 ck)).setCell ⟨B, 2, none⟩ (.slice a0 n c0)).setCell ⟨B, 3, none⟩ (.slice none 0 0)).setCell ⟨B, 4, none⟩ (.slice none 0 0)) B l1 h1 a0 c0 n K V nx ck := by
  have hw : Writes B (B + 1) u (((((u.setCell ⟨B, 0, none⟩ (.int .i64 nx)).setCell ⟨B, 1, none⟩ (.int .i64 ck)).setCell ⟨B, 2, none⟩ (.slice a0 n c0)).setCell ⟨B, 3, none⟩ (.slice none 0 0)).setCell ⟨B, 4, none⟩ (.slice none 0 0)) := by
    repeat (first | with_reducible exact Writes.refl _ _ _ | with_reducible refine Writes.setCell ?_ (by simp) (by simp) _)
  obtain ⟨q0, q1, q2, q3, q4⟩ := hbx
  refine ⟨hw.below hbel hB, ⟨?_, ?_, ?_, ?_, ?_⟩, fun i => by simp only [World.frozen?_setCell]; exact hbf i, hown.writes hw (by omega), hB, hl, nB⟩
  · rw [setO (by omega), setO (by omega), setO (by omega), setO (by omega)]; exact setS q0
  · rw [setO (by omega), setO (by omega), setO (by omega)]; exact setS (by rw [setO (by omega)]; exact q1)
  · rw [setO (by omega), setO (by omega)]; exact setS (by rw [setO (by omega), setO (by omega)]; exact q2)
  · rw [setO (by omega)]; exact setS (by rw [setO (by omega), setO (by omega), setO (by omega)]; exact q3)
  · exact setS (by rw [setO (by omega), setO (by omega), setO (by omega), setO (by omega)]; exact q4)
/-- .. and with them. -/
theorem Nj.numbers {w wr : World} {B l1 h1 : Nat} {a0 : Option Addr} {c0 n : Nat} {K V : Nat → Int} {nx ck : Int} (h : Nj w wr B l1 h1 a0 c0 n K V nx ck) :
    Nk w.heap.size w ((wr.alloc (.cells (madeCells #[.int .i64 0] 32) 2)).setCell ⟨B, 3, none⟩ (.slice (some ⟨wr.heap.size, 0, none⟩) 32 32)) B wr.heap.size l1 h1 a0 c0 n K V (fun _ => 0) nx ck := by
  have hbn := below_new wr (.cells (madeCells #[.int .i64 0] 32) 2)
  have hrow := World.rowIs_made wr (.int .i64 0) 32 2
  have hlt : B < wr.heap.size := Go.block_lt_of_cell h.b.1
  have hsz := h.below.size
  have hne : B ≠ wr.heap.size := by omega
  obtain ⟨q0, q1, q2, q3, q4⟩ := h.b.below hbn
  have ho1 := h.own.1
  refine ⟨(below_then h.below hbn).setCell (p := ⟨B, 3, none⟩) h.hB _, ⟨(setO (by omega)).trans q0, (setO (by omega)).trans q1, (setO (by omega)).trans q2, setS q3, (setO (by omega)).trans q4⟩, fun i => ?_, fun i hi => ?_, fun i => ?_, (h.own.below hbn).writes (lo' := B) (hi' := B + 1) ((Writes.refl _ _ _).setCell (p := ⟨B, 3, none⟩) (Nat.le_refl _) (Nat.lt_succ_self _) _) (by have := h.nB; omega), h.hB, hsz, h.hl, hne, h.nB, .inr ho1, Nat.le_refl _⟩
  · rw [World.frozen?_setCell]
    exact (hbn.frozen (p := ⟨B, i, none⟩) hlt).trans (h.bf i)
  · rw [farc hne]
    exact hrow.cell (i := i) hi
  · rw [World.frozen?_setCell]
    exact hrow.frozen i
set_option maxHeartbeats 8000000 in
theorem implNc_any (n : Nat) (K V : Nat → Int) (a : Option Addr) (cap : Nat) (w : World) (h : CellsAt w a n K V) :
    Calls Try.prog 26 #[.slice a n cap] w (NRes9 (neC n K V) (ncR n K V) w) := by
  have HA : Hid (CellsAt w a n K V) := h
  clear h
  have HR : Hid (ncR n K V = if neC n K V = 0 then ncT n K V else zCs0) := rfl
  generalize ncR n K V = R at *
  have hmk : ∀ u, (Instr.makeSlice 42 (.int .i64 32) (.int .i64 32)).run Try.prog u = .ok (.slice (some ⟨u.heap.size, 0, none⟩) 32 32) (u.alloc (.cells (madeCells #[.int .i64 0] 32) 2)) := fun u => run_make_row' (P := Try.prog) 42 2 (.int .i64 0) 8 Try.underlying42 info2 rfl .i64 .i64 32 (by omega) (by omega) u
  go_enter Try.func26, Try.ntmps26
  go_wp2_with fail
  refine (implNe_any n K V a cap _ (HA.out.below (below_new _ _))).mono ?_
  rintro e w1 ⟨ea, ec, ea', ec', rfl, hb1, -⟩
  obtain ⟨hc, hf⟩ := bcell hb1
  have hz : w.heap.size < w1.heap.size := by have := hb1.size; simp at this; omega
  have s0 : w1.cell? ⟨w.heap.size, 0, none⟩ = some (.int .i64 0) := by rw [hc _ _ (by simp)]; simp [go_sem]
  have s1 : w1.cell? ⟨w.heap.size, 1, none⟩ = some (.int .i64 0) := by rw [hc _ _ (by simp)]; simp [go_sem]
  have s2 : w1.cell? ⟨w.heap.size, 2, none⟩ = some (.slice none 0 0) := by rw [hc _ _ (by simp)]; simp [go_sem]
  have s3 : w1.cell? ⟨w.heap.size, 3, none⟩ = some (.int .i64 0) := by rw [hc _ _ (by simp)]; simp [go_sem]
  have s4 : w1.cell? ⟨w.heap.size, 4, none⟩ = some (.int .i64 0) := by rw [hc _ _ (by simp)]; simp [go_sem]
  have s5 : w1.cell? ⟨w.heap.size, 5, none⟩ = some (.slice none 0 0) := by rw [hc _ _ (by simp)]; simp [go_sem]
  have s6 : w1.cell? ⟨w.heap.size, 6, none⟩ = some (.slice none 0 0) := by rw [hc _ _ (by simp)]; simp [go_sem]
  have s7 : w1.cell? ⟨w.heap.size, 7, none⟩ = some (.slice none 0 0) := by rw [hc _ _ (by simp)]; simp [go_sem]
  have sf : ∀ i, w1.frozen? ⟨w.heap.size, i, none⟩ = false := fun i => by rw [hf _ _ (by simp)]; simp [go_sem]
  have HB1 : Hid (Below w.heap.size w w1) := below_then (below_new _ _) hb1
  clear hc hf hb1
  by_cases hN : neC n K V = 0
  case neg =>
    have HR2 : Hid (R = zCs0) := HR.out.trans (if_neg hN)
    have hd : (neC n K V != 0) = true := by simpa using hN
    clear HR
    generalize neC n K V = c at *
    generalize neR n K V = EE at *
    clear hN
    go_upto_region 2 with fail
    obtain ⟨W, hW⟩ : ∃ x, x = w1.alloc (.cells #[.int .i64 c, .int .i64 0, .int .i64 EE.nx, .int .i64 EE.ck, .slice ea EE.p ec, .slice ea' EE.q ec'] 94) := ⟨_, rfl⟩
    have hBW : Below w1.heap.size w1 W := by rw [hW]; exact below_new _ _
    have r0 : W.cell? ⟨w1.heap.size, 0, none⟩ = some (.int .i64 c) := by rw [hW]; simp [go_sem]
    rw [← hW]
    clear hW
    have HB2 : Hid (Below w.heap.size w W) := below_then HB1.out hBW
    replace s0 := cell_below s0 hBW
    replace s1 := cell_below s1 hBW
    replace s2 := cell_below s2 hBW
    replace s3 := cell_below s3 hBW
    replace s4 := cell_below s4 hBW
    replace s5 := cell_below s5 hBW
    replace s6 := cell_below s6 hBW
    replace s7 := cell_below s7 hBW
    replace sf : ∀ i, W.frozen? ⟨w.heap.size, i, none⟩ = false := fun i => (hBW.frozen (p := ⟨w.heap.size, i, none⟩) hz).trans (sf i)
    clear hBW
    go_wp2_with fail
    rw [HR2.out]
    refine bodyPost_ret (v := .agg #[.int .i64 c, .int .i64 0, .slice none 0 0, .int .i64 0, .int .i64 0, .slice none 0 0, .slice none 0 0, .slice none 0 0]) (by simp [results, Try.results26, go_sem, *]) rfl (nres_bad ?_)
    repeat (first | with_reducible exact HB2.out | with_reducible refine Below.setCell ?_ (by first | omega | (simp <;> omega)) _)
  have HR2 : Hid (R = ncT n K V) := HR.out.trans (if_pos hN)
  obtain ⟨hn20, hkeys⟩ := nc_good hN
  have HK : Hid (∀ i, i < n → ∃ j : Nat, j < 32 ∧ K i = (j : Int)) := hkeys
  have HNC : Hid (neC n K V = 0) := hN
  have hEE : neR n K V = neE n K V := if_pos hN
  rw [hN, hEE]
  clear hN HR hkeys hEE
  obtain ⟨ck, hck⟩ : ∃ ck : Int, (if n = 0 then (0 : Int) else 1) = ck := ⟨_, rfl⟩
  have HCK : Hid ((if n = 0 then (0 : Int) else 1) = ck) := hck
  have e0 : (neE n K V).nx = 2 := rfl
  have e1 : (neE n K V).ck = ck := hck
  rw [e0, e1]
  generalize (neE n K V).p = ep at *
  generalize (neE n K V).q = eq at *
  clear e0 e1 hck
  go_upto_region 4 with fail
  obtain ⟨W, hW⟩ : ∃ x, x = w1.alloc (.cells #[.int .i64 0, .int .i64 0, .int .i64 2, .int .i64 ck, .slice ea ep ec, .slice ea' eq ec'] 94) := ⟨_, rfl⟩
  have hBW : Below w1.heap.size w1 W := by rw [hW]; exact below_new _ _
  have r2 : W.cell? ⟨w1.heap.size, 2, none⟩ = some (.int .i64 2) := by rw [hW]; simp [go_sem]
  have r3 : W.cell? ⟨w1.heap.size, 3, none⟩ = some (.int .i64 ck) := by rw [hW]; simp [go_sem]
  rw [← hW]
  clear hW
  have HBW : Hid (Below w.heap.size w W) := below_then HB1.out hBW
  have hzW : w.heap.size < W.heap.size := by have := hBW.size; omega
  replace s0 := cell_below s0 hBW
  replace s1 := cell_below s1 hBW
  replace s2 := cell_below s2 hBW
  replace s3 := cell_below s3 hBW
  replace s4 := cell_below s4 hBW
  replace s5 := cell_below s5 hBW
  replace s6 := cell_below s6 hBW
  replace s7 := cell_below s7 hBW
  replace sf : ∀ i, W.frozen? ⟨w.heap.size, i, none⟩ = false := fun i => (hBW.frozen (p := ⟨w.heap.size, i, none⟩) hz).trans (sf i)
  clear hBW hz HB1
  have HCW : Hid (CellsAt W a n K V) := HA.out.below HBW.out
  go_cut [4] (fun v wx => ∃ B l1 h1 a0 c0, v = .pointer (some ⟨B, 0, none⟩) ∧ Nj W wx B l1 h1 a0 c0 n K V 2 ck)
  case first =>
    clear s0 s1 s2 s3 s4 s5 s6 s7 sf
    refine wp_region_E 11 (S := fun u => Below W.heap.size W u) (by kernel_rfl) ((Below.refl _ _).drew) (fun hS => ?_)
    obtain ⟨W0, hW0⟩ : ∃ x, x = W.drew := ⟨_, rfl⟩
    have hB : Below W.heap.size W W0 := by rw [hW0]; exact (Below.refl _ _).drew
    rw [← hW0] at hS ⊢
    clear hW0
    refine wpAnyE_takeD (i := 0) (v := .pointer (some ⟨w1.heap.size, 2, none⟩)) (some 15) rfl rfl (by kernel_rfl) (by kernel_rfl) (by kernel_rfl) (by kernel_rfl) (fun _ _ _ h => h) (Or.inl ⟨by kernel_rfl, by intro u hSu; go_simp⟩) hS ?_
    try simp only [Act.put, List.setIfInBounds_toArray, List.set_cons_zero, List.set_cons_succ]
    refine wpAnyE_takeD (i := 1) (v := .pointer (some ⟨w1.heap.size, 2, none⟩)) (some 16) rfl rfl (by kernel_rfl) (by kernel_rfl) (by kernel_rfl) (by kernel_rfl) (fun _ _ _ h => h) (Or.inl ⟨by kernel_rfl, by intro u hSu; go_simp⟩) hS ?_
    try simp only [Act.put, List.setIfInBounds_toArray, List.set_cons_zero, List.set_cons_succ]
    refine wpAnyE_takeD (i := 2) (v := .int .i64 2) (some 17) rfl rfl (by kernel_rfl) (by kernel_rfl) (by kernel_rfl) (by kernel_rfl) (fun _ _ _ h => h) (Or.inl ⟨by kernel_rfl, by intro u hSu; have g2 := cell_below r2 hSu; go_simp⟩) hS ?_
    try simp only [Act.put, List.setIfInBounds_toArray, List.set_cons_zero, List.set_cons_succ]
    refine wpAnyE_takeD (i := 3) (v := .pointer (some ⟨w1.heap.size, 2, none⟩)) (some 18) rfl rfl (by kernel_rfl) (by kernel_rfl) (by kernel_rfl) (by kernel_rfl) (fun _ _ _ h => h) (Or.inl ⟨by kernel_rfl, by intro u hSu; go_simp⟩) hS ?_
    try simp only [Act.put, List.setIfInBounds_toArray, List.set_cons_zero, List.set_cons_succ]
    refine wpAnyE_takeD (i := 4) (v := .pointer (some ⟨w1.heap.size, 3, none⟩)) (some 19) rfl rfl (by kernel_rfl) (by kernel_rfl) (by kernel_rfl) (by kernel_rfl) (fun _ _ _ h => h) (Or.inl ⟨by kernel_rfl, by intro u hSu; go_simp⟩) hS ?_
    try simp only [Act.put, List.setIfInBounds_toArray, List.set_cons_zero, List.set_cons_succ]
    refine wpAnyE_takeD (i := 5) (v := .int .i64 ck) (some 20) rfl rfl (by kernel_rfl) (by kernel_rfl) (by kernel_rfl) (by kernel_rfl) (fun _ _ _ h => h) (Or.inl ⟨by kernel_rfl, by intro u hSu; have g3 := cell_below r3 hSu; go_simp⟩) hS ?_
    try simp only [Act.put, List.setIfInBounds_toArray, List.set_cons_zero, List.set_cons_succ]
    refine wpAnyE_takeD (i := 6) (v := .slice a n cap) (some 21) rfl rfl (by kernel_rfl) (by kernel_rfl) (by kernel_rfl) (by kernel_rfl) (fun _ _ _ h => h) (Or.inl ⟨by kernel_rfl, by intro u hSu; go_simp⟩) hS ?_
    try simp only [Act.put, List.setIfInBounds_toArray, List.set_cons_zero, List.set_cons_succ]
    refine wpAnyE_ready (rs := [7, 10]) (by kernel_rfl) (by simp) ?_
    refine AllReadyE.cons rfl (fun Kq hK => ?_) (AllReadyE.cons rfl (fun Kq hK => ?_) AllReadyE.nil)
    · refine step_bsCS _ (some 22) rfl rfl _ rfl a n cap rfl (fun X w2 hX hbw2 => ?_)
      have hB9 := below_then hB hbw2
      have hzw2 := hbw2.size
      clear hB
      have hB := hB9
      clear hB9
      refine hK.out _ _ hB (fun hS9 => ?_)
      try simp only [Act.put, List.setIfInBounds_toArray, List.set_cons_zero, List.set_cons_succ]
      clear hK Kq hS
      have hS := hS9
      clear hS9
      refine wpAnyE_ready (rs := [8, 10]) (by kernel_rfl) (by simp) ?_
      refine AllReadyE.cons rfl (fun Kq hK => ?_) (AllReadyE.cons rfl (fun Kq hK => ?_) AllReadyE.nil)
      · have hzA := hB.size
        go_simp
        refine (joined1C_any n K V a cap X _ (by omega) hX (HCW.out.below hB)).mono ?_
        rintro e w3 ⟨v, rfl, hbw3, hN⟩
        obtain ⟨a0, c0, rfl, hnc, hOw⟩ := hN
        have hzA2 := hOw.1
        have hB9 := below_then hB hbw3
        have hzw3 := hbw3.size
        replace hX := cell_below hX hbw3
        clear hB
        have hB := hB9
        clear hB9
        refine hK.out _ _ hB (fun hS9 => ?_)
        try simp only [Act.put, List.setIfInBounds_toArray, List.set_cons_zero, List.set_cons_succ]
        clear hK Kq hS
        have hS := hS9
        clear hS9
        refine wpAnyE_takeD (i := 9) (v := .agg #[.int .i64 2, .int .i64 ck, .slice a0 n c0, .slice none 0 0, .slice none 0 0]) (some 24) rfl rfl (by kernel_rfl) (by kernel_rfl) (by kernel_rfl) (by kernel_rfl) (fun _ _ _ h => h) (Or.inl ⟨by kernel_rfl, by intro u hSu; go_simp⟩) hS ?_
        try simp only [Act.put, List.setIfInBounds_toArray, List.set_cons_zero, List.set_cons_succ]
        refine wpAnyE_ready (rs := [10]) (by kernel_rfl) (by simp) ?_
        refine AllReadyE.cons rfl (fun Kq hK => ?_) AllReadyE.nil
        have hzL := hB.size
        refine step_al5 _ (some 4) rfl rfl rfl (fun B w4 hBl hBx hBf hbw4 => ?_)
        have hBt : B < w4.heap.size := Go.block_lt_of_cell hBx.1
        have hB9 := below_then hB hbw4
        have hzw4 := hbw4.size
        replace hX := cell_below hX hbw4
        replace hOw := hOw.below hbw4
        clear hB
        have hB := hB9
        clear hB9
        refine hK.out _ _ hB (fun hS9 => ?_)
        try simp only [Act.put, List.setIfInBounds_toArray, List.set_cons_zero, List.set_cons_succ]
        clear hK Kq hS
        have hS := hS9
        clear hS9
        refine wpAnyE_ready (rs := [11]) (by kernel_rfl) (by simp) ?_
        refine AllReadyE.last rfl (fun Kq hK => ?_)
        obtain ⟨y0, y1, y2, y3, y4⟩ := hBx
        go_simp
        refine hK.out _ _ ?_
        clear hK Kq hS
        refine wpAnyE_done (by kernel_rfl) ?_ _
        go_simp
        have hNj := Nj.made (w := W) 2 ck hB (z0 := .int .i64 0) (z1 := .int .i64 0) (z2 := .slice none 0 0) (z3 := .slice none 0 0) (z4 := .slice none 0 0) ⟨y0, y1, y2, y3, y4⟩ hBf hOw (c0 := c0) (by omega) (by omega) (by omega)
        clear y0 y1 y2 y3 y4
        go_wp2_with fail
        go_meet
        exact ⟨B, _, _, a0, c0, rfl, hNj⟩
      · have hzL := hB.size
        refine step_al5 _ (some 4) rfl rfl rfl (fun B w3 hBl hBx hBf hbw3 => ?_)
        have hBt : B < w3.heap.size := Go.block_lt_of_cell hBx.1
        have hB9 := below_then hB hbw3
        have hzw3 := hbw3.size
        replace hX := cell_below hX hbw3
        clear hB
        have hB := hB9
        clear hB9
        refine hK.out _ _ hB (fun hS9 => ?_)
        try simp only [Act.put, List.setIfInBounds_toArray, List.set_cons_zero, List.set_cons_succ]
        clear hK Kq hS
        have hS := hS9
        clear hS9
        refine wpAnyE_ready (rs := [8]) (by kernel_rfl) (by simp) ?_
        refine AllReadyE.cons rfl (fun Kq hK => ?_) AllReadyE.nil
        have hzA := hB.size
        go_simp
        refine (joined1C_any n K V a cap X _ (by omega) hX (HCW.out.below hB)).mono ?_
        rintro e w4 ⟨v, rfl, hbw4, hN⟩
        obtain ⟨a0, c0, rfl, hnc, hOw⟩ := hN
        have hzA2 := hOw.1
        have hB9 := below_then hB hbw4
        have hzw4 := hbw4.size
        replace hX := cell_below hX hbw4
        replace hBf : ∀ i, w4.frozen? ⟨B, i, none⟩ = false := fun i => (hbw4.frozen (p := ⟨B, i, none⟩) (by have := Go.block_lt_of_cell hBx.1; exact this)).trans (hBf i)
        replace hBx := hBx.below hbw4
        clear hB
        have hB := hB9
        clear hB9
        refine hK.out _ _ hB (fun hS9 => ?_)
        try simp only [Act.put, List.setIfInBounds_toArray, List.set_cons_zero, List.set_cons_succ]
        clear hK Kq hS
        have hS := hS9
        clear hS9
        refine wpAnyE_takeD (i := 9) (v := .agg #[.int .i64 2, .int .i64 ck, .slice a0 n c0, .slice none 0 0, .slice none 0 0]) (some 24) rfl rfl (by kernel_rfl) (by kernel_rfl) (by kernel_rfl) (by kernel_rfl) (fun _ _ _ h => h) (Or.inl ⟨by kernel_rfl, by intro u hSu; go_simp⟩) hS ?_
        try simp only [Act.put, List.setIfInBounds_toArray, List.set_cons_zero, List.set_cons_succ]
        refine wpAnyE_ready (rs := [11]) (by kernel_rfl) (by simp) ?_
        refine AllReadyE.last rfl (fun Kq hK => ?_)
        obtain ⟨y0, y1, y2, y3, y4⟩ := hBx
        go_simp
        refine hK.out _ _ ?_
        clear hK Kq hS
        refine wpAnyE_done (by kernel_rfl) ?_ _
        go_simp
        have hNj := Nj.made (w := W) 2 ck hB (z0 := .int .i64 0) (z1 := .int .i64 0) (z2 := .slice none 0 0) (z3 := .slice none 0 0) (z4 := .slice none 0 0) ⟨y0, y1, y2, y3, y4⟩ hBf hOw (c0 := c0) (by omega) (by omega) (by omega)
        clear y0 y1 y2 y3 y4
        go_wp2_with fail
        go_meet
        exact ⟨B, _, _, a0, c0, rfl, hNj⟩
    · have hzL := hB.size
      refine step_al5 _ (some 4) rfl rfl rfl (fun B w2 hBl hBx hBf hbw2 => ?_)
      have hBt : B < w2.heap.size := Go.block_lt_of_cell hBx.1
      have hB9 := below_then hB hbw2
      have hzw2 := hbw2.size
      clear hB
      have hB := hB9
      clear hB9
      refine hK.out _ _ hB (fun hS9 => ?_)
      try simp only [Act.put, List.setIfInBounds_toArray, List.set_cons_zero, List.set_cons_succ]
      clear hK Kq hS
      have hS := hS9
      clear hS9
      refine wpAnyE_ready (rs := [7]) (by kernel_rfl) (by simp) ?_
      refine AllReadyE.cons rfl (fun Kq hK => ?_) AllReadyE.nil
      refine step_bsCS _ (some 22) rfl rfl _ rfl a n cap rfl (fun X w3 hX hbw3 => ?_)
      have hB9 := below_then hB hbw3
      have hzw3 := hbw3.size
      replace hBf : ∀ i, w3.frozen? ⟨B, i, none⟩ = false := fun i => (hbw3.frozen (p := ⟨B, i, none⟩) (by have := Go.block_lt_of_cell hBx.1; exact this)).trans (hBf i)
      replace hBx := hBx.below hbw3
      clear hB
      have hB := hB9
      clear hB9
      refine hK.out _ _ hB (fun hS9 => ?_)
      try simp only [Act.put, List.setIfInBounds_toArray, List.set_cons_zero, List.set_cons_succ]
      clear hK Kq hS
      have hS := hS9
      clear hS9
      refine wpAnyE_ready (rs := [8]) (by kernel_rfl) (by simp) ?_
      refine AllReadyE.cons rfl (fun Kq hK => ?_) AllReadyE.nil
      have hzA := hB.size
      go_simp
      refine (joined1C_any n K V a cap X _ (by omega) hX (HCW.out.below hB)).mono ?_
      rintro e w4 ⟨v, rfl, hbw4, hN⟩
      obtain ⟨a0, c0, rfl, hnc, hOw⟩ := hN
      have hzA2 := hOw.1
      have hB9 := below_then hB hbw4
      have hzw4 := hbw4.size
      replace hBf : ∀ i, w4.frozen? ⟨B, i, none⟩ = false := fun i => (hbw4.frozen (p := ⟨B, i, none⟩) (by have := Go.block_lt_of_cell hBx.1; exact this)).trans (hBf i)
      replace hBx := hBx.below hbw4
      replace hX := cell_below hX hbw4
      clear hB
      have hB := hB9
      clear hB9
      refine hK.out _ _ hB (fun hS9 => ?_)
      try simp only [Act.put, List.setIfInBounds_toArray, List.set_cons_zero, List.set_cons_succ]
      clear hK Kq hS
      have hS := hS9
      clear hS9
      refine wpAnyE_takeD (i := 9) (v := .agg #[.int .i64 2, .int .i64 ck, .slice a0 n c0, .slice none 0 0, .slice none 0 0]) (some 24) rfl rfl (by kernel_rfl) (by kernel_rfl) (by kernel_rfl) (by kernel_rfl) (fun _ _ _ h => h) (Or.inl ⟨by kernel_rfl, by intro u hSu; go_simp⟩) hS ?_
      try simp only [Act.put, List.setIfInBounds_toArray, List.set_cons_zero, List.set_cons_succ]
      refine wpAnyE_ready (rs := [11]) (by kernel_rfl) (by simp) ?_
      refine AllReadyE.last rfl (fun Kq hK => ?_)
      obtain ⟨y0, y1, y2, y3, y4⟩ := hBx
      go_simp
      refine hK.out _ _ ?_
      clear hK Kq hS
      refine wpAnyE_done (by kernel_rfl) ?_ _
      go_simp
      have hNj := Nj.made (w := W) 2 ck hB (z0 := .int .i64 0) (z1 := .int .i64 0) (z2 := .slice none 0 0) (z3 := .slice none 0 0) (z4 := .slice none 0 0) ⟨y0, y1, y2, y3, y4⟩ hBf hOw (c0 := c0) (by omega) (by omega) (by omega)
      clear y0 y1 y2 y3 y4
      go_wp2_with fail
      go_meet
      exact ⟨B, _, _, a0, c0, rfl, hNj⟩
  case rest =>
  obtain ⟨B, l1, h1, a0, c0, rfl, hNj⟩ := hcut
  have hBl : B < wc.heap.size := Go.block_lt_of_cell hNj.b.1
  have HN0 : Hid (Nk W.heap.size W ((wc.setCell ⟨B, 3, none⟩ (.slice (some ⟨wc.heap.size, 0, none⟩) 32 32)).alloc (.cells (madeCells #[.int .i64 0] 32) 2)) B wc.heap.size l1 h1 a0 c0 n K V (lsF K 0) 2 ck) := by
    have h := hNj.numbers
    rw [World.setCell_alloc_past _ _ _ _ hBl] at h
    exact h
  have hBne : ¬ B = wc.heap.size := by omega
  have hBne2 : ¬ wc.heap.size = B := by omega
  obtain ⟨y0, y1, y2, y3, y4⟩ := hNj.b
  have yf := hNj.bf
  clear hNj r2 r3
  go_wp2_with fail
  clear hmk y0 y1 y2 y3 y4 yf
  go_loopw [6, 29] (fun _ i wr => ∃ k : Nat, k ≤ n ∧ i = .int .i64 k ∧ Hid (Nk W.heap.size W wr B wc.heap.size l1 h1 a0 c0 n K V (lsF K k) 2 ck)) (fun _ i _ => n - (intOf i).toNat)
  case atStart => exact ⟨0, Nat.zero_le _, rfl, HN0⟩
  case round =>
    obtain ⟨k, hk, rfl, HN⟩ := hrel
    by_cases hlt : k < n
    · have hlt' : (k : Int) < (n : Int) := by omega
      have hk0 : (0 : Int) ≤ (k : Int) := by omega
      have hck1 : ck = 1 := by have := HCK.out; rw [if_neg (by omega)] at this; exact this.symm
      rcases HCW.out.below HN.out.below with h | ⟨b, off, rfl, hl, hkc, hvc⟩
      · omega
      have q0 := hkc k hlt
      have q1 := hvc k hlt
      obtain ⟨j, hj, ej⟩ := HK.out k hlt
      rw [ej] at q0
      generalize V k = vk at *
      obtain ⟨y0, y1, y2, y3, y4⟩ := HN.out.b
      have hlj := HN.out.l j hj
      have hlf := HN.out.lf wc.heap.size
      have hj1 : (j : Int) < 32 := by omega
      have hj0 : (0 : Int) ≤ (j : Int) := by omega
      have hwl : wc.heap.size < wr.heap.size := Go.block_lt_of_cell hlj
      have hBr : B < wr.heap.size := Go.block_lt_of_cell y0
      have hne1 : ¬ wc.heap.size = wr.heap.size := by omega
      have hne2 : ¬ B = wr.heap.size := by omega
      have HN2 : Hid (Nk W.heap.size W ((wr.setCell ⟨wc.heap.size, j, none⟩ (.int .i64 ck)).alloc (.cells #[.int .i64 (j : Int), .int .i64 vk] 67)) B wc.heap.size l1 h1 a0 c0 n K V (lsF K (k + 1)) 2 ck) := by
        have e1 : lsF K (k + 1) = upf9 (lsF K k) j ck := by show upf9 (lsF K k) (K k).toNat 1 = _; rw [ej, hck1]; rfl
        rw [e1]
        exact (HN.out.last hj ck).mono (below_new _ _)
      clear hck1
      have z3 := fun o : Obj => cell_alloc y3 o
      have z1 := fun o : Obj => cell_alloc y1 o
      have zl := fun o : Obj => cell_alloc hlj o
      have hfz : ∀ (o : Obj) i, (wr.alloc o).frozen? ⟨wc.heap.size, i, none⟩ = false := fun o i => ((below_new wr o).frozen (p := ⟨wc.heap.size, i, none⟩) hwl).trans (HN.out.lf i)
      generalize lsF K k j = old at *
      clear hkc hvc hlf
      go_wp2_with fail
      go_roundw
      case rel => exact ⟨k + 1, hlt, by go_num, HN2⟩
      case measure => simp [intOf]; omega
    · have hkn : k = n := by omega
      subst hkn
      obtain ⟨y0, y1, y2, y3, y4⟩ := HN.out.b
      have hnl : ¬ ((k : Int) < (k : Int)) := by omega
      have hbw := HN.out.below
      replace s0 := cell_below s0 hbw
      replace s1 := cell_below s1 hbw
      replace s2 := cell_below s2 hbw
      replace s3 := cell_below s3 hbw
      replace s4 := cell_below s4 hbw
      replace s5 := cell_below s5 hbw
      replace s6 := cell_below s6 hbw
      replace s7 := cell_below s7 hbw
      replace sf : ∀ i, wr.frozen? ⟨w.heap.size, i, none⟩ = false := fun i => (hbw.frozen (p := ⟨w.heap.size, i, none⟩) hzW).trans (sf i)
      clear hbw
      have HFIN : Hid (∀ w7, Writes w.heap.size (w.heap.size + 1) wr w7 → w7.heap.size = wr.heap.size → NRes9 0 (ncT k K V) w (.returned (.agg #[.int .i64 0, .int .i64 0, .slice none 0 0, .int .i64 2, .int .i64 ck, .slice a0 k c0, .slice (some ⟨wc.heap.size, 0, none⟩) 32 32, .slice none 0 0])) w7) := fun w7 h e => Nk.fin HN.out HCK.out.symm HBW.out hzW h e
      go_wp2_with fail
      rw [HR2.out, HNC.out]
      refine bodyPost_ret (v := .agg #[.int .i64 0, .int .i64 0, .slice none 0 0, .int .i64 2, .int .i64 ck, .slice a0 k c0, .slice (some ⟨wc.heap.size, 0, none⟩) 32 32, .slice none 0 0]) (by simp [results, Try.results26, go_sem, s0, s1, s2, s3, s4, s5, s6, s7]) rfl ?_
      refine HFIN.out _ ?_ (by simp [World.setCell])
      repeat (first | with_reducible exact Writes.refl _ _ _ | with_reducible refine Writes.setCell ?_ (by first | omega | (simp <;> omega)) (by first | omega | (simp <;> omega)) _)
end Go.Proofs.Ytenglcgkachomaa
