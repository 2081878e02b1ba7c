/- New copies: answers; the walk of spec.NewCopies. -/
import Derived.Test.YtenglcgkachomaaNka
namespace Go.Proofs.Ytenglcgkachomaa
open Go.ChangeShapes Go.WideShapes Go.ChangeAt Go.RowKit Go.Deep Go.Joins
set_option linter.unusedVariables false
set_option maxRecDepth 20000

def zCs0 : Cs := ⟨0, 0, 0, fun _ => 0, fun _ => 0, 0, fun _ => 0, 0, fun _ => zCd⟩
def ncT (n : Nat) (K V : Nat → Int) : Cs := ⟨2, if n = 0 then 0 else 1, n, K, V, 32, lsF K n, 0, fun _ => zCd⟩
def ncR (n : Nat) (K V : Nat → Int) : Cs := if neC n K V = 0 then ncT n K V else zCs0
/-- The cells and the numbers of copies without transactions, in blocks of their own. -/
def OwnNk (w : World) (lo hi : Nat) (a0 a1 : Option Addr) (t : Cs) : Prop :=
  hi ≤ w.heap.size ∧ t.tn = 0 ∧ ∃ l1 h1 l2 h2, lo ≤ l1 ∧ lo ≤ l2 ∧ h1 ≤ hi ∧ h2 ≤ hi ∧ (h1 ≤ l2 ∨ h2 ≤ l1) ∧ Own w l1 h1 a0 t.wn t.wK t.wV ∧ OwnI w l2 h2 a1 t.ln t.lF
theorem OwnNk.writes {w w' : World} {lo hi lo' hi' : Nat} {a0 a1 : Option Addr} {t : Cs} (h : OwnNk w lo hi a0 a1 t) (hw : Writes lo' hi' w w') (hd : hi ≤ lo' ∨ hi' ≤ lo) : OwnNk w' lo hi a0 a1 t := by
  obtain ⟨h0, ht, l1, h1, l2, h2, k1, k2, k3, k4, k5, k6, k7⟩ := h
  exact ⟨Nat.le_trans h0 hw.size, ht, l1, h1, l2, h2, k1, k2, k3, k4, k5, k6.writes hw (by omega), k7.writes hw (by omega)⟩
theorem OwnNk.below {w w' : World} {lo hi : Nat} {a0 a1 : Option Addr} {t : Cs} (h : OwnNk w lo hi a0 a1 t) (hb : Below w.heap.size w w') : OwnNk w' lo hi a0 a1 t :=
  h.writes (Writes.of_below (lo := hi) (hi := hi) hb) (.inl (Nat.le_refl _))
theorem OwnNk.wide {w : World} {lo hi lo' hi' : Nat} {a0 a1 : Option Addr} {t : Cs} (h : OwnNk w lo hi a0 a1 t) (h1 : lo' ≤ lo) (h2 : hi ≤ hi') (h3 : hi' ≤ w.heap.size) : OwnNk w lo' hi' a0 a1 t := by
  obtain ⟨h0, ht, l1, h1, l2, h2, k1, k2, k3, k4, k5⟩ := h
  exact ⟨h3, ht, l1, h1, l2, h2, by omega, by omega, by omega, by omega, k5⟩
theorem OwnNk.at {w : World} {lo hi : Nat} {a0 a1 : Option Addr} {t : Cs} (h : OwnNk w lo hi a0 a1 t) : InCs w a0 a1 none t := by
  obtain ⟨h0, ht, l1, h1, l2, h2, k1, k2, k3, k4, k5, k6, k7⟩ := h
  exact ⟨k6.at, k7.at, .inl ht⟩
def NRes9 (c : Int) (t : Cs) (w : World) (e : Ending) (w' : World) : Prop :=
  ∃ a0 c0 a1 c1, e = .returned (.agg #[.int .i64 c, .int .i64 0, .slice none 0 0, .int .i64 t.nx, .int .i64 t.ck, .slice a0 t.wn c0, .slice a1 t.ln c1, .slice none 0 0]) ∧ Below w.heap.size w w' ∧ OwnNk w' w.heap.size w'.heap.size a0 a1 t
theorem nres_bad {c : Int} {w w' : World} (hb : Below w.heap.size w w') : NRes9 c zCs0 w (.returned (.agg #[.int .i64 c, .int .i64 0, .slice none 0 0, .int .i64 0, .int .i64 0, .slice none 0 0, .slice none 0 0, .slice none 0 0])) w' :=
  ⟨none, 0, none, 0, rfl, hb, Nat.le_refl _, rfl, w.heap.size, w.heap.size, w.heap.size, w.heap.size, Nat.le_refl _, Nat.le_refl _, hb.size, hb.size, .inl (Nat.le_refl _), ⟨hb.size, .inl rfl⟩, ⟨hb.size, .inl rfl⟩⟩
theorem Nk.fin {w W wr w7 : World} {B b1 l1 h1 : Nat} {a0 : Option Addr} {c0 n : Nat} {K V : Nat → Int} {ck : Int} (h : Nk W.heap.size W wr B b1 l1 h1 a0 c0 n K V (lsF K n) 2 ck) (hck : ck = if n = 0 then 0 else 1) (hWw : Below w.heap.size w W) (hlt : w.heap.size < W.heap.size) (hw : Writes w.heap.size (w.heap.size + 1) wr w7) (hs : w7.heap.size = wr.heap.size) :
    NRes9 0 (ncT n K V) w (.returned (.agg #[.int .i64 0, .int .i64 0, .slice none 0 0, .int .i64 2, .int .i64 ck, .slice a0 n c0, .slice (some ⟨b1, 0, none⟩) 32 32, .slice none 0 0])) w7 := by
  have hb1 := h.hb1
  have hl := h.hl
  have hM := h.hM
  have hn1 := h.n1
  have hsz := h.below.size
  have hlt1 : b1 < wr.heap.size := Go.block_lt_of_cell (h.l 0 (by omega))
  refine ⟨a0, c0, some ⟨b1, 0, none⟩, 32, by rw [hck]; rfl, Writes.below (below_then hWw h.below) hw (Nat.le_refl _), Nat.le_refl _, rfl, l1, h1, b1, b1 + 1, by omega, by omega, by rw [hs]; exact h.own.1, by omega, by omega, h.own.writes hw (.inr (by omega)), by omega, .inr ⟨b1, 0, rfl, Nat.le_refl _, Nat.lt_succ_self _, fun i hi => ?_, fun i hi => ?_⟩⟩
  · show w7.cell? ⟨b1, 0 + i, none⟩ = some (.int .i64 (lsF K n i))
    rw [Nat.zero_add]
    exact cell_writes (h.l i hi) hw (.inr (by omega))
  · have := World.frozen?_of_block (w := wr) (a := ⟨b1, 0 + i, none⟩) (hw.block b1 hlt1 (.inr (by omega)))
    rw [this]
    exact h.lf _
theorem l9Bad_any (c : Int) (w : World) : Calls Try.prog 58 #[.int .i64 c] w fun e w' => e = .returned (.agg #[.int .i64 c, .int .i64 0, .slice none 0 0, .int .i64 0, .int .i64 0, .slice none 0 0, .slice none 0 0, .slice none 0 0]) ∧ Below w.heap.size w w' := by
  go_enter Try.func58, Try.ntmps58
  go_wp2
  refine bodyPost_ret (v := .agg #[.int .i64 c, .int .i64 0, .slice none 0 0, .int .i64 0, .int .i64 0, .slice none 0 0, .slice none 0 0, .slice none 0 0]) (by simp [results, Try.results58, go_sem]) rfl ⟨rfl, ?_⟩
  repeat (first | with_reducible exact below_new _ _ | with_reducible refine Below.setCell ?_ (by first | omega | (simp <;> omega)) _)
theorem nc_good {n : Nat} {K V : Nat → Int} (h : neC n K V = 0) : n ≤ 20 ∧ ∀ i, i < n → ∃ j : Nat, j < 32 ∧ K i = (j : Int) := by
  unfold neC at h
  by_cases h1 : 20 < n
  · rw [if_pos h1] at h; omega
  · rw [if_neg h1] at h
    refine ⟨by omega, fun i hi => ?_⟩
    have hz : ∀ m i, cff K V m i = 0 → ∀ j, i ≤ j → j < i + m → inB (K j) 0 31 = true := by
      intro m
      induction m with
      | zero => intro i _ j h1 h2; omega
      | succ m ih =>
        intro i h j h1 h2
        rw [cff] at h
        by_cases c1 : inB (K i) 0 31 = false ∨ inB (V i) 0 9999 = false
        · rw [if_pos c1] at h; omega
        · rw [if_neg c1] at h
          by_cases c2 : 0 < i ∧ K i ≤ K (i - 1)
          · rw [if_pos c2] at h; omega
          · rw [if_neg c2] at h
            by_cases e : j = i
            · subst e
              cases hh : inB (K j) 0 31 with
              | true => rfl
              | false => exact absurd (.inl hh) c1
            · exact ih (i + 1) h j (by omega) (by omega)
    have := inB_iff.1 (hz n 0 h i (by omega) (by omega))
    exact ⟨(K i).toNat, by omega, by omega⟩
set_option maxHeartbeats 8000000 in
theorem specNc_any (n : Nat) (K V : Nat → Int) (a : Option Addr) (cap : Nat) (w : World) (h : CellsAt w a n K V) :
    Calls Try.prog 24 #[.slice a n cap] w (NRes9 (neC n K V) (ncR n K V) w) := by
  have HA : Hid (CellsAt w a n K V) := h
  clear h
  have HR : Hid (ncR n K V = if neC n K V = 0 then ncT n K V else zCs0) := rfl
  generalize ncR n K V = R at *
  go_enter Try.func24, Try.ntmps24
  go_wp2_with fail
  refine (specNe_any n K V a cap _ (HA.out.below (below_new _ _))).mono ?_
  rintro e w1 ⟨ea, ec, ea', ec', rfl, hb1, -⟩
  obtain ⟨hc, hf⟩ := bcell hb1
  have hz : w.heap.size < w1.heap.size := by have := hb1.size; simp at this; omega
  have s0 : w1.cell? ⟨w.heap.size, 0, none⟩ = some (.int .i64 0) := by rw [hc _ _ (by simp)]; simp [go_sem]
  have s1 : w1.cell? ⟨w.heap.size, 1, none⟩ = some (.int .i64 0) := by rw [hc _ _ (by simp)]; simp [go_sem]
  have s2 : w1.cell? ⟨w.heap.size, 2, none⟩ = some (.slice none 0 0) := by rw [hc _ _ (by simp)]; simp [go_sem]
  have s3 : w1.cell? ⟨w.heap.size, 3, none⟩ = some (.int .i64 0) := by rw [hc _ _ (by simp)]; simp [go_sem]
  have s4 : w1.cell? ⟨w.heap.size, 4, none⟩ = some (.int .i64 0) := by rw [hc _ _ (by simp)]; simp [go_sem]
  have s5 : w1.cell? ⟨w.heap.size, 5, none⟩ = some (.slice none 0 0) := by rw [hc _ _ (by simp)]; simp [go_sem]
  have s6 : w1.cell? ⟨w.heap.size, 6, none⟩ = some (.slice none 0 0) := by rw [hc _ _ (by simp)]; simp [go_sem]
  have s7 : w1.cell? ⟨w.heap.size, 7, none⟩ = some (.slice none 0 0) := by rw [hc _ _ (by simp)]; simp [go_sem]
  have sf : ∀ i, w1.frozen? ⟨w.heap.size, i, none⟩ = false := fun i => by rw [hf _ _ (by simp)]; simp [go_sem]
  have HB1 : Hid (Below w.heap.size w w1) := below_then (below_new _ _) hb1
  clear hc hf hb1
  by_cases hN : neC n K V = 0
  case neg =>
    have HR2 : Hid (R = zCs0) := HR.out.trans (if_neg hN)
    have hd : (neC n K V != 0) = true := by simpa using hN
    clear HR
    generalize neC n K V = c at *
    generalize neR n K V = EE at *
    clear hN
    go_wp2_with fail
    refine (l9Bad_any c _).mono ?_
    rintro e w2 ⟨rfl, hb2⟩
    have hB2 : Below w1.heap.size w1 w2 := below_then (below_new _ _) hb2
    have HB2 : Hid (Below w.heap.size w w2) := below_then HB1.out hB2
    replace s0 := cell_below s0 hB2
    replace s1 := cell_below s1 hB2
    replace s2 := cell_below s2 hB2
    replace s3 := cell_below s3 hB2
    replace s4 := cell_below s4 hB2
    replace s5 := cell_below s5 hB2
    replace s6 := cell_below s6 hB2
    replace s7 := cell_below s7 hB2
    replace sf : ∀ i, w2.frozen? ⟨w.heap.size, i, none⟩ = false := fun i => (hB2.frozen (p := ⟨w.heap.size, i, none⟩) hz).trans (sf i)
    clear hb2 hB2
    go_wp2_with fail
    rw [HR2.out]
    refine bodyPost_ret (v := .agg #[.int .i64 c, .int .i64 0, .slice none 0 0, .int .i64 0, .int .i64 0, .slice none 0 0, .slice none 0 0, .slice none 0 0]) (by simp [results, Try.results24, go_sem, *]) rfl (nres_bad ?_)
    repeat (first | with_reducible exact HB2.out | with_reducible refine Below.setCell ?_ (by first | omega | (simp <;> omega)) _)
  have HR2 : Hid (R = ncT n K V) := HR.out.trans (if_pos hN)
  obtain ⟨hn20, hkeys⟩ := nc_good hN
  have HK : Hid (∀ i, i < n → ∃ j : Nat, j < 32 ∧ K i = (j : Int)) := hkeys
  have HNC : Hid (neC n K V = 0) := hN
  rw [hN]
  clear hN HR hkeys
  generalize neR n K V = EE at *
  go_upto_region 4 with fail
  obtain ⟨W, hW⟩ : ∃ x, x = w1.alloc (.cells #[.int .i64 0, .int .i64 0, .int .i64 EE.nx, .int .i64 EE.ck, .slice ea EE.p ec, .slice ea' EE.q ec'] 94) := ⟨_, rfl⟩
  have hBW : Below w1.heap.size w1 W := by rw [hW]; exact below_new _ _
  rw [← hW]
  clear hW
  have HBW : Hid (Below w.heap.size w W) := below_then HB1.out hBW
  have hzW : w.heap.size < W.heap.size := by have := hBW.size; omega
  replace s0 := cell_below s0 hBW
  replace s1 := cell_below s1 hBW
  replace s2 := cell_below s2 hBW
  replace s3 := cell_below s3 hBW
  replace s4 := cell_below s4 hBW
  replace s5 := cell_below s5 hBW
  replace s6 := cell_below s6 hBW
  replace s7 := cell_below s7 hBW
  replace sf : ∀ i, W.frozen? ⟨w.heap.size, i, none⟩ = false := fun i => (hBW.frozen (p := ⟨w.heap.size, i, none⟩) hz).trans (sf i)
  clear hBW hz HB1
  have HCW : Hid (CellsAt W a n K V) := HA.out.below HBW.out
  go_cut [4] (fun v wx => ∃ B b1 l1 h1 a0 c0, v = .pointer (some ⟨B, 0, none⟩) ∧ Nk W.heap.size W wx B b1 l1 h1 a0 c0 n K V (fun _ => 0) 2 0)
  case first =>
    clear s0 s1 s2 s3 s4 s5 s6 s7 sf
    refine wp_region_E 6 (S := fun u => Below W.heap.size W u) (by kernel_rfl) ((Below.refl _ _).drew) (fun hS => ?_)
    obtain ⟨W0, hW0⟩ : ∃ x, x = W.drew := ⟨_, rfl⟩
    have hB : Below W.heap.size W W0 := by rw [hW0]; exact (Below.refl _ _).drew
    rw [← hW0] at hS ⊢
    clear hW0
    refine wpAnyE_takeD (i := 1) (v := .slice a n cap) (some 15) rfl rfl (by kernel_rfl) (by kernel_rfl) (by kernel_rfl) (by kernel_rfl) (fun _ _ _ h => h) (Or.inl ⟨by kernel_rfl, by intro u hSu; go_simp⟩) hS ?_
    try simp only [Act.put, List.setIfInBounds_toArray, List.set_cons_zero, List.set_cons_succ]
    refine wpAnyE_ready (rs := [0, 3, 5]) (by kernel_rfl) (by simp) ?_
    refine AllReadyE.cons rfl (fun Kq hK => ?_) (AllReadyE.cons rfl (fun Kq hK => ?_) (AllReadyE.cons rfl (fun Kq hK => ?_) AllReadyE.nil))
    · refine step_bs0C _ (some 14) rfl rfl rfl (fun p w1 hbw1 => ?_)
      have hB9 := below_then hB hbw1
      have hzw1 := hbw1.size
      clear hB
      have hB := hB9
      clear hB9
      refine hK.out _ _ hB (fun hS9 => ?_)
      try simp only [Act.put, List.setIfInBounds_toArray, List.set_cons_zero, List.set_cons_succ]
      clear hK Kq hS
      have hS := hS9
      clear hS9
      refine wpAnyE_ready (rs := [2, 3, 5]) (by kernel_rfl) (by simp) ?_
      refine AllReadyE.cons rfl (fun Kq hK => ?_) (AllReadyE.cons rfl (fun Kq hK => ?_) (AllReadyE.cons rfl (fun Kq hK => ?_) AllReadyE.nil))
      · have hzA := hB.size
        refine step_app0C _ (some 16) rfl rfl (.tmp 14) (.tmp 15) rfl p rfl a n cap K V rfl (HCW.out.below hB) (by omega) (fun v w2 hN hbw2 => ?_)
        obtain ⟨a0, c0, rfl, hnc, hOw⟩ := hN
        have hzA2 := hOw.1
        have hB9 := below_then hB hbw2
        have hzw2 := hbw2.size
        clear hB
        have hB := hB9
        clear hB9
        refine hK.out _ _ hB (fun hS9 => ?_)
        try simp only [Act.put, List.setIfInBounds_toArray, List.set_cons_zero, List.set_cons_succ]
        clear hK Kq hS
        have hS := hS9
        clear hS9
        refine wpAnyE_ready (rs := [3, 5]) (by kernel_rfl) (by simp) ?_
        refine AllReadyE.cons rfl (fun Kq hK => ?_) (AllReadyE.cons rfl (fun Kq hK => ?_) AllReadyE.nil)
        · have hzM := hB.size
          refine step_mk32 _ (some 17) rfl rfl rfl (fun b1 w3 hb1 hLc hLf hbw3 => ?_)
          have hLc0 := hLc 0 (by omega)
          have hb1t : b1 < w3.heap.size := Go.block_lt_of_cell hLc0
          have hB9 := below_then hB hbw3
          have hzw3 := hbw3.size
          replace hOw := hOw.below hbw3
          clear hB
          have hB := hB9
          clear hB9
          refine hK.out _ _ hB (fun hS9 => ?_)
          try simp only [Act.put, List.setIfInBounds_toArray, List.set_cons_zero, List.set_cons_succ]
          clear hK Kq hS
          have hS := hS9
          clear hS9
          refine wpAnyE_takeD (i := 4) (v := .agg #[.int .i64 2, .int .i64 0, .slice a0 n c0, .slice (some ⟨b1, 0, none⟩) 32 32, .slice none 0 0]) (some 18) rfl rfl (by kernel_rfl) (by kernel_rfl) (by kernel_rfl) (by kernel_rfl) (fun _ _ _ h => h) (Or.inl ⟨by kernel_rfl, by intro u hSu; go_simp⟩) hS ?_
          try simp only [Act.put, List.setIfInBounds_toArray, List.set_cons_zero, List.set_cons_succ]
          refine wpAnyE_ready (rs := [5]) (by kernel_rfl) (by simp) ?_
          refine AllReadyE.cons rfl (fun Kq hK => ?_) AllReadyE.nil
          have hzL := hB.size
          refine step_al5 _ (some 4) rfl rfl rfl (fun B w4 hBl hBx hBf hbw4 => ?_)
          have hBt : B < w4.heap.size := Go.block_lt_of_cell hBx.1
          have hB9 := below_then hB hbw4
          have hzw4 := hbw4.size
          replace hOw := hOw.below hbw4
          replace hLc : ∀ i, i < 32 → w4.cell? ⟨b1, i, none⟩ = some (.int .i64 0) := fun i hi => cell_below (hLc i hi) hbw4
          replace hLf : ∀ i, w4.frozen? ⟨b1, i, none⟩ = false := fun i => (hbw4.frozen (p := ⟨b1, i, none⟩) (by have := Go.block_lt_of_cell (hLc0); exact this)).trans (hLf i)
          replace hLc0 := hLc 0 (by omega)
          clear hB
          have hB := hB9
          clear hB9
          refine hK.out _ _ hB (fun hS9 => ?_)
          try simp only [Act.put, List.setIfInBounds_toArray, List.set_cons_zero, List.set_cons_succ]
          clear hK Kq hS
          have hS := hS9
          clear hS9
          refine wpAnyE_ready (rs := [6]) (by kernel_rfl) (by simp) ?_
          refine AllReadyE.last rfl (fun Kq hK => ?_)
          obtain ⟨y0, y1, y2, y3, y4⟩ := hBx
          go_simp
          refine hK.out _ _ ?_
          clear hK Kq hS
          refine wpAnyE_done (by kernel_rfl) ?_ _
          go_simp
          have hNk := Nk.made (M := W.heap.size) (w := W) 2 0 _ rfl hB (z0 := .int .i64 0) (z1 := .int .i64 0) (z2 := .slice none 0 0) (z3 := .slice none 0 0) (z4 := .slice none 0 0) ⟨y0, y1, y2, y3, y4⟩ hBf hLc hLf hOw (c0 := c0) (by omega) (by omega) (by omega) (by omega) (by omega) (by omega) (Nat.le_refl _)
          clear y0 y1 y2 y3 y4
          go_wp2_with fail
          go_meet
          exact ⟨B, b1, _, _, a0, c0, rfl, hNk⟩
        · have hzL := hB.size
          refine step_al5 _ (some 4) rfl rfl rfl (fun B w3 hBl hBx hBf hbw3 => ?_)
          have hBt : B < w3.heap.size := Go.block_lt_of_cell hBx.1
          have hB9 := below_then hB hbw3
          have hzw3 := hbw3.size
          replace hOw := hOw.below hbw3
          clear hB
          have hB := hB9
          clear hB9
          refine hK.out _ _ hB (fun hS9 => ?_)
          try simp only [Act.put, List.setIfInBounds_toArray, List.set_cons_zero, List.set_cons_succ]
          clear hK Kq hS
          have hS := hS9
          clear hS9
          refine wpAnyE_ready (rs := [3]) (by kernel_rfl) (by simp) ?_
          refine AllReadyE.cons rfl (fun Kq hK => ?_) AllReadyE.nil
          have hzM := hB.size
          refine step_mk32 _ (some 17) rfl rfl rfl (fun b1 w4 hb1 hLc hLf hbw4 => ?_)
          have hLc0 := hLc 0 (by omega)
          have hb1t : b1 < w4.heap.size := Go.block_lt_of_cell hLc0
          have hB9 := below_then hB hbw4
          have hzw4 := hbw4.size
          replace hOw := hOw.below hbw4
          replace hBf : ∀ i, w4.frozen? ⟨B, i, none⟩ = false := fun i => (hbw4.frozen (p := ⟨B, i, none⟩) (by have := Go.block_lt_of_cell hBx.1; exact this)).trans (hBf i)
          replace hBx := hBx.below hbw4
          clear hB
          have hB := hB9
          clear hB9
          refine hK.out _ _ hB (fun hS9 => ?_)
          try simp only [Act.put, List.setIfInBounds_toArray, List.set_cons_zero, List.set_cons_succ]
          clear hK Kq hS
          have hS := hS9
          clear hS9
          refine wpAnyE_takeD (i := 4) (v := .agg #[.int .i64 2, .int .i64 0, .slice a0 n c0, .slice (some ⟨b1, 0, none⟩) 32 32, .slice none 0 0]) (some 18) rfl rfl (by kernel_rfl) (by kernel_rfl) (by kernel_rfl) (by kernel_rfl) (fun _ _ _ h => h) (Or.inl ⟨by kernel_rfl, by intro u hSu; go_simp⟩) hS ?_
          try simp only [Act.put, List.setIfInBounds_toArray, List.set_cons_zero, List.set_cons_succ]
          refine wpAnyE_ready (rs := [6]) (by kernel_rfl) (by simp) ?_
          refine AllReadyE.last rfl (fun Kq hK => ?_)
          obtain ⟨y0, y1, y2, y3, y4⟩ := hBx
          go_simp
          refine hK.out _ _ ?_
          clear hK Kq hS
          refine wpAnyE_done (by kernel_rfl) ?_ _
          go_simp
          have hNk := Nk.made (M := W.heap.size) (w := W) 2 0 _ rfl hB (z0 := .int .i64 0) (z1 := .int .i64 0) (z2 := .slice none 0 0) (z3 := .slice none 0 0) (z4 := .slice none 0 0) ⟨y0, y1, y2, y3, y4⟩ hBf hLc hLf hOw (c0 := c0) (by omega) (by omega) (by omega) (by omega) (by omega) (by omega) (Nat.le_refl _)
          clear y0 y1 y2 y3 y4
          go_wp2_with fail
          go_meet
          exact ⟨B, b1, _, _, a0, c0, rfl, hNk⟩
      · have hzM := hB.size
        refine step_mk32 _ (some 17) rfl rfl rfl (fun b1 w2 hb1 hLc hLf hbw2 => ?_)
        have hLc0 := hLc 0 (by omega)
        have hb1t : b1 < w2.heap.size := Go.block_lt_of_cell hLc0
        have hB9 := below_then hB hbw2
        have hzw2 := hbw2.size
        clear hB
        have hB := hB9
        clear hB9
        refine hK.out _ _ hB (fun hS9 => ?_)
        try simp only [Act.put, List.setIfInBounds_toArray, List.set_cons_zero, List.set_cons_succ]
        clear hK Kq hS
        have hS := hS9
        clear hS9
        refine wpAnyE_ready (rs := [2, 5]) (by kernel_rfl) (by simp) ?_
        refine AllReadyE.cons rfl (fun Kq hK => ?_) (AllReadyE.cons rfl (fun Kq hK => ?_) AllReadyE.nil)
        · have hzA := hB.size
          refine step_app0C _ (some 16) rfl rfl (.tmp 14) (.tmp 15) rfl p rfl a n cap K V rfl (HCW.out.below hB) (by omega) (fun v w3 hN hbw3 => ?_)
          obtain ⟨a0, c0, rfl, hnc, hOw⟩ := hN
          have hzA2 := hOw.1
          have hB9 := below_then hB hbw3
          have hzw3 := hbw3.size
          replace hLc : ∀ i, i < 32 → w3.cell? ⟨b1, i, none⟩ = some (.int .i64 0) := fun i hi => cell_below (hLc i hi) hbw3
          replace hLf : ∀ i, w3.frozen? ⟨b1, i, none⟩ = false := fun i => (hbw3.frozen (p := ⟨b1, i, none⟩) (by have := Go.block_lt_of_cell (hLc0); exact this)).trans (hLf i)
          replace hLc0 := hLc 0 (by omega)
          clear hB
          have hB := hB9
          clear hB9
          refine hK.out _ _ hB (fun hS9 => ?_)
          try simp only [Act.put, List.setIfInBounds_toArray, List.set_cons_zero, List.set_cons_succ]
          clear hK Kq hS
          have hS := hS9
          clear hS9
          refine wpAnyE_takeD (i := 4) (v := .agg #[.int .i64 2, .int .i64 0, .slice a0 n c0, .slice (some ⟨b1, 0, none⟩) 32 32, .slice none 0 0]) (some 18) rfl rfl (by kernel_rfl) (by kernel_rfl) (by kernel_rfl) (by kernel_rfl) (fun _ _ _ h => h) (Or.inl ⟨by kernel_rfl, by intro u hSu; go_simp⟩) hS ?_
          try simp only [Act.put, List.setIfInBounds_toArray, List.set_cons_zero, List.set_cons_succ]
          refine wpAnyE_ready (rs := [5]) (by kernel_rfl) (by simp) ?_
          refine AllReadyE.cons rfl (fun Kq hK => ?_) AllReadyE.nil
          have hzL := hB.size
          refine step_al5 _ (some 4) rfl rfl rfl (fun B w4 hBl hBx hBf hbw4 => ?_)
          have hBt : B < w4.heap.size := Go.block_lt_of_cell hBx.1
          have hB9 := below_then hB hbw4
          have hzw4 := hbw4.size
          replace hLc : ∀ i, i < 32 → w4.cell? ⟨b1, i, none⟩ = some (.int .i64 0) := fun i hi => cell_below (hLc i hi) hbw4
          replace hLf : ∀ i, w4.frozen? ⟨b1, i, none⟩ = false := fun i => (hbw4.frozen (p := ⟨b1, i, none⟩) (by have := Go.block_lt_of_cell (hLc0); exact this)).trans (hLf i)
          replace hLc0 := hLc 0 (by omega)
          replace hOw := hOw.below hbw4
          clear hB
          have hB := hB9
          clear hB9
          refine hK.out _ _ hB (fun hS9 => ?_)
          try simp only [Act.put, List.setIfInBounds_toArray, List.set_cons_zero, List.set_cons_succ]
          clear hK Kq hS
          have hS := hS9
          clear hS9
          refine wpAnyE_ready (rs := [6]) (by kernel_rfl) (by simp) ?_
          refine AllReadyE.last rfl (fun Kq hK => ?_)
          obtain ⟨y0, y1, y2, y3, y4⟩ := hBx
          go_simp
          refine hK.out _ _ ?_
          clear hK Kq hS
          refine wpAnyE_done (by kernel_rfl) ?_ _
          go_simp
          have hNk := Nk.made (M := W.heap.size) (w := W) 2 0 _ rfl hB (z0 := .int .i64 0) (z1 := .int .i64 0) (z2 := .slice none 0 0) (z3 := .slice none 0 0) (z4 := .slice none 0 0) ⟨y0, y1, y2, y3, y4⟩ hBf hLc hLf hOw (c0 := c0) (by omega) (by omega) (by omega) (by omega) (by omega) (by omega) (Nat.le_refl _)
          clear y0 y1 y2 y3 y4
          go_wp2_with fail
          go_meet
          exact ⟨B, b1, _, _, a0, c0, rfl, hNk⟩
        · have hzL := hB.size
          refine step_al5 _ (some 4) rfl rfl rfl (fun B w3 hBl hBx hBf hbw3 => ?_)
          have hBt : B < w3.heap.size := Go.block_lt_of_cell hBx.1
          have hB9 := below_then hB hbw3
          have hzw3 := hbw3.size
          replace hLc : ∀ i, i < 32 → w3.cell? ⟨b1, i, none⟩ = some (.int .i64 0) := fun i hi => cell_below (hLc i hi) hbw3
          replace hLf : ∀ i, w3.frozen? ⟨b1, i, none⟩ = false := fun i => (hbw3.frozen (p := ⟨b1, i, none⟩) (by have := Go.block_lt_of_cell (hLc0); exact this)).trans (hLf i)
          replace hLc0 := hLc 0 (by omega)
          clear hB
          have hB := hB9
          clear hB9
          refine hK.out _ _ hB (fun hS9 => ?_)
          try simp only [Act.put, List.setIfInBounds_toArray, List.set_cons_zero, List.set_cons_succ]
          clear hK Kq hS
          have hS := hS9
          clear hS9
          refine wpAnyE_ready (rs := [2]) (by kernel_rfl) (by simp) ?_
          refine AllReadyE.cons rfl (fun Kq hK => ?_) AllReadyE.nil
          have hzA := hB.size
          refine step_app0C _ (some 16) rfl rfl (.tmp 14) (.tmp 15) rfl p rfl a n cap K V rfl (HCW.out.below hB) (by omega) (fun v w4 hN hbw4 => ?_)
          obtain ⟨a0, c0, rfl, hnc, hOw⟩ := hN
          have hzA2 := hOw.1
          have hB9 := below_then hB hbw4
          have hzw4 := hbw4.size
          replace hLc : ∀ i, i < 32 → w4.cell? ⟨b1, i, none⟩ = some (.int .i64 0) := fun i hi => cell_below (hLc i hi) hbw4
          replace hLf : ∀ i, w4.frozen? ⟨b1, i, none⟩ = false := fun i => (hbw4.frozen (p := ⟨b1, i, none⟩) (by have := Go.block_lt_of_cell (hLc0); exact this)).trans (hLf i)
          replace hLc0 := hLc 0 (by omega)
          replace hBf : ∀ i, w4.frozen? ⟨B, i, none⟩ = false := fun i => (hbw4.frozen (p := ⟨B, i, none⟩) (by have := Go.block_lt_of_cell hBx.1; exact this)).trans (hBf i)
          replace hBx := hBx.below hbw4
          clear hB
          have hB := hB9
          clear hB9
          refine hK.out _ _ hB (fun hS9 => ?_)
          try simp only [Act.put, List.setIfInBounds_toArray, List.set_cons_zero, List.set_cons_succ]
          clear hK Kq hS
          have hS := hS9
          clear hS9
          refine wpAnyE_takeD (i := 4) (v := .agg #[.int .i64 2, .int .i64 0, .slice a0 n c0, .slice (some ⟨b1, 0, none⟩) 32 32, .slice none 0 0]) (some 18) rfl rfl (by kernel_rfl) (by kernel_rfl) (by kernel_rfl) (by kernel_rfl) (fun _ _ _ h => h) (Or.inl ⟨by kernel_rfl, by intro u hSu; go_simp⟩) hS ?_
          try simp only [Act.put, List.setIfInBounds_toArray, List.set_cons_zero, List.set_cons_succ]
          refine wpAnyE_ready (rs := [6]) (by kernel_rfl) (by simp) ?_
          refine AllReadyE.last rfl (fun Kq hK => ?_)
          obtain ⟨y0, y1, y2, y3, y4⟩ := hBx
          go_simp
          refine hK.out _ _ ?_
          clear hK Kq hS
          refine wpAnyE_done (by kernel_rfl) ?_ _
          go_simp
          have hNk := Nk.made (M := W.heap.size) (w := W) 2 0 _ rfl hB (z0 := .int .i64 0) (z1 := .int .i64 0) (z2 := .slice none 0 0) (z3 := .slice none 0 0) (z4 := .slice none 0 0) ⟨y0, y1, y2, y3, y4⟩ hBf hLc hLf hOw (c0 := c0) (by omega) (by omega) (by omega) (by omega) (by omega) (by omega) (Nat.le_refl _)
          clear y0 y1 y2 y3 y4
          go_wp2_with fail
          go_meet
          exact ⟨B, b1, _, _, a0, c0, rfl, hNk⟩
      · have hzL := hB.size
        refine step_al5 _ (some 4) rfl rfl rfl (fun B w2 hBl hBx hBf hbw2 => ?_)
        have hBt : B < w2.heap.size := Go.block_lt_of_cell hBx.1
        have hB9 := below_then hB hbw2
        have hzw2 := hbw2.size
        clear hB
        have hB := hB9
        clear hB9
        refine hK.out _ _ hB (fun hS9 => ?_)
        try simp only [Act.put, List.setIfInBounds_toArray, List.set_cons_zero, List.set_cons_succ]
        clear hK Kq hS
        have hS := hS9
        clear hS9
        refine wpAnyE_ready (rs := [2, 3]) (by kernel_rfl) (by simp) ?_
        refine AllReadyE.cons rfl (fun Kq hK => ?_) (AllReadyE.cons rfl (fun Kq hK => ?_) AllReadyE.nil)
        · have hzA := hB.size
          refine step_app0C _ (some 16) rfl rfl (.tmp 14) (.tmp 15) rfl p rfl a n cap K V rfl (HCW.out.below hB) (by omega) (fun v w3 hN hbw3 => ?_)
          obtain ⟨a0, c0, rfl, hnc, hOw⟩ := hN
          have hzA2 := hOw.1
          have hB9 := below_then hB hbw3
          have hzw3 := hbw3.size
          replace hBf : ∀ i, w3.frozen? ⟨B, i, none⟩ = false := fun i => (hbw3.frozen (p := ⟨B, i, none⟩) (by have := Go.block_lt_of_cell hBx.1; exact this)).trans (hBf i)
          replace hBx := hBx.below hbw3
          clear hB
          have hB := hB9
          clear hB9
          refine hK.out _ _ hB (fun hS9 => ?_)
          try simp only [Act.put, List.setIfInBounds_toArray, List.set_cons_zero, List.set_cons_succ]
          clear hK Kq hS
          have hS := hS9
          clear hS9
          refine wpAnyE_ready (rs := [3]) (by kernel_rfl) (by simp) ?_
          refine AllReadyE.cons rfl (fun Kq hK => ?_) AllReadyE.nil
          have hzM := hB.size
          refine step_mk32 _ (some 17) rfl rfl rfl (fun b1 w4 hb1 hLc hLf hbw4 => ?_)
          have hLc0 := hLc 0 (by omega)
          have hb1t : b1 < w4.heap.size := Go.block_lt_of_cell hLc0
          have hB9 := below_then hB hbw4
          have hzw4 := hbw4.size
          replace hBf : ∀ i, w4.frozen? ⟨B, i, none⟩ = false := fun i => (hbw4.frozen (p := ⟨B, i, none⟩) (by have := Go.block_lt_of_cell hBx.1; exact this)).trans (hBf i)
          replace hBx := hBx.below hbw4
          replace hOw := hOw.below hbw4
          clear hB
          have hB := hB9
          clear hB9
          refine hK.out _ _ hB (fun hS9 => ?_)
          try simp only [Act.put, List.setIfInBounds_toArray, List.set_cons_zero, List.set_cons_succ]
          clear hK Kq hS
          have hS := hS9
          clear hS9
          refine wpAnyE_takeD (i := 4) (v := .agg #[.int .i64 2, .int .i64 0, .slice a0 n c0, .slice (some ⟨b1, 0, none⟩) 32 32, .slice none 0 0]) (some 18) rfl rfl (by kernel_rfl) (by kernel_rfl) (by kernel_rfl) (by kernel_rfl) (fun _ _ _ h => h) (Or.inl ⟨by kernel_rfl, by intro u hSu; go_simp⟩) hS ?_
          try simp only [Act.put, List.setIfInBounds_toArray, List.set_cons_zero, List.set_cons_succ]
          refine wpAnyE_ready (rs := [6]) (by kernel_rfl) (by simp) ?_
          refine AllReadyE.last rfl (fun Kq hK => ?_)
          obtain ⟨y0, y1, y2, y3, y4⟩ := hBx
          go_simp
          refine hK.out _ _ ?_
          clear hK Kq hS
          refine wpAnyE_done (by kernel_rfl) ?_ _
          go_simp
          have hNk := Nk.made (M := W.heap.size) (w := W) 2 0 _ rfl hB (z0 := .int .i64 0) (z1 := .int .i64 0) (z2 := .slice none 0 0) (z3 := .slice none 0 0) (z4 := .slice none 0 0) ⟨y0, y1, y2, y3, y4⟩ hBf hLc hLf hOw (c0 := c0) (by omega) (by omega) (by omega) (by omega) (by omega) (by omega) (Nat.le_refl _)
          clear y0 y1 y2 y3 y4
          go_wp2_with fail
          go_meet
          exact ⟨B, b1, _, _, a0, c0, rfl, hNk⟩
        · have hzM := hB.size
          refine step_mk32 _ (some 17) rfl rfl rfl (fun b1 w3 hb1 hLc hLf hbw3 => ?_)
          have hLc0 := hLc 0 (by omega)
          have hb1t : b1 < w3.heap.size := Go.block_lt_of_cell hLc0
          have hB9 := below_then hB hbw3
          have hzw3 := hbw3.size
          replace hBf : ∀ i, w3.frozen? ⟨B, i, none⟩ = false := fun i => (hbw3.frozen (p := ⟨B, i, none⟩) (by have := Go.block_lt_of_cell hBx.1; exact this)).trans (hBf i)
          replace hBx := hBx.below hbw3
          clear hB
          have hB := hB9
          clear hB9
          refine hK.out _ _ hB (fun hS9 => ?_)
          try simp only [Act.put, List.setIfInBounds_toArray, List.set_cons_zero, List.set_cons_succ]
          clear hK Kq hS
          have hS := hS9
          clear hS9
          refine wpAnyE_ready (rs := [2]) (by kernel_rfl) (by simp) ?_
          refine AllReadyE.cons rfl (fun Kq hK => ?_) AllReadyE.nil
          have hzA := hB.size
          refine step_app0C _ (some 16) rfl rfl (.tmp 14) (.tmp 15) rfl p rfl a n cap K V rfl (HCW.out.below hB) (by omega) (fun v w4 hN hbw4 => ?_)
          obtain ⟨a0, c0, rfl, hnc, hOw⟩ := hN
          have hzA2 := hOw.1
          have hB9 := below_then hB hbw4
          have hzw4 := hbw4.size
          replace hBf : ∀ i, w4.frozen? ⟨B, i, none⟩ = false := fun i => (hbw4.frozen (p := ⟨B, i, none⟩) (by have := Go.block_lt_of_cell hBx.1; exact this)).trans (hBf i)
          replace hBx := hBx.below hbw4
          replace hLc : ∀ i, i < 32 → w4.cell? ⟨b1, i, none⟩ = some (.int .i64 0) := fun i hi => cell_below (hLc i hi) hbw4
          replace hLf : ∀ i, w4.frozen? ⟨b1, i, none⟩ = false := fun i => (hbw4.frozen (p := ⟨b1, i, none⟩) (by have := Go.block_lt_of_cell (hLc0); exact this)).trans (hLf i)
          replace hLc0 := hLc 0 (by omega)
          clear hB
          have hB := hB9
          clear hB9
          refine hK.out _ _ hB (fun hS9 => ?_)
          try simp only [Act.put, List.setIfInBounds_toArray, List.set_cons_zero, List.set_cons_succ]
          clear hK Kq hS
          have hS := hS9
          clear hS9
          refine wpAnyE_takeD (i := 4) (v := .agg #[.int .i64 2, .int .i64 0, .slice a0 n c0, .slice (some ⟨b1, 0, none⟩) 32 32, .slice none 0 0]) (some 18) rfl rfl (by kernel_rfl) (by kernel_rfl) (by kernel_rfl) (by kernel_rfl) (fun _ _ _ h => h) (Or.inl ⟨by kernel_rfl, by intro u hSu; go_simp⟩) hS ?_
          try simp only [Act.put, List.setIfInBounds_toArray, List.set_cons_zero, List.set_cons_succ]
          refine wpAnyE_ready (rs := [6]) (by kernel_rfl) (by simp) ?_
          refine AllReadyE.last rfl (fun Kq hK => ?_)
          obtain ⟨y0, y1, y2, y3, y4⟩ := hBx
          go_simp
          refine hK.out _ _ ?_
          clear hK Kq hS
          refine wpAnyE_done (by kernel_rfl) ?_ _
          go_simp
          have hNk := Nk.made (M := W.heap.size) (w := W) 2 0 _ rfl hB (z0 := .int .i64 0) (z1 := .int .i64 0) (z2 := .slice none 0 0) (z3 := .slice none 0 0) (z4 := .slice none 0 0) ⟨y0, y1, y2, y3, y4⟩ hBf hLc hLf hOw (c0 := c0) (by omega) (by omega) (by omega) (by omega) (by omega) (by omega) (Nat.le_refl _)
          clear y0 y1 y2 y3 y4
          go_wp2_with fail
          go_meet
          exact ⟨B, b1, _, _, a0, c0, rfl, hNk⟩
    · have hzM := hB.size
      refine step_mk32 _ (some 17) rfl rfl rfl (fun b1 w1 hb1 hLc hLf hbw1 => ?_)
      have hLc0 := hLc 0 (by omega)
      have hb1t : b1 < w1.heap.size := Go.block_lt_of_cell hLc0
      have hB9 := below_then hB hbw1
      have hzw1 := hbw1.size
      clear hB
      have hB := hB9
      clear hB9
      refine hK.out _ _ hB (fun hS9 => ?_)
      try simp only [Act.put, List.setIfInBounds_toArray, List.set_cons_zero, List.set_cons_succ]
      clear hK Kq hS
      have hS := hS9
      clear hS9
      refine wpAnyE_ready (rs := [0, 5]) (by kernel_rfl) (by simp) ?_
      refine AllReadyE.cons rfl (fun Kq hK => ?_) (AllReadyE.cons rfl (fun Kq hK => ?_) AllReadyE.nil)
      · refine step_bs0C _ (some 14) rfl rfl rfl (fun p w2 hbw2 => ?_)
        have hB9 := below_then hB hbw2
        have hzw2 := hbw2.size
        replace hLc : ∀ i, i < 32 → w2.cell? ⟨b1, i, none⟩ = some (.int .i64 0) := fun i hi => cell_below (hLc i hi) hbw2
        replace hLf : ∀ i, w2.frozen? ⟨b1, i, none⟩ = false := fun i => (hbw2.frozen (p := ⟨b1, i, none⟩) (by have := Go.block_lt_of_cell (hLc0); exact this)).trans (hLf i)
        replace hLc0 := hLc 0 (by omega)
        clear hB
        have hB := hB9
        clear hB9
        refine hK.out _ _ hB (fun hS9 => ?_)
        try simp only [Act.put, List.setIfInBounds_toArray, List.set_cons_zero, List.set_cons_succ]
        clear hK Kq hS
        have hS := hS9
        clear hS9
        refine wpAnyE_ready (rs := [2, 5]) (by kernel_rfl) (by simp) ?_
        refine AllReadyE.cons rfl (fun Kq hK => ?_) (AllReadyE.cons rfl (fun Kq hK => ?_) AllReadyE.nil)
        · have hzA := hB.size
          refine step_app0C _ (some 16) rfl rfl (.tmp 14) (.tmp 15) rfl p rfl a n cap K V rfl (HCW.out.below hB) (by omega) (fun v w3 hN hbw3 => ?_)
          obtain ⟨a0, c0, rfl, hnc, hOw⟩ := hN
          have hzA2 := hOw.1
          have hB9 := below_then hB hbw3
          have hzw3 := hbw3.size
          replace hLc : ∀ i, i < 32 → w3.cell? ⟨b1, i, none⟩ = some (.int .i64 0) := fun i hi => cell_below (hLc i hi) hbw3
          replace hLf : ∀ i, w3.frozen? ⟨b1, i, none⟩ = false := fun i => (hbw3.frozen (p := ⟨b1, i, none⟩) (by have := Go.block_lt_of_cell (hLc0); exact this)).trans (hLf i)
          replace hLc0 := hLc 0 (by omega)
          clear hB
          have hB := hB9
          clear hB9
          refine hK.out _ _ hB (fun hS9 => ?_)
          try simp only [Act.put, List.setIfInBounds_toArray, List.set_cons_zero, List.set_cons_succ]
          clear hK Kq hS
          have hS := hS9
          clear hS9
          refine wpAnyE_takeD (i := 4) (v := .agg #[.int .i64 2, .int .i64 0, .slice a0 n c0, .slice (some ⟨b1, 0, none⟩) 32 32, .slice none 0 0]) (some 18) rfl rfl (by kernel_rfl) (by kernel_rfl) (by kernel_rfl) (by kernel_rfl) (fun _ _ _ h => h) (Or.inl ⟨by kernel_rfl, by intro u hSu; go_simp⟩) hS ?_
          try simp only [Act.put, List.setIfInBounds_toArray, List.set_cons_zero, List.set_cons_succ]
          refine wpAnyE_ready (rs := [5]) (by kernel_rfl) (by simp) ?_
          refine AllReadyE.cons rfl (fun Kq hK => ?_) AllReadyE.nil
          have hzL := hB.size
          refine step_al5 _ (some 4) rfl rfl rfl (fun B w4 hBl hBx hBf hbw4 => ?_)
          have hBt : B < w4.heap.size := Go.block_lt_of_cell hBx.1
          have hB9 := below_then hB hbw4
          have hzw4 := hbw4.size
          replace hLc : ∀ i, i < 32 → w4.cell? ⟨b1, i, none⟩ = some (.int .i64 0) := fun i hi => cell_below (hLc i hi) hbw4
          replace hLf : ∀ i, w4.frozen? ⟨b1, i, none⟩ = false := fun i => (hbw4.frozen (p := ⟨b1, i, none⟩) (by have := Go.block_lt_of_cell (hLc0); exact this)).trans (hLf i)
          replace hLc0 := hLc 0 (by omega)
          replace hOw := hOw.below hbw4
          clear hB
          have hB := hB9
          clear hB9
          refine hK.out _ _ hB (fun hS9 => ?_)
          try simp only [Act.put, List.setIfInBounds_toArray, List.set_cons_zero, List.set_cons_succ]
          clear hK Kq hS
          have hS := hS9
          clear hS9
          refine wpAnyE_ready (rs := [6]) (by kernel_rfl) (by simp) ?_
          refine AllReadyE.last rfl (fun Kq hK => ?_)
          obtain ⟨y0, y1, y2, y3, y4⟩ := hBx
          go_simp
          refine hK.out _ _ ?_
          clear hK Kq hS
          refine wpAnyE_done (by kernel_rfl) ?_ _
          go_simp
          have hNk := Nk.made (M := W.heap.size) (w := W) 2 0 _ rfl hB (z0 := .int .i64 0) (z1 := .int .i64 0) (z2 := .slice none 0 0) (z3 := .slice none 0 0) (z4 := .slice none 0 0) ⟨y0, y1, y2, y3, y4⟩ hBf hLc hLf hOw (c0 := c0) (by omega) (by omega) (by omega) (by omega) (by omega) (by omega) (Nat.le_refl _)
          clear y0 y1 y2 y3 y4
          go_wp2_with fail
          go_meet
          exact ⟨B, b1, _, _, a0, c0, rfl, hNk⟩
        · have hzL := hB.size
          refine step_al5 _ (some 4) rfl rfl rfl (fun B w3 hBl hBx hBf hbw3 => ?_)
          have hBt : B < w3.heap.size := Go.block_lt_of_cell hBx.1
          have hB9 := below_then hB hbw3
          have hzw3 := hbw3.size
          replace hLc : ∀ i, i < 32 → w3.cell? ⟨b1, i, none⟩ = some (.int .i64 0) := fun i hi => cell_below (hLc i hi) hbw3
          replace hLf : ∀ i, w3.frozen? ⟨b1, i, none⟩ = false := fun i => (hbw3.frozen (p := ⟨b1, i, none⟩) (by have := Go.block_lt_of_cell (hLc0); exact this)).trans (hLf i)
          replace hLc0 := hLc 0 (by omega)
          clear hB
          have hB := hB9
          clear hB9
          refine hK.out _ _ hB (fun hS9 => ?_)
          try simp only [Act.put, List.setIfInBounds_toArray, List.set_cons_zero, List.set_cons_succ]
          clear hK Kq hS
          have hS := hS9
          clear hS9
          refine wpAnyE_ready (rs := [2]) (by kernel_rfl) (by simp) ?_
          refine AllReadyE.cons rfl (fun Kq hK => ?_) AllReadyE.nil
          have hzA := hB.size
          refine step_app0C _ (some 16) rfl rfl (.tmp 14) (.tmp 15) rfl p rfl a n cap K V rfl (HCW.out.below hB) (by omega) (fun v w4 hN hbw4 => ?_)
          obtain ⟨a0, c0, rfl, hnc, hOw⟩ := hN
          have hzA2 := hOw.1
          have hB9 := below_then hB hbw4
          have hzw4 := hbw4.size
          replace hLc : ∀ i, i < 32 → w4.cell? ⟨b1, i, none⟩ = some (.int .i64 0) := fun i hi => cell_below (hLc i hi) hbw4
          replace hLf : ∀ i, w4.frozen? ⟨b1, i, none⟩ = false := fun i => (hbw4.frozen (p := ⟨b1, i, none⟩) (by have := Go.block_lt_of_cell (hLc0); exact this)).trans (hLf i)
          replace hLc0 := hLc 0 (by omega)
          replace hBf : ∀ i, w4.frozen? ⟨B, i, none⟩ = false := fun i => (hbw4.frozen (p := ⟨B, i, none⟩) (by have := Go.block_lt_of_cell hBx.1; exact this)).trans (hBf i)
          replace hBx := hBx.below hbw4
          clear hB
          have hB := hB9
          clear hB9
          refine hK.out _ _ hB (fun hS9 => ?_)
          try simp only [Act.put, List.setIfInBounds_toArray, List.set_cons_zero, List.set_cons_succ]
          clear hK Kq hS
          have hS := hS9
          clear hS9
          refine wpAnyE_takeD (i := 4) (v := .agg #[.int .i64 2, .int .i64 0, .slice a0 n c0, .slice (some ⟨b1, 0, none⟩) 32 32, .slice none 0 0]) (some 18) rfl rfl (by kernel_rfl) (by kernel_rfl) (by kernel_rfl) (by kernel_rfl) (fun _ _ _ h => h) (Or.inl ⟨by kernel_rfl, by intro u hSu; go_simp⟩) hS ?_
          try simp only [Act.put, List.setIfInBounds_toArray, List.set_cons_zero, List.set_cons_succ]
          refine wpAnyE_ready (rs := [6]) (by kernel_rfl) (by simp) ?_
          refine AllReadyE.last rfl (fun Kq hK => ?_)
          obtain ⟨y0, y1, y2, y3, y4⟩ := hBx
          go_simp
          refine hK.out _ _ ?_
          clear hK Kq hS
          refine wpAnyE_done (by kernel_rfl) ?_ _
          go_simp
          have hNk := Nk.made (M := W.heap.size) (w := W) 2 0 _ rfl hB (z0 := .int .i64 0) (z1 := .int .i64 0) (z2 := .slice none 0 0) (z3 := .slice none 0 0) (z4 := .slice none 0 0) ⟨y0, y1, y2, y3, y4⟩ hBf hLc hLf hOw (c0 := c0) (by omega) (by omega) (by omega) (by omega) (by omega) (by omega) (Nat.le_refl _)
          clear y0 y1 y2 y3 y4
          go_wp2_with fail
          go_meet
          exact ⟨B, b1, _, _, a0, c0, rfl, hNk⟩
      · have hzL := hB.size
        refine step_al5 _ (some 4) rfl rfl rfl (fun B w2 hBl hBx hBf hbw2 => ?_)
        have hBt : B < w2.heap.size := Go.block_lt_of_cell hBx.1
        have hB9 := below_then hB hbw2
        have hzw2 := hbw2.size
        replace hLc : ∀ i, i < 32 → w2.cell? ⟨b1, i, none⟩ = some (.int .i64 0) := fun i hi => cell_below (hLc i hi) hbw2
        replace hLf : ∀ i, w2.frozen? ⟨b1, i, none⟩ = false := fun i => (hbw2.frozen (p := ⟨b1, i, none⟩) (by have := Go.block_lt_of_cell (hLc0); exact this)).trans (hLf i)
        replace hLc0 := hLc 0 (by omega)
        clear hB
        have hB := hB9
        clear hB9
        refine hK.out _ _ hB (fun hS9 => ?_)
        try simp only [Act.put, List.setIfInBounds_toArray, List.set_cons_zero, List.set_cons_succ]
        clear hK Kq hS
        have hS := hS9
        clear hS9
        refine wpAnyE_ready (rs := [0]) (by kernel_rfl) (by simp) ?_
        refine AllReadyE.cons rfl (fun Kq hK => ?_) AllReadyE.nil
        refine step_bs0C _ (some 14) rfl rfl rfl (fun p w3 hbw3 => ?_)
        have hB9 := below_then hB hbw3
        have hzw3 := hbw3.size
        replace hLc : ∀ i, i < 32 → w3.cell? ⟨b1, i, none⟩ = some (.int .i64 0) := fun i hi => cell_below (hLc i hi) hbw3
        replace hLf : ∀ i, w3.frozen? ⟨b1, i, none⟩ = false := fun i => (hbw3.frozen (p := ⟨b1, i, none⟩) (by have := Go.block_lt_of_cell (hLc0); exact this)).trans (hLf i)
        replace hLc0 := hLc 0 (by omega)
        replace hBf : ∀ i, w3.frozen? ⟨B, i, none⟩ = false := fun i => (hbw3.frozen (p := ⟨B, i, none⟩) (by have := Go.block_lt_of_cell hBx.1; exact this)).trans (hBf i)
        replace hBx := hBx.below hbw3
        clear hB
        have hB := hB9
        clear hB9
        refine hK.out _ _ hB (fun hS9 => ?_)
        try simp only [Act.put, List.setIfInBounds_toArray, List.set_cons_zero, List.set_cons_succ]
        clear hK Kq hS
        have hS := hS9
        clear hS9
        refine wpAnyE_ready (rs := [2]) (by kernel_rfl) (by simp) ?_
        refine AllReadyE.cons rfl (fun Kq hK => ?_) AllReadyE.nil
        have hzA := hB.size
        refine step_app0C _ (some 16) rfl rfl (.tmp 14) (.tmp 15) rfl p rfl a n cap K V rfl (HCW.out.below hB) (by omega) (fun v w4 hN hbw4 => ?_)
        obtain ⟨a0, c0, rfl, hnc, hOw⟩ := hN
        have hzA2 := hOw.1
        have hB9 := below_then hB hbw4
        have hzw4 := hbw4.size
        replace hLc : ∀ i, i < 32 → w4.cell? ⟨b1, i, none⟩ = some (.int .i64 0) := fun i hi => cell_below (hLc i hi) hbw4
        replace hLf : ∀ i, w4.frozen? ⟨b1, i, none⟩ = false := fun i => (hbw4.frozen (p := ⟨b1, i, none⟩) (by have := Go.block_lt_of_cell (hLc0); exact this)).trans (hLf i)
        replace hLc0 := hLc 0 (by omega)
        replace hBf : ∀ i, w4.frozen? ⟨B, i, none⟩ = false := fun i => (hbw4.frozen (p := ⟨B, i, none⟩) (by have := Go.block_lt_of_cell hBx.1; exact this)).trans (hBf i)
        replace hBx := hBx.below hbw4
        clear hB
        have hB := hB9
        clear hB9
        refine hK.out _ _ hB (fun hS9 => ?_)
        try simp only [Act.put, List.setIfInBounds_toArray, List.set_cons_zero, List.set_cons_succ]
        clear hK Kq hS
        have hS := hS9
        clear hS9
        refine wpAnyE_takeD (i := 4) (v := .agg #[.int .i64 2, .int .i64 0, .slice a0 n c0, .slice (some ⟨b1, 0, none⟩) 32 32, .slice none 0 0]) (some 18) rfl rfl (by kernel_rfl) (by kernel_rfl) (by kernel_rfl) (by kernel_rfl) (fun _ _ _ h => h) (Or.inl ⟨by kernel_rfl, by intro u hSu; go_simp⟩) hS ?_
        try simp only [Act.put, List.setIfInBounds_toArray, List.set_cons_zero, List.set_cons_succ]
        refine wpAnyE_ready (rs := [6]) (by kernel_rfl) (by simp) ?_
        refine AllReadyE.last rfl (fun Kq hK => ?_)
        obtain ⟨y0, y1, y2, y3, y4⟩ := hBx
        go_simp
        refine hK.out _ _ ?_
        clear hK Kq hS
        refine wpAnyE_done (by kernel_rfl) ?_ _
        go_simp
        have hNk := Nk.made (M := W.heap.size) (w := W) 2 0 _ rfl hB (z0 := .int .i64 0) (z1 := .int .i64 0) (z2 := .slice none 0 0) (z3 := .slice none 0 0) (z4 := .slice none 0 0) ⟨y0, y1, y2, y3, y4⟩ hBf hLc hLf hOw (c0 := c0) (by omega) (by omega) (by omega) (by omega) (by omega) (by omega) (Nat.le_refl _)
        clear y0 y1 y2 y3 y4
        go_wp2_with fail
        go_meet
        exact ⟨B, b1, _, _, a0, c0, rfl, hNk⟩
    · have hzL := hB.size
      refine step_al5 _ (some 4) rfl rfl rfl (fun B w1 hBl hBx hBf hbw1 => ?_)
      have hBt : B < w1.heap.size := Go.block_lt_of_cell hBx.1
      have hB9 := below_then hB hbw1
      have hzw1 := hbw1.size
      clear hB
      have hB := hB9
      clear hB9
      refine hK.out _ _ hB (fun hS9 => ?_)
      try simp only [Act.put, List.setIfInBounds_toArray, List.set_cons_zero, List.set_cons_succ]
      clear hK Kq hS
      have hS := hS9
      clear hS9
      refine wpAnyE_ready (rs := [0, 3]) (by kernel_rfl) (by simp) ?_
      refine AllReadyE.cons rfl (fun Kq hK => ?_) (AllReadyE.cons rfl (fun Kq hK => ?_) AllReadyE.nil)
      · refine step_bs0C _ (some 14) rfl rfl rfl (fun p w2 hbw2 => ?_)
        have hB9 := below_then hB hbw2
        have hzw2 := hbw2.size
        replace hBf : ∀ i, w2.frozen? ⟨B, i, none⟩ = false := fun i => (hbw2.frozen (p := ⟨B, i, none⟩) (by have := Go.block_lt_of_cell hBx.1; exact this)).trans (hBf i)
        replace hBx := hBx.below hbw2
        clear hB
        have hB := hB9
        clear hB9
        refine hK.out _ _ hB (fun hS9 => ?_)
        try simp only [Act.put, List.setIfInBounds_toArray, List.set_cons_zero, List.set_cons_succ]
        clear hK Kq hS
        have hS := hS9
        clear hS9
        refine wpAnyE_ready (rs := [2, 3]) (by kernel_rfl) (by simp) ?_
        refine AllReadyE.cons rfl (fun Kq hK => ?_) (AllReadyE.cons rfl (fun Kq hK => ?_) AllReadyE.nil)
        · have hzA := hB.size
          refine step_app0C _ (some 16) rfl rfl (.tmp 14) (.tmp 15) rfl p rfl a n cap K V rfl (HCW.out.below hB) (by omega) (fun v w3 hN hbw3 => ?_)
          obtain ⟨a0, c0, rfl, hnc, hOw⟩ := hN
          have hzA2 := hOw.1
          have hB9 := below_then hB hbw3
          have hzw3 := hbw3.size
          replace hBf : ∀ i, w3.frozen? ⟨B, i, none⟩ = false := fun i => (hbw3.frozen (p := ⟨B, i, none⟩) (by have := Go.block_lt_of_cell hBx.1; exact this)).trans (hBf i)
          replace hBx := hBx.below hbw3
          clear hB
          have hB := hB9
          clear hB9
          refine hK.out _ _ hB (fun hS9 => ?_)
          try simp only [Act.put, List.setIfInBounds_toArray, List.set_cons_zero, List.set_cons_succ]
          clear hK Kq hS
          have hS := hS9
          clear hS9
          refine wpAnyE_ready (rs := [3]) (by kernel_rfl) (by simp) ?_
          refine AllReadyE.cons rfl (fun Kq hK => ?_) AllReadyE.nil
          have hzM := hB.size
          refine step_mk32 _ (some 17) rfl rfl rfl (fun b1 w4 hb1 hLc hLf hbw4 => ?_)
          have hLc0 := hLc 0 (by omega)
          have hb1t : b1 < w4.heap.size := Go.block_lt_of_cell hLc0
          have hB9 := below_then hB hbw4
          have hzw4 := hbw4.size
          replace hBf : ∀ i, w4.frozen? ⟨B, i, none⟩ = false := fun i => (hbw4.frozen (p := ⟨B, i, none⟩) (by have := Go.block_lt_of_cell hBx.1; exact this)).trans (hBf i)
          replace hBx := hBx.below hbw4
          replace hOw := hOw.below hbw4
          clear hB
          have hB := hB9
          clear hB9
          refine hK.out _ _ hB (fun hS9 => ?_)
          try simp only [Act.put, List.setIfInBounds_toArray, List.set_cons_zero, List.set_cons_succ]
          clear hK Kq hS
          have hS := hS9
          clear hS9
          refine wpAnyE_takeD (i := 4) (v := .agg #[.int .i64 2, .int .i64 0, .slice a0 n c0, .slice (some ⟨b1, 0, none⟩) 32 32, .slice none 0 0]) (some 18) rfl rfl (by kernel_rfl) (by kernel_rfl) (by kernel_rfl) (by kernel_rfl) (fun _ _ _ h => h) (Or.inl ⟨by kernel_rfl, by intro u hSu; go_simp⟩) hS ?_
          try simp only [Act.put, List.setIfInBounds_toArray, List.set_cons_zero, List.set_cons_succ]
          refine wpAnyE_ready (rs := [6]) (by kernel_rfl) (by simp) ?_
          refine AllReadyE.last rfl (fun Kq hK => ?_)
          obtain ⟨y0, y1, y2, y3, y4⟩ := hBx
          go_simp
          refine hK.out _ _ ?_
          clear hK Kq hS
          refine wpAnyE_done (by kernel_rfl) ?_ _
          go_simp
          have hNk := Nk.made (M := W.heap.size) (w := W) 2 0 _ rfl hB (z0 := .int .i64 0) (z1 := .int .i64 0) (z2 := .slice none 0 0) (z3 := .slice none 0 0) (z4 := .slice none 0 0) ⟨y0, y1, y2, y3, y4⟩ hBf hLc hLf hOw (c0 := c0) (by omega) (by omega) (by omega) (by omega) (by omega) (by omega) (Nat.le_refl _)
          clear y0 y1 y2 y3 y4
          go_wp2_with fail
          go_meet
          exact ⟨B, b1, _, _, a0, c0, rfl, hNk⟩
        · have hzM := hB.size
          refine step_mk32 _ (some 17) rfl rfl rfl (fun b1 w3 hb1 hLc hLf hbw3 => ?_)
          have hLc0 := hLc 0 (by omega)
          have hb1t : b1 < w3.heap.size := Go.block_lt_of_cell hLc0
          have hB9 := below_then hB hbw3
          have hzw3 := hbw3.size
          replace hBf : ∀ i, w3.frozen? ⟨B, i, none⟩ = false := fun i => (hbw3.frozen (p := ⟨B, i, none⟩) (by have := Go.block_lt_of_cell hBx.1; exact this)).trans (hBf i)
          replace hBx := hBx.below hbw3
          clear hB
          have hB := hB9
          clear hB9
          refine hK.out _ _ hB (fun hS9 => ?_)
          try simp only [Act.put, List.setIfInBounds_toArray, List.set_cons_zero, List.set_cons_succ]
          clear hK Kq hS
          have hS := hS9
          clear hS9
          refine wpAnyE_ready (rs := [2]) (by kernel_rfl) (by simp) ?_
          refine AllReadyE.cons rfl (fun Kq hK => ?_) AllReadyE.nil
          have hzA := hB.size
          refine step_app0C _ (some 16) rfl rfl (.tmp 14) (.tmp 15) rfl p rfl a n cap K V rfl (HCW.out.below hB) (by omega) (fun v w4 hN hbw4 => ?_)
          obtain ⟨a0, c0, rfl, hnc, hOw⟩ := hN
          have hzA2 := hOw.1
          have hB9 := below_then hB hbw4
          have hzw4 := hbw4.size
          replace hBf : ∀ i, w4.frozen? ⟨B, i, none⟩ = false := fun i => (hbw4.frozen (p := ⟨B, i, none⟩) (by have := Go.block_lt_of_cell hBx.1; exact this)).trans (hBf i)
          replace hBx := hBx.below hbw4
          replace hLc : ∀ i, i < 32 → w4.cell? ⟨b1, i, none⟩ = some (.int .i64 0) := fun i hi => cell_below (hLc i hi) hbw4
          replace hLf : ∀ i, w4.frozen? ⟨b1, i, none⟩ = false := fun i => (hbw4.frozen (p := ⟨b1, i, none⟩) (by have := Go.block_lt_of_cell (hLc0); exact this)).trans (hLf i)
          replace hLc0 := hLc 0 (by omega)
          clear hB
          have hB := hB9
          clear hB9
          refine hK.out _ _ hB (fun hS9 => ?_)
          try simp only [Act.put, List.setIfInBounds_toArray, List.set_cons_zero, List.set_cons_succ]
          clear hK Kq hS
          have hS := hS9
          clear hS9
          refine wpAnyE_takeD (i := 4) (v := .agg #[.int .i64 2, .int .i64 0, .slice a0 n c0, .slice (some ⟨b1, 0, none⟩) 32 32, .slice none 0 0]) (some 18) rfl rfl (by kernel_rfl) (by kernel_rfl) (by kernel_rfl) (by kernel_rfl) (fun _ _ _ h => h) (Or.inl ⟨by kernel_rfl, by intro u hSu; go_simp⟩) hS ?_
          try simp only [Act.put, List.setIfInBounds_toArray, List.set_cons_zero, List.set_cons_succ]
          refine wpAnyE_ready (rs := [6]) (by kernel_rfl) (by simp) ?_
          refine AllReadyE.last rfl (fun Kq hK => ?_)
          obtain ⟨y0, y1, y2, y3, y4⟩ := hBx
          go_simp
          refine hK.out _ _ ?_
          clear hK Kq hS
          refine wpAnyE_done (by kernel_rfl) ?_ _
          go_simp
          have hNk := Nk.made (M := W.heap.size) (w := W) 2 0 _ rfl hB (z0 := .int .i64 0) (z1 := .int .i64 0) (z2 := .slice none 0 0) (z3 := .slice none 0 0) (z4 := .slice none 0 0) ⟨y0, y1, y2, y3, y4⟩ hBf hLc hLf hOw (c0 := c0) (by omega) (by omega) (by omega) (by omega) (by omega) (by omega) (Nat.le_refl _)
          clear y0 y1 y2 y3 y4
          go_wp2_with fail
          go_meet
          exact ⟨B, b1, _, _, a0, c0, rfl, hNk⟩
      · have hzM := hB.size
        refine step_mk32 _ (some 17) rfl rfl rfl (fun b1 w2 hb1 hLc hLf hbw2 => ?_)
        have hLc0 := hLc 0 (by omega)
        have hb1t : b1 < w2.heap.size := Go.block_lt_of_cell hLc0
        have hB9 := below_then hB hbw2
        have hzw2 := hbw2.size
        replace hBf : ∀ i, w2.frozen? ⟨B, i, none⟩ = false := fun i => (hbw2.frozen (p := ⟨B, i, none⟩) (by have := Go.block_lt_of_cell hBx.1; exact this)).trans (hBf i)
        replace hBx := hBx.below hbw2
        clear hB
        have hB := hB9
        clear hB9
        refine hK.out _ _ hB (fun hS9 => ?_)
        try simp only [Act.put, List.setIfInBounds_toArray, List.set_cons_zero, List.set_cons_succ]
        clear hK Kq hS
        have hS := hS9
        clear hS9
        refine wpAnyE_ready (rs := [0]) (by kernel_rfl) (by simp) ?_
        refine AllReadyE.cons rfl (fun Kq hK => ?_) AllReadyE.nil
        refine step_bs0C _ (some 14) rfl rfl rfl (fun p w3 hbw3 => ?_)
        have hB9 := below_then hB hbw3
        have hzw3 := hbw3.size
        replace hBf : ∀ i, w3.frozen? ⟨B, i, none⟩ = false := fun i => (hbw3.frozen (p := ⟨B, i, none⟩) (by have := Go.block_lt_of_cell hBx.1; exact this)).trans (hBf i)
        replace hBx := hBx.below hbw3
        replace hLc : ∀ i, i < 32 → w3.cell? ⟨b1, i, none⟩ = some (.int .i64 0) := fun i hi => cell_below (hLc i hi) hbw3
        replace hLf : ∀ i, w3.frozen? ⟨b1, i, none⟩ = false := fun i => (hbw3.frozen (p := ⟨b1, i, none⟩) (by have := Go.block_lt_of_cell (hLc0); exact this)).trans (hLf i)
        replace hLc0 := hLc 0 (by omega)
        clear hB
        have hB := hB9
        clear hB9
        refine hK.out _ _ hB (fun hS9 => ?_)
        try simp only [Act.put, List.setIfInBounds_toArray, List.set_cons_zero, List.set_cons_succ]
        clear hK Kq hS
        have hS := hS9
        clear hS9
        refine wpAnyE_ready (rs := [2]) (by kernel_rfl) (by simp) ?_
        refine AllReadyE.cons rfl (fun Kq hK => ?_) AllReadyE.nil
        have hzA := hB.size
        refine step_app0C _ (some 16) rfl rfl (.tmp 14) (.tmp 15) rfl p rfl a n cap K V rfl (HCW.out.below hB) (by omega) (fun v w4 hN hbw4 => ?_)
        obtain ⟨a0, c0, rfl, hnc, hOw⟩ := hN
        have hzA2 := hOw.1
        have hB9 := below_then hB hbw4
        have hzw4 := hbw4.size
        replace hBf : ∀ i, w4.frozen? ⟨B, i, none⟩ = false := fun i => (hbw4.frozen (p := ⟨B, i, none⟩) (by have := Go.block_lt_of_cell hBx.1; exact this)).trans (hBf i)
        replace hBx := hBx.below hbw4
        replace hLc : ∀ i, i < 32 → w4.cell? ⟨b1, i, none⟩ = some (.int .i64 0) := fun i hi => cell_below (hLc i hi) hbw4
        replace hLf : ∀ i, w4.frozen? ⟨b1, i, none⟩ = false := fun i => (hbw4.frozen (p := ⟨b1, i, none⟩) (by have := Go.block_lt_of_cell (hLc0); exact this)).trans (hLf i)
        replace hLc0 := hLc 0 (by omega)
        clear hB
        have hB := hB9
        clear hB9
        refine hK.out _ _ hB (fun hS9 => ?_)
        try simp only [Act.put, List.setIfInBounds_toArray, List.set_cons_zero, List.set_cons_succ]
        clear hK Kq hS
        have hS := hS9
        clear hS9
        refine wpAnyE_takeD (i := 4) (v := .agg #[.int .i64 2, .int .i64 0, .slice a0 n c0, .slice (some ⟨b1, 0, none⟩) 32 32, .slice none 0 0]) (some 18) rfl rfl (by kernel_rfl) (by kernel_rfl) (by kernel_rfl) (by kernel_rfl) (fun _ _ _ h => h) (Or.inl ⟨by kernel_rfl, by intro u hSu; go_simp⟩) hS ?_
        try simp only [Act.put, List.setIfInBounds_toArray, List.set_cons_zero, List.set_cons_succ]
        refine wpAnyE_ready (rs := [6]) (by kernel_rfl) (by simp) ?_
        refine AllReadyE.last rfl (fun Kq hK => ?_)
        obtain ⟨y0, y1, y2, y3, y4⟩ := hBx
        go_simp
        refine hK.out _ _ ?_
        clear hK Kq hS
        refine wpAnyE_done (by kernel_rfl) ?_ _
        go_simp
        have hNk := Nk.made (M := W.heap.size) (w := W) 2 0 _ rfl hB (z0 := .int .i64 0) (z1 := .int .i64 0) (z2 := .slice none 0 0) (z3 := .slice none 0 0) (z4 := .slice none 0 0) ⟨y0, y1, y2, y3, y4⟩ hBf hLc hLf hOw (c0 := c0) (by omega) (by omega) (by omega) (by omega) (by omega) (by omega) (Nat.le_refl _)
        clear y0 y1 y2 y3 y4
        go_wp2_with fail
        go_meet
        exact ⟨B, b1, _, _, a0, c0, rfl, hNk⟩
  case rest =>
  obtain ⟨B, b1, l1, h1, a0, c0, rfl, hNk⟩ := hcut
  have HN0 : Hid (Nk W.heap.size W wc B b1 l1 h1 a0 c0 n K V (lsF K 0) 2 0) := hNk
  clear hNk
  go_wp2_with fail
  go_loopw [5] (fun i wr => ∃ k : Nat, k ≤ n ∧ i = .int .i64 k ∧ Hid (Nk W.heap.size W wr B b1 l1 h1 a0 c0 n K V (lsF K k) 2 (if k = 0 then 0 else 1))) (fun i _ => n - (intOf i).toNat)
  case atStart => exact ⟨0, Nat.zero_le _, rfl, HN0⟩
  case round =>
    obtain ⟨k, hk, rfl, HN⟩ := hrel
    by_cases hlt : k < n
    · have hlt' : (k : Int) < (n : Int) := by omega
      have hk0 : (0 : Int) ≤ (k : Int) := by omega
      rcases HCW.out.below HN.out.below with h | ⟨b, off, rfl, hl, hkc, -⟩
      · omega
      have hbW : b < W.heap.size := by
        rcases HCW.out with h | ⟨b', off', e, hl', _, _⟩
        · omega
        · simp only [Option.some.injEq, Addr.mk.injEq, and_true] at e; omega
      have q0 := hkc k hlt
      obtain ⟨j, hj, ej⟩ := HK.out k hlt
      rw [ej] at q0
      obtain ⟨y0, y1, y2, y3, y4⟩ := HN.out.b
      have hlj := HN.out.l j hj
      have hlf := HN.out.lf
      have hbf := HN.out.bf
      have hne := HN.out.ne
      have hnb : b1 ≠ b := by have := HN.out.hb1; omega
      have hnB : B ≠ b := by have := HN.out.hB; omega
      have hj1 : (j : Int) < 32 := by omega
      have hj0 : (0 : Int) ≤ (j : Int) := by omega
      have HN2 : Hid (Nk W.heap.size W ((wr.drew.setCell ⟨b1, j, none⟩ (.int .i64 1)).setCell ⟨B, 1, none⟩ (.int .i64 1)) B b1 l1 h1 a0 c0 n K V (lsF K (k + 1)) 2 1) := by
        have e1 : lsF K (k + 1) = upf9 (lsF K k) j 1 := by show upf9 (lsF K k) (K k).toNat 1 = _; rw [ej]; rfl
        rw [e1]
        exact ((HN.out.mono ((Below.refl _ _).drew)).last hj 1).clock 1
      have hb0 : wr.drew.cell? ⟨b1, j, none⟩ = some (.int .i64 (lsF K k j)) := hlj
      generalize lsF K k j = old at *
      clear hkc
      have hne' : b1 ≠ B := Ne.symm hne
      have hnb' : b ≠ b1 := Ne.symm hnb
      go_wp2_with fail
      go_region_held3 (fun w' => w'.cell? ⟨B, 3, none⟩ = some (.slice (some ⟨b1, 0, none⟩) 32 32) ∧ w'.cell? ⟨b, off + k * 2, none⟩ = some (.int .i64 (j : Int))) (go_keep) (fail)
      go_wp2_with fail
      go_roundw
      case rel => exact ⟨k + 1, hlt, by go_num, by rw [if_neg (by omega)]; exact HN2⟩
      case measure => simp [intOf]; omega
    · have hkn : k = n := by omega
      subst hkn
      obtain ⟨y0, y1, y2, y3, y4⟩ := HN.out.b
      have hnl : ¬ ((k : Int) < (k : Int)) := by omega
      have hbw := HN.out.below
      replace s0 := cell_below s0 hbw
      replace s1 := cell_below s1 hbw
      replace s2 := cell_below s2 hbw
      replace s3 := cell_below s3 hbw
      replace s4 := cell_below s4 hbw
      replace s5 := cell_below s5 hbw
      replace s6 := cell_below s6 hbw
      replace s7 := cell_below s7 hbw
      replace sf : ∀ i, wr.frozen? ⟨w.heap.size, i, none⟩ = false := fun i => (hbw.frozen (p := ⟨w.heap.size, i, none⟩) hzW).trans (sf i)
      clear hbw
      have HFIN : Hid (∀ w7, Writes w.heap.size (w.heap.size + 1) wr w7 → w7.heap.size = wr.heap.size → NRes9 0 (ncT k K V) w (.returned (.agg #[.int .i64 0, .int .i64 0, .slice none 0 0, .int .i64 2, .int .i64 (if k = 0 then 0 else 1), .slice a0 k c0, .slice (some ⟨b1, 0, none⟩) 32 32, .slice none 0 0])) w7) := fun w7 h e => Nk.fin HN.out rfl HBW.out hzW h e
      generalize (if k = 0 then (0 : Int) else 1) = ck at *
      go_wp2_with fail
      rw [HR2.out, HNC.out]
      refine bodyPost_ret (v := .agg #[.int .i64 0, .int .i64 0, .slice none 0 0, .int .i64 2, .int .i64 ck, .slice a0 k c0, .slice (some ⟨b1, 0, none⟩) 32 32, .slice none 0 0]) (by simp [results, Try.results24, go_sem, s0, s1, s2, s3, s4, s5, s6, s7]) rfl ?_
      refine HFIN.out _ ?_ (by simp [World.setCell])
      repeat (first | with_reducible exact Writes.refl _ _ _ | with_reducible refine Writes.setCell ?_ (by first | omega | (simp <;> omega)) (by first | omega | (simp <;> omega)) _)
end Go.Proofs.Ytenglcgkachomaa
