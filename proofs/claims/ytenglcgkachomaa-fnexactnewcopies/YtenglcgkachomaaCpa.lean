/- Copies in memory: what they hold, sizes, copies, equal, opened. -/
import Derived.Test.YtenglcgkachomaaCda
namespace Go.Proofs.Ytenglcgkachomaa
open Go.ChangeShapes Go.WideShapes Go.ChangeAt Go.RowKit Go.Deep Go.Joins
set_option linter.unusedVariables false
set_option maxRecDepth 20000

structure Cs where
  nx : Int
  ck : Int
  wn : Nat
  wK : Nat → Int
  wV : Nat → Int
  ln : Nat
  lF : Nat → Int
  tn : Nat
  tT : Nat → Cd
def zCs : Cs := ⟨0, 0, 0, fun _ => 0, fun _ => 0, 0, fun _ => 0, 0, fun _ => zCd⟩
def BigCs (t : Cs) : Prop := (t.wn ≤ 9223372036854775807) ∧ (t.ln ≤ 9223372036854775807) ∧ (t.tn ≤ 9223372036854775807 ∧ (∀ i, i < t.tn → BigCd (t.tT i)))
def SmCs (t : Cs) : Prop := (t.wn ≤ 1048576) ∧ (t.ln ≤ 1048576) ∧ (t.tn ≤ 1048576 ∧ (∀ i, i < t.tn → SmCd (t.tT i)))
/-- How many elements its slices have. -/
def szCs (t : Cs) : Nat := t.wn + t.ln + (t.tn + smCd t.tT t.tn)
/-- What its slices hold. -/
def InCs (w : World) (a0 a1 a2 : Option Addr) (t : Cs) : Prop := CellsAt w a0 t.wn t.wK t.wV ∧ IntsAt w a1 t.ln t.lF ∧ CdsAt w a2 t.tn t.tT
theorem InCs.below {w w' : World} {a0 a1 a2 : Option Addr} {t : Cs} (h : InCs w a0 a1 a2 t) (hb : Below w.heap.size w w') : InCs w' a0 a1 a2 t := by
  obtain ⟨h0, h1, h2⟩ := h
  exact ⟨h0.below hb, h1.below hb, h2.below hb⟩
/-- The cells of one. -/
def CCs (w : World) (b o : Nat) (t : Cs) (a0 : Option Addr) (c0 : Nat) (a1 : Option Addr) (c1 : Nat) (a2 : Option Addr) (c2 : Nat) : Prop :=
  w.cell? ⟨b, o, none⟩ = some (.int .i64 t.nx) ∧ w.cell? ⟨b, o + 1, none⟩ = some (.int .i64 t.ck) ∧ w.cell? ⟨b, o + 2, none⟩ = some (.slice a0 t.wn c0) ∧ w.cell? ⟨b, o + 3, none⟩ = some (.slice a1 t.ln c1) ∧ w.cell? ⟨b, o + 4, none⟩ = some (.slice a2 t.tn c2)
theorem CCs.block {w w' : World} {b o : Nat} {t : Cs} {a0 a1 a2 : Option Addr} {c0 c1 c2 : Nat} (h : CCs w b o t a0 c0 a1 c1 a2 c2) (e : w'.heap[b]? = w.heap[b]?) : CCs w' b o t a0 c0 a1 c1 a2 c2 := by
  have g : ∀ i, w'.cell? ⟨b, i, none⟩ = w.cell? ⟨b, i, none⟩ := fun i => World.cell?_of_block (w := w) (a := ⟨b, i, none⟩) e
  obtain ⟨h0, h1, h2, h3, h4⟩ := h
  exact ⟨(g _).trans h0, (g _).trans h1, (g _).trans h2, (g _).trans h3, (g _).trans h4⟩
/-- In blocks of their own, one behind the other, from l on, below h. -/
def OwnInCs (w : World) (l h : Nat) (a0 a1 a2 : Option Addr) (t : Cs) : Prop := ∃ m0 m1 m2 m3, l ≤ m0 ∧ m0 ≤ m1 ∧ m1 ≤ m2 ∧ m2 ≤ m3 ∧ m3 ≤ h ∧ h ≤ w.heap.size ∧ Own w m0 m1 a0 t.wn t.wK t.wV ∧ OwnI w m1 m2 a1 t.ln t.lF ∧ OwnCd w m2 m3 a2 t.tn t.tT
theorem OwnInCs.writes {w w' : World} {l h lo' hi' : Nat} {a0 a1 a2 : Option Addr} {t : Cs} (k : OwnInCs w l h a0 a1 a2 t) (hw : Writes lo' hi' w w') (hd : h ≤ lo' ∨ hi' ≤ l) : OwnInCs w' l h a0 a1 a2 t := by
  obtain ⟨m0, m1, m2, m3, g0, g1, g2, g3, g4, gz, k0, k1, k2⟩ := k
  exact ⟨m0, m1, m2, m3, g0, g1, g2, g3, g4, Nat.le_trans gz hw.size, k0.writes hw (by omega), k1.writes hw (by omega), k2.writes hw (by omega)⟩
theorem OwnInCs.lt {w : World} {l h : Nat} {a0 a1 a2 : Option Addr} {t : Cs} (k : OwnInCs w l h a0 a1 a2 t) : l ≤ h ∧ h ≤ w.heap.size := by
  obtain ⟨m0, m1, m2, m3, g0, g1, g2, g3, g4, gz, k0, k1, k2⟩ := k
  exact ⟨by omega, gz⟩
theorem OwnInCs.at {w : World} {l h : Nat} {a0 a1 a2 : Option Addr} {t : Cs} (k : OwnInCs w l h a0 a1 a2 t) : InCs w a0 a1 a2 t := by
  obtain ⟨m0, m1, m2, m3, g0, g1, g2, g3, g4, gz, k0, k1, k2⟩ := k
  exact ⟨k0.at, k1.at, k2.at⟩
theorem OwnInCs.below {w w' : World} {l h : Nat} {a0 a1 a2 : Option Addr} {t : Cs} (k : OwnInCs w l h a0 a1 a2 t) (hb : Below w.heap.size w w') : OwnInCs w' l h a0 a1 a2 t :=
  k.writes (Writes.of_below (lo := h) (hi := h) hb) (.inl (Nat.le_refl _))
theorem OwnInCs.wide {w : World} {l h l' h' : Nat} {a0 a1 a2 : Option Addr} {t : Cs} (k : OwnInCs w l h a0 a1 a2 t) (h1 : l' ≤ l) (h2 : h ≤ h') (h3 : h' ≤ w.heap.size) : OwnInCs w l' h' a0 a1 a2 t := by
  obtain ⟨m0, m1, m2, m3, g0, g1, g2, g3, g4, gz, k0, k1, k2⟩ := k
  exact ⟨m0, m1, m2, m3, by omega, by omega, by omega, by omega, by omega, h3, k0, k1, k2⟩
/-! ### sizes -/
set_option maxHeartbeats 1000000 in
theorem szCopies_any (t : Cs) (a0 : Option Addr) (c0 : Nat) (a1 : Option Addr) (c1 : Nat) (a2 : Option Addr) (c2 : Nat) (x : Int) (w : World) (hB : BigCs t) (h0 : 0 ≤ x) (h1 : x ≤ 1048576) (h : InCs w a0 a1 a2 t) :
    Calls Try.prog 18 #[.agg #[.int .i64 t.nx, .int .i64 t.ck, .slice a0 t.wn c0, .slice a1 t.ln c1, .slice a2 t.tn c2], .int .i64 x] w fun e w' => Below w.heap.size w w' ∧ ∃ r : Int, e = .returned (.int .i64 r) ∧ (r = -1 ∨ (0 ≤ r ∧ r = x - szCs t)) := by
  obtain ⟨hB0, hB1, hB2⟩ := hB
  have HA : Hid (InCs w a0 a1 a2 t) := h
  have HZ : Hid (szCs t = t.wn + t.ln + (t.tn + smCd t.tT t.tn)) := rfl
  clear h
  go_enter Try.func18, Try.ntmps18
  go_wp2_with fail
  refine (szCellS_r t.wn a0 c0 x _ hB0 (by omega) (by omega)).mono ?_
  rintro e w1 ⟨hb, r0, rfl, hr⟩
  have HB1 : Hid (Below w.heap.size w w1) := below_then (below_new _ _) hb
  have q1 : w1.cell? ⟨w.heap.size, 3, none⟩ = some (.slice a1 t.ln c1) := by rw [(bcell29 hb).1 _ _ (by simp)]; simp [go_sem]
  have q2 : w1.cell? ⟨w.heap.size, 4, none⟩ = some (.slice a2 t.tn c2) := by rw [(bcell29 hb).1 _ _ (by simp)]; simp [go_sem]
  clear hb
  rcases hr with rfl | ⟨hr0, hr1⟩
  · go_wp2_with fail
    go_ret
    exact ⟨HB1.out, _, rfl, .inl rfl⟩
  have hng0 : ¬ r0 < 0 := by omega
  have HR0 : Hid (r0 = x - t.wn) := hr1
  have hle0 : r0 ≤ 1048576 := by omega
  clear hr1
  go_wp2_with fail
  refine (szInt64S_r t.ln a1 c1 r0 _ hB1 (by omega) (by omega)).mono ?_
  rintro e w2 ⟨hb, r1, rfl, hr⟩
  have HB2 : Hid (Below w.heap.size w w2) := below_then HB1.out hb
  replace q2 := cell_below q2 hb
  clear hb
  rcases hr with rfl | ⟨hr0, hr1⟩
  · go_wp2_with fail
    go_ret
    exact ⟨HB2.out, _, rfl, .inl rfl⟩
  have hng1 : ¬ r1 < 0 := by omega
  have HR1 : Hid (r1 = r0 - t.ln) := hr1
  have hle1 : r1 ≤ 1048576 := by omega
  clear hr1
  go_wp2_with fail
  refine (szCopiedS_any t.tn t.tT a2 c2 r1 _ hB2.1 hB2.2 (by omega) (by omega) ((HA.out.2.2).below HB2.out)).mono ?_
  rintro e w3 ⟨hb, r2, rfl, hr⟩
  have HB3 : Hid (Below w.heap.size w w3) := below_then HB2.out hb
  clear hb
  rcases hr with rfl | ⟨hr0, hr1⟩
  · go_wp2_with fail
    go_ret
    exact ⟨HB3.out, _, rfl, .inl rfl⟩
  have hng2 : ¬ r2 < 0 := by omega
  have HR2 : Hid (r2 = r1 - t.tn - smCd t.tT t.tn) := hr1
  have hle2 : r2 ≤ 1048576 := by omega
  clear hr1
  go_wp2_with fail
  go_ret
  exact ⟨HB3.out, _, rfl, .inr ⟨hr0, by have e0 := HR0.out; have e1 := HR1.out; have e2 := HR2.out; have ez := HZ.out; omega⟩⟩
/-! ### one copied -/
set_option maxHeartbeats 4000000 in
theorem toCopies_any (t : Cs) (a0 : Option Addr) (c0 : Nat) (a1 : Option Addr) (c1 : Nat) (a2 : Option Addr) (c2 : Nat) (w : World) (hS : SmCs t) (h : InCs w a0 a1 a2 t) :
    Calls Try.prog 20 #[.agg #[.int .i64 t.nx, .int .i64 t.ck, .slice a0 t.wn c0, .slice a1 t.ln c1, .slice a2 t.tn c2]] w fun e w' =>
      ∃ B0 B1 B2, e = .returned (.agg #[.int .i64 t.nx, .int .i64 t.ck, .slice (some ⟨B0, 0, none⟩) t.wn t.wn, .slice (some ⟨B1, 0, none⟩) t.ln t.ln, .slice (some ⟨B2, 0, none⟩) t.tn t.tn]) ∧ Below w.heap.size w w' ∧ OwnInCs w' w.heap.size w'.heap.size (some ⟨B0, 0, none⟩) (some ⟨B1, 0, none⟩) (some ⟨B2, 0, none⟩) t := by
  obtain ⟨hS0, hS1, hS2⟩ := hS
  have HA : Hid (InCs w a0 a1 a2 t) := h
  clear h
  go_enter Try.func20, Try.ntmps20
  go_wp2_with fail
  have hb0 : ∀ o1 o2 o3, Below w.heap.size w (((w.alloc o1).alloc o2).alloc o3) := fun o1 o2 o3 => (((Below.refl _ _).alloc (Nat.le_refl _) _).alloc (by simp) _).alloc (by simp; omega) _
  refine (toCellS_own t.wn t.wK t.wV a0 c0 _ hS0 ((HA.out.1).below (hb0 _ _ _))).mono ?_
  rintro e w1 ⟨B0, rfl, hb, hr⟩
  obtain ⟨hc, hf⟩ := bcell29 hb
  have hz : w.heap.size + 3 ≤ w1.heap.size := by have := hb.size; simp at this; omega
  have e3 : ∀ o1 o2 o3 : Obj, (((w.alloc o1).alloc o2).alloc o3).heap.size = w.heap.size + 3 := fun _ _ _ => by simp
  rw [e3] at hr
  have HR0 : Hid (Own w1 (w.heap.size + 3) w1.heap.size (some ⟨B0, 0, none⟩) t.wn t.wK t.wV) := hr
  have HB1 : Hid (Below w.heap.size w w1) := below_then (hb0 _ _ _) hb
  have r1 : w1.cell? ⟨w.heap.size, 3, none⟩ = some (.slice a1 t.ln c1) := by rw [hc _ _ (by simp <;> omega)]; simp [go_sem]
  have r2 : w1.cell? ⟨w.heap.size, 4, none⟩ = some (.slice a2 t.tn c2) := by rw [hc _ _ (by simp <;> omega)]; simp [go_sem]
  have s0 : w1.cell? ⟨w.heap.size + 1, 0, none⟩ = some (.int .i64 0) := by rw [hc _ _ (by simp <;> omega)]; simp [go_sem]
  have s1 : w1.cell? ⟨w.heap.size + 1, 1, none⟩ = some (.int .i64 0) := by rw [hc _ _ (by simp <;> omega)]; simp [go_sem]
  have s2 : w1.cell? ⟨w.heap.size + 1, 2, none⟩ = some (.slice none 0 0) := by rw [hc _ _ (by simp <;> omega)]; simp [go_sem]
  have s3 : w1.cell? ⟨w.heap.size + 1, 3, none⟩ = some (.slice none 0 0) := by rw [hc _ _ (by simp <;> omega)]; simp [go_sem]
  have s4 : w1.cell? ⟨w.heap.size + 1, 4, none⟩ = some (.slice none 0 0) := by rw [hc _ _ (by simp <;> omega)]; simp [go_sem]
  have x0 : w1.cell? ⟨w.heap.size + 2, 0, none⟩ = some (.int .i64 t.nx) := by rw [hc _ _ (by simp <;> omega)]; simp [go_sem]
  have x1 : w1.cell? ⟨w.heap.size + 2, 1, none⟩ = some (.int .i64 t.ck) := by rw [hc _ _ (by simp <;> omega)]; simp [go_sem]
  have x2 : w1.cell? ⟨w.heap.size + 2, 2, none⟩ = some (.slice none 0 0) := by rw [hc _ _ (by simp <;> omega)]; simp [go_sem]
  have x3 : w1.cell? ⟨w.heap.size + 2, 3, none⟩ = some (.slice none 0 0) := by rw [hc _ _ (by simp <;> omega)]; simp [go_sem]
  have x4 : w1.cell? ⟨w.heap.size + 2, 4, none⟩ = some (.slice none 0 0) := by rw [hc _ _ (by simp <;> omega)]; simp [go_sem]
  have f1 : ∀ i, w1.frozen? ⟨w.heap.size + 1, i, none⟩ = false := fun i => by rw [hf _ _ (by simp <;> omega)]; simp [go_sem]
  have f2 : ∀ i, w1.frozen? ⟨w.heap.size + 2, i, none⟩ = false := fun i => by rw [hf _ _ (by simp <;> omega)]; simp [go_sem]
  clear hc hf hb hr e3 hb0
  go_upto_region 5 with fail
  obtain ⟨W1, hW⟩ : ∃ y, y = w1.setCell ⟨w.heap.size + 2, 2, none⟩ (.slice (some ⟨B0, 0, none⟩) t.wn t.wn) := ⟨_, rfl⟩
  replace x0 : W1.cell? ⟨w.heap.size + 2, 0, none⟩ = some (.int .i64 t.nx) := by rw [hW, setO (by omega)]; exact x0
  replace x1 : W1.cell? ⟨w.heap.size + 2, 1, none⟩ = some (.int .i64 t.ck) := by rw [hW, setO (by omega)]; exact x1
  replace x2 : W1.cell? ⟨w.heap.size + 2, 2, none⟩ = some (.slice (some ⟨B0, 0, none⟩) t.wn t.wn) := by rw [hW]; exact setS x2
  replace x3 : W1.cell? ⟨w.heap.size + 2, 3, none⟩ = some (.slice none 0 0) := by rw [hW, setO (by omega)]; exact x3
  replace x4 : W1.cell? ⟨w.heap.size + 2, 4, none⟩ = some (.slice none 0 0) := by rw [hW, setO (by omega)]; exact x4
  have far : ∀ b i, b ≠ w.heap.size + 2 → W1.cell? ⟨b, i, none⟩ = w1.cell? ⟨b, i, none⟩ := fun b i hne => by rw [hW]; exact World.cell?_setCell_far _ _ _ _ (Ne.symm hne)
  replace r1 := (far _ _ (by omega)).trans r1
  replace r2 := (far _ _ (by omega)).trans r2
  replace s0 := (far _ _ (by omega)).trans s0
  replace s1 := (far _ _ (by omega)).trans s1
  replace s2 := (far _ _ (by omega)).trans s2
  replace s3 := (far _ _ (by omega)).trans s3
  replace s4 := (far _ _ (by omega)).trans s4
  replace f1 : ∀ i, W1.frozen? ⟨w.heap.size + 1, i, none⟩ = false := fun i => by rw [hW, World.frozen?_setCell]; exact f1 i
  replace f2 : ∀ i, W1.frozen? ⟨w.heap.size + 2, i, none⟩ = false := fun i => by rw [hW, World.frozen?_setCell]; exact f2 i
  have hsz1 : W1.heap.size = w1.heap.size := by rw [hW]; simp [World.setCell]
  have HW : Hid (Writes (w.heap.size) (w.heap.size + 3) w1 W1) := by rw [hW]; exact (Writes.refl _ _ _).setCell (by simp) (by simp) _
  rw [← hW]
  clear hW far
  replace HB1 : Hid (Below w.heap.size w W1) := HW.out.below HB1.out (Nat.le_refl _)
  replace HR0 : Hid (Own W1 (w.heap.size + 3) w1.heap.size (some ⟨B0, 0, none⟩) t.wn t.wK t.wV) := HR0.out.writes HW.out (.inr (by omega))
  clear HW
  go_wp2_with fail
  refine (toInt64S_own t.ln t.lF a1 c1 _ hS1 ((HA.out.2.1).below HB1.out)).mono ?_
  rintro e w2 ⟨B1, rfl, hb, hr⟩
  have HB2 : Hid (Below w.heap.size w w2) := below_then HB1.out hb
  rw [hsz1] at hr
  have HR1 : Hid (OwnI w2 w1.heap.size w2.heap.size (some ⟨B1, 0, none⟩) t.ln t.lF) := hr
  replace HR0 : Hid (Own w2 (w.heap.size + 3) w1.heap.size (some ⟨B0, 0, none⟩) t.wn t.wK t.wV) := HR0.out.below hb
  have hz1 : w1.heap.size ≤ w2.heap.size := by have := hb.size; omega
  replace x0 := cell_below x0 hb
  replace x1 := cell_below x1 hb
  replace x2 := cell_below x2 hb
  replace x3 := cell_below x3 hb
  replace x4 := cell_below x4 hb
  replace s0 := cell_below s0 hb
  replace s1 := cell_below s1 hb
  replace s2 := cell_below s2 hb
  replace s3 := cell_below s3 hb
  replace s4 := cell_below s4 hb
  replace r2 := cell_below r2 hb
  replace f1 : ∀ i, w2.frozen? ⟨w.heap.size + 1, i, none⟩ = false := fun i => (hb.frozen (p := ⟨_, i, none⟩) (by show w.heap.size + 1 < W1.heap.size; omega)).trans (f1 i)
  replace f2 : ∀ i, w2.frozen? ⟨w.heap.size + 2, i, none⟩ = false := fun i => (hb.frozen (p := ⟨_, i, none⟩) (by show w.heap.size + 2 < W1.heap.size; omega)).trans (f2 i)
  clear hb hr hsz1 HB1
  go_upto_region 6 with fail
  obtain ⟨W2, hW⟩ : ∃ y, y = w2.setCell ⟨w.heap.size + 2, 3, none⟩ (.slice (some ⟨B1, 0, none⟩) t.ln t.ln) := ⟨_, rfl⟩
  replace x0 : W2.cell? ⟨w.heap.size + 2, 0, none⟩ = some (.int .i64 t.nx) := by rw [hW, setO (by omega)]; exact x0
  replace x1 : W2.cell? ⟨w.heap.size + 2, 1, none⟩ = some (.int .i64 t.ck) := by rw [hW, setO (by omega)]; exact x1
  replace x2 : W2.cell? ⟨w.heap.size + 2, 2, none⟩ = some (.slice (some ⟨B0, 0, none⟩) t.wn t.wn) := by rw [hW, setO (by omega)]; exact x2
  replace x3 : W2.cell? ⟨w.heap.size + 2, 3, none⟩ = some (.slice (some ⟨B1, 0, none⟩) t.ln t.ln) := by rw [hW]; exact setS x3
  replace x4 : W2.cell? ⟨w.heap.size + 2, 4, none⟩ = some (.slice none 0 0) := by rw [hW, setO (by omega)]; exact x4
  have far : ∀ b i, b ≠ w.heap.size + 2 → W2.cell? ⟨b, i, none⟩ = w2.cell? ⟨b, i, none⟩ := fun b i hne => by rw [hW]; exact World.cell?_setCell_far _ _ _ _ (Ne.symm hne)
  replace r2 := (far _ _ (by omega)).trans r2
  replace s0 := (far _ _ (by omega)).trans s0
  replace s1 := (far _ _ (by omega)).trans s1
  replace s2 := (far _ _ (by omega)).trans s2
  replace s3 := (far _ _ (by omega)).trans s3
  replace s4 := (far _ _ (by omega)).trans s4
  replace f1 : ∀ i, W2.frozen? ⟨w.heap.size + 1, i, none⟩ = false := fun i => by rw [hW, World.frozen?_setCell]; exact f1 i
  replace f2 : ∀ i, W2.frozen? ⟨w.heap.size + 2, i, none⟩ = false := fun i => by rw [hW, World.frozen?_setCell]; exact f2 i
  have hsz2 : W2.heap.size = w2.heap.size := by rw [hW]; simp [World.setCell]
  have HW : Hid (Writes (w.heap.size) (w.heap.size + 3) w2 W2) := by rw [hW]; exact (Writes.refl _ _ _).setCell (by simp) (by simp) _
  rw [← hW]
  clear hW far
  replace HB2 : Hid (Below w.heap.size w W2) := HW.out.below HB2.out (Nat.le_refl _)
  replace HR0 : Hid (Own W2 (w.heap.size + 3) w1.heap.size (some ⟨B0, 0, none⟩) t.wn t.wK t.wV) := HR0.out.writes HW.out (.inr (by omega))
  replace HR1 : Hid (OwnI W2 w1.heap.size w2.heap.size (some ⟨B1, 0, none⟩) t.ln t.lF) := HR1.out.writes HW.out (.inr (by omega))
  clear HW
  go_wp2_with fail
  refine (toCopiedS_any t.tn t.tT a2 c2 _ hS2.1 hS2.2 ((HA.out.2.2).below HB2.out)).mono ?_
  rintro e w3 ⟨rfl, hb, hr⟩
  have HB3 : Hid (Below w.heap.size w w3) := below_then HB2.out hb
  rw [hsz2] at hr
  rw [hsz2]
  have HR2 : Hid (OwnCd w3 w2.heap.size w3.heap.size (some ⟨w2.heap.size, 0, none⟩) t.tn t.tT) := hr
  replace HR0 : Hid (Own w3 (w.heap.size + 3) w1.heap.size (some ⟨B0, 0, none⟩) t.wn t.wK t.wV) := HR0.out.below hb
  replace HR1 : Hid (OwnI w3 w1.heap.size w2.heap.size (some ⟨B1, 0, none⟩) t.ln t.lF) := HR1.out.below hb
  have hz2 : w2.heap.size ≤ w3.heap.size := by have := hb.size; omega
  replace x0 := cell_below x0 hb
  replace x1 := cell_below x1 hb
  replace x2 := cell_below x2 hb
  replace x3 := cell_below x3 hb
  replace x4 := cell_below x4 hb
  replace s0 := cell_below s0 hb
  replace s1 := cell_below s1 hb
  replace s2 := cell_below s2 hb
  replace s3 := cell_below s3 hb
  replace s4 := cell_below s4 hb
  replace f1 : ∀ i, w3.frozen? ⟨w.heap.size + 1, i, none⟩ = false := fun i => (hb.frozen (p := ⟨_, i, none⟩) (by show w.heap.size + 1 < W2.heap.size; omega)).trans (f1 i)
  replace f2 : ∀ i, w3.frozen? ⟨w.heap.size + 2, i, none⟩ = false := fun i => (hb.frozen (p := ⟨_, i, none⟩) (by show w.heap.size + 2 < W2.heap.size; omega)).trans (f2 i)
  clear hb hr hsz2 HB2
  have HWW : Hid (∀ w', Writes w.heap.size (w.heap.size + 3) w3 w' → w'.heap.size = w3.heap.size → Below w.heap.size w w' ∧ OwnInCs w' w.heap.size w'.heap.size (some ⟨B0, 0, none⟩) (some ⟨B1, 0, none⟩) (some ⟨w2.heap.size, 0, none⟩) t) := fun w' h e =>
    ⟨h.below HB3.out (Nat.le_refl _), w.heap.size + 3, w1.heap.size, w2.heap.size, w3.heap.size, by omega, by omega, by omega, by omega, by omega, Nat.le_refl _, HR0.out.writes h (.inr (by omega)), HR1.out.writes h (.inr (by omega)), HR2.out.writes h (.inr (by omega))⟩
  clear HR0 HR1 HR2
  go_wp2_with fail
  refine bodyPost_ret (v := .agg #[.int .i64 t.nx, .int .i64 t.ck, .slice (some ⟨B0, 0, none⟩) t.wn t.wn, .slice (some ⟨B1, 0, none⟩) t.ln t.ln, .slice (some ⟨w2.heap.size, 0, none⟩) t.tn t.tn]) (by simp [results, Try.results20, go_sem, s0, s1, s2, s3, s4]) rfl ⟨_, _, _, rfl, ?_⟩
  refine HWW.out _ ?_ (by simp [World.setCell])
  repeat (first | with_reducible exact Writes.refl _ _ _ | with_reducible refine Writes.setCell ?_ (by first | omega | (simp <;> omega)) (by first | omega | (simp <;> omega)) _)
/-! ### equal -/
set_option maxHeartbeats 1000000 in
theorem eqCopies_same (t : Cs) (a0 : Option Addr) (c0 : Nat) (a1 : Option Addr) (c1 : Nat) (a2 : Option Addr) (c2 : Nat) (d0 : Option Addr) (e0 : Nat) (d1 : Option Addr) (e1 : Nat) (d2 : Option Addr) (e2 : Nat) (w : World) (hS : SmCs t) (h : InCs w a0 a1 a2 t) (h' : InCs w d0 d1 d2 t) :
    Calls Try.prog 22 #[.agg #[.int .i64 t.nx, .int .i64 t.ck, .slice a0 t.wn c0, .slice a1 t.ln c1, .slice a2 t.tn c2], .agg #[.int .i64 t.nx, .int .i64 t.ck, .slice d0 t.wn e0, .slice d1 t.ln e1, .slice d2 t.tn e2]] w fun e w' => e = .returned (.bool true) ∧ Below w.heap.size w w' := by
  obtain ⟨hS0, hS1, hS2⟩ := hS
  have HA : Hid (InCs w a0 a1 a2 t) := h
  have HD : Hid (InCs w d0 d1 d2 t) := h'
  clear h h'
  have hne0 : (t.nx != t.nx) = false := by simp
  have hne1 : (t.ck != t.ck) = false := by simp
  have hb0 : ∀ o1 o2, Below w.heap.size w ((w.alloc o1).alloc o2) := fun o1 o2 => (((Below.refl _ _).alloc (Nat.le_refl _) _).alloc (by simp) _)
  go_enter Try.func22, Try.ntmps22
  go_wp2_with fail
  refine (eqCellS_any t.wn t.wK t.wV a0 d0 c0 e0 _ (by omega) ((HA.out.1).below (hb0 _ _)) ((HD.out.1).below (hb0 _ _))).mono ?_
  rintro e w1 ⟨rfl, hb⟩
  have HB1 : Hid (Below w.heap.size w w1) := below_then (hb0 _ _) hb
  have q1 : w1.cell? ⟨w.heap.size, 3, none⟩ = some (.slice a1 t.ln c1) := by rw [(bcell29 hb).1 _ _ (by simp <;> omega)]; simp [go_sem]
  have y1 : w1.cell? ⟨w.heap.size + 1, 3, none⟩ = some (.slice d1 t.ln e1) := by rw [(bcell29 hb).1 _ _ (by simp <;> omega)]; simp [go_sem]
  have q2 : w1.cell? ⟨w.heap.size, 4, none⟩ = some (.slice a2 t.tn c2) := by rw [(bcell29 hb).1 _ _ (by simp <;> omega)]; simp [go_sem]
  have y2 : w1.cell? ⟨w.heap.size + 1, 4, none⟩ = some (.slice d2 t.tn e2) := by rw [(bcell29 hb).1 _ _ (by simp <;> omega)]; simp [go_sem]
  clear hb
  clear hb0
  go_wp2_with fail
  refine (eqInt64S_any t.ln t.lF a1 d1 c1 e1 _ (by omega) ((HA.out.2.1).below HB1.out) ((HD.out.2.1).below HB1.out)).mono ?_
  rintro e w2 ⟨rfl, hb⟩
  have HB2 : Hid (Below w.heap.size w w2) := below_then HB1.out hb
  replace q2 := cell_below q2 hb
  replace y2 := cell_below y2 hb
  clear hb
  go_wp2_with fail
  refine (eqCopiedS_any t.tn t.tT a2 d2 c2 e2 _ hS2.1 hS2.2 ((HA.out.2.2).below HB2.out) ((HD.out.2.2).below HB2.out)).mono ?_
  rintro e w3 ⟨rfl, hb⟩
  have HB3 : Hid (Below w.heap.size w w3) := below_then HB2.out hb
  clear hb
  go_wp2_with fail
  go_ret
  exact ⟨rfl, HB3.out⟩
end Go.Proofs.Ytenglcgkachomaa
