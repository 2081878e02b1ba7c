/- Replies in memory: what they hold, sizes, copies, equal, opened. -/
import Derived.Test.YtfipdkhbehfohaaDoorRb
namespace Go.Proofs.YtfipdkhbehfohaaDoor
open Go.ChangeShapes Go.WideShapes Go.ChangeAt Go.RowKit Go.Deep Go.Joins
set_option linter.unusedVariables false
set_option maxRecDepth 20000

structure Rp where
  cd : Int
  vl : Int
  cn : Nat
  cK : Nat → Int
  cV : Nat → Int
def zRp : Rp := ⟨0, 0, 0, fun _ => 0, fun _ => 0⟩
def BigRp (t : Rp) : Prop := (t.cn ≤ 9223372036854775807) ∧ True
def SmRp (t : Rp) : Prop := (t.cn ≤ 1048576) ∧ True
/-- How many elements its slices have. -/
def szRp (t : Rp) : Nat := t.cn
/-- What its slices hold. -/
def InRp (w : World) (a0 : Option Addr) (t : Rp) : Prop := CellsAt w a0 t.cn t.cK t.cV ∧ True
theorem InRp.below {w w' : World} {a0 : Option Addr} {t : Rp} (h : InRp w a0 t) (hb : Below w.heap.size w w') : InRp w' a0 t := by
  obtain ⟨h0, _⟩ := h
  exact ⟨h0.below hb, trivial⟩
/-- The cells of one. -/
def CRp (w : World) (b o : Nat) (t : Rp) (a0 : Option Addr) (c0 : Nat) : Prop :=
  w.cell? ⟨b, o, none⟩ = some (.int .i64 t.cd) ∧ w.cell? ⟨b, o + 1, none⟩ = some (.int .i64 t.vl) ∧ w.cell? ⟨b, o + 2, none⟩ = some (.slice a0 t.cn c0)
theorem CRp.block {w w' : World} {b o : Nat} {t : Rp} {a0 : Option Addr} {c0 : Nat} (h : CRp w b o t a0 c0) (e : w'.heap[b]? = w.heap[b]?) : CRp w' b o t a0 c0 := by
  have g : ∀ i, w'.cell? ⟨b, i, none⟩ = w.cell? ⟨b, i, none⟩ := fun i => World.cell?_of_block (w := w) (a := ⟨b, i, none⟩) e
  obtain ⟨h0, h1, h2⟩ := h
  exact ⟨(g _).trans h0, (g _).trans h1, (g _).trans h2⟩
/-- In blocks of their own, one behind the other, from l on, below h. -/
def OwnInRp (w : World) (l h : Nat) (a0 : Option Addr) (t : Rp) : Prop := ∃ m0 m1, l ≤ m0 ∧ m0 ≤ m1 ∧ m1 ≤ h ∧ h ≤ w.heap.size ∧ Own w m0 m1 a0 t.cn t.cK t.cV
theorem OwnInRp.writes {w w' : World} {l h lo' hi' : Nat} {a0 : Option Addr} {t : Rp} (k : OwnInRp w l h a0 t) (hw : Writes lo' hi' w w') (hd : h ≤ lo' ∨ hi' ≤ l) : OwnInRp w' l h a0 t := by
  obtain ⟨m0, m1, g0, g1, g2, gz, k0⟩ := k
  exact ⟨m0, m1, g0, g1, g2, Nat.le_trans gz hw.size, k0.writes hw (by omega)⟩
theorem OwnInRp.lt {w : World} {l h : Nat} {a0 : Option Addr} {t : Rp} (k : OwnInRp w l h a0 t) : l ≤ h ∧ h ≤ w.heap.size := by
  obtain ⟨m0, m1, g0, g1, g2, gz, k0⟩ := k
  exact ⟨by omega, gz⟩
theorem OwnInRp.at {w : World} {l h : Nat} {a0 : Option Addr} {t : Rp} (k : OwnInRp w l h a0 t) : InRp w a0 t := by
  obtain ⟨m0, m1, g0, g1, g2, gz, k0⟩ := k
  exact ⟨k0.at, trivial⟩
theorem OwnInRp.below {w w' : World} {l h : Nat} {a0 : Option Addr} {t : Rp} (k : OwnInRp w l h a0 t) (hb : Below w.heap.size w w') : OwnInRp w' l h a0 t :=
  k.writes (Writes.of_below (lo := h) (hi := h) hb) (.inl (Nat.le_refl _))
theorem OwnInRp.wide {w : World} {l h l' h' : Nat} {a0 : Option Addr} {t : Rp} (k : OwnInRp w l h a0 t) (h1 : l' ≤ l) (h2 : h ≤ h') (h3 : h' ≤ w.heap.size) : OwnInRp w l' h' a0 t := by
  obtain ⟨m0, m1, g0, g1, g2, gz, k0⟩ := k
  exact ⟨m0, m1, by omega, by omega, by omega, h3, k0⟩
/-- The slice at 'a' has the n replies T. -/
def RpsAt (w : World) (a : Option Addr) (n : Nat) (T : Nat → Rp) : Prop :=
  n = 0 ∨ ∃ b off, a = some ⟨b, off, none⟩ ∧ b < w.heap.size ∧ ∀ i, i < n → ∃ a0 c0, CRp w b (off + i * 3) (T i) a0 c0 ∧ InRp w a0 (T i) ∧ (T i).cn ≤ c0
theorem RpsAt.below {w w' : World} {a : Option Addr} {n : Nat} {T : Nat → Rp} (h : RpsAt w a n T) (hb : Below w.heap.size w w') : RpsAt w' a n T := by
  rcases h with h | ⟨b, off, ha, hl, hc⟩
  · exact .inl h
  · refine .inr ⟨b, off, ha, Nat.lt_of_lt_of_le hl hb.size, fun i hi => ?_⟩
    obtain ⟨a0, c0, h1, h2, h3⟩ := hc i hi
    exact ⟨a0, c0, h1.block (hb.block _ hl), h2.below hb, h3⟩
/-- The same in blocks of their own, from lo on, below hi. -/
def OwnRp (w : World) (lo hi : Nat) (a : Option Addr) (n : Nat) (T : Nat → Rp) : Prop :=
  hi ≤ w.heap.size ∧ (n = 0 ∨ ∃ b off, a = some ⟨b, off, none⟩ ∧ lo ≤ b ∧ b < hi ∧ (∀ i, w.frozen? ⟨b, i, none⟩ = false) ∧ ∃ l h : Nat → Nat, (∀ i j, i < n → j < n → i ≠ j → h i ≤ l j ∨ h j ≤ l i) ∧
    ∀ i, i < n → (b < l i ∨ h i ≤ b) ∧ (h i = 0 ∨ lo ≤ l i ∧ h i ≤ hi) ∧ ∃ a0 c0, CRp w b (off + i * 3) (T i) a0 c0 ∧ ((T i).cn ≤ c0) ∧ OwnInRp w (l i) (h i) a0 (T i))
theorem OwnRp.at {w : World} {lo hi : Nat} {a : Option Addr} {n : Nat} {T : Nat → Rp} (h : OwnRp w lo hi a n T) : RpsAt w a n T := by
  obtain ⟨h0, h1 | ⟨b, off, ha, _, hl, _, l, h, _, hc⟩⟩ := h
  · exact .inl h1
  · refine .inr ⟨b, off, ha, by omega, fun i hi => ?_⟩
    obtain ⟨_, _, a0, c0, k1, k2, k3⟩ := hc i hi
    exact ⟨a0, c0, k1, k3.at, k2⟩
theorem OwnRp.writes {w w' : World} {lo hi lo' hi' : Nat} {a : Option Addr} {n : Nat} {T : Nat → Rp} (h : OwnRp w lo hi a n T) (hw : Writes lo' hi' w w') (hd : hi ≤ lo' ∨ hi' ≤ lo) : OwnRp w' lo hi a n T := by
  obtain ⟨h0, h1 | ⟨b, off, ha, hlo, hl, hf, l, h, hj, hc⟩⟩ := h
  · exact ⟨Nat.le_trans h0 hw.size, .inl h1⟩
  · have e := hw.block b (by omega) (by omega)
    refine ⟨Nat.le_trans h0 hw.size, .inr ⟨b, off, ha, hlo, hl, fun i => (World.frozen?_of_block (w := w) (a := ⟨b, i, none⟩) e).trans (hf i), l, h, hj, fun i hi => ?_⟩⟩
    obtain ⟨k0, k1, a0, c0, k2, k3, k4⟩ := hc i hi
    have := k4.lt
    exact ⟨k0, k1, a0, c0, k2.block e, k3, k4.writes hw (by omega)⟩
theorem OwnRp.below {w w' : World} {lo hi : Nat} {a : Option Addr} {n : Nat} {T : Nat → Rp} (h : OwnRp w lo hi a n T) (hb : Below w.heap.size w w') : OwnRp w' lo hi a n T :=
  h.writes (Writes.of_below (lo := hi) (hi := hi) hb) (.inl (Nat.le_refl _))
theorem OwnRp.wide {w : World} {lo hi lo' hi' : Nat} {a : Option Addr} {n : Nat} {T : Nat → Rp} (h : OwnRp w lo hi a n T) (h1 : lo' ≤ lo) (h2 : hi ≤ hi') (h3 : hi' ≤ w.heap.size) : OwnRp w lo' hi' a n T := by
  obtain ⟨h0, h4 | ⟨b, off, ha, hlo, hl, hf, l, h, hj, hc⟩⟩ := h
  · exact ⟨h3, .inl h4⟩
  · refine ⟨h3, .inr ⟨b, off, ha, by omega, by omega, hf, l, h, hj, fun i hi => ?_⟩⟩
    obtain ⟨k0, k1, r⟩ := hc i hi
    exact ⟨k0, by omega, r⟩
theorem OwnRp.congr {w : World} {lo hi : Nat} {a : Option Addr} {n : Nat} {T T' : Nat → Rp} (h : OwnRp w lo hi a n T) (e : ∀ i, i < n → T i = T' i) : OwnRp w lo hi a n T' := by
  obtain ⟨h0, h1 | ⟨b, off, ha, hlo, hl, hf, l, h, hj, hc⟩⟩ := h
  · exact ⟨h0, .inl h1⟩
  · exact ⟨h0, .inr ⟨b, off, ha, hlo, hl, hf, l, h, hj, fun i hi => by rw [← e i hi]; exact hc i hi⟩⟩
/-! ### one is stored -/
def setRp (w : World) (b o : Nat) (t : Rp) (a0 : Option Addr) (c0 : Nat) : World := ((w.setCell ⟨b, o, none⟩ (.int .i64 t.cd)).setCell ⟨b, o + 1, none⟩ (.int .i64 t.vl)).setCell ⟨b, o + 2, none⟩ (.slice a0 t.cn c0)
theorem setRp_size {w : World} {b o : Nat} {t : Rp} {a0 : Option Addr} {c0 : Nat} : (setRp w b o t a0 c0).heap.size = w.heap.size := by simp [setRp, World.setCell]
theorem setRp_far {w : World} {b o o' : Nat} {t : Rp} {a0 : Option Addr} {c0 : Nat} (h : o' < o ∨ o + 2 < o') : (setRp w b o t a0 c0).cell? ⟨b, o', none⟩ = w.cell? ⟨b, o', none⟩ := by
  unfold setRp
  rw [setO (by omega), setO (by omega), setO (by omega)]
theorem setRp_frozen {w : World} {b o : Nat} {t : Rp} {a0 : Option Addr} {c0 : Nat} {p : Addr} : (setRp w b o t a0 c0).frozen? p = w.frozen? p := by
  unfold setRp
  rw [World.frozen?_setCell, World.frozen?_setCell, World.frozen?_setCell]
theorem setRp_same {w : World} {b o : Nat} {t t0 : Rp} {a0 : Option Addr} {c0 : Nat} {x0 : Option Addr} {y0 : Nat} (h : CRp w b o t0 x0 y0) : CRp (setRp w b o t a0 c0) b o t a0 c0 := by
  obtain ⟨h0, h1, h2⟩ := h
  refine ⟨?_, ?_, ?_⟩
  · unfold setRp; rw [setO (by omega), setO (by omega)]; exact setS h0
  · unfold setRp; rw [setO (by omega)]; exact setS (by rw [setO (by omega)]; exact h1)
  · unfold setRp; exact setS (by rw [setO (by omega), setO (by omega)]; exact h2)
theorem setRp_below {m : Nat} {w wr : World} {b o : Nat} {t : Rp} {a0 : Option Addr} {c0 : Nat} (h : Below m w wr) (h1 : m ≤ b) : Below m w (setRp wr b o t a0 c0) :=
  ((h.setCell (p := ⟨b, _, none⟩) h1 _).setCell (p := ⟨b, _, none⟩) h1 _).setCell (p := ⟨b, _, none⟩) h1 _
theorem setRp_writes {lo hi : Nat} {w wr : World} {b o : Nat} {t : Rp} {a0 : Option Addr} {c0 : Nat} (h : Writes lo hi w wr) (h1 : lo ≤ b) (h2 : b < hi) : Writes lo hi w (setRp wr b o t a0 c0) :=
  ((h.setCell (p := ⟨b, _, none⟩) h1 h2 _).setCell (p := ⟨b, _, none⟩) h1 h2 _).setCell (p := ⟨b, _, none⟩) h1 h2 _
theorem OwnRp.store {w : World} {lo hi hi' l' h' b off n j : Nat} {T : Nat → Rp} {t : Rp} {a0 : Option Addr} {c0 : Nat} (h : OwnRp w lo hi (some ⟨b, off, none⟩) n T) (hj : j < n) (e1 : hi ≤ l') (e2 : h' ≤ hi') (e3 : hi ≤ hi') (e4 : hi' ≤ w.heap.size) (hn : t.cn ≤ c0) (hu : OwnInRp w l' h' a0 t) :
    OwnRp (setRp w b (off + j * 3) t a0 c0) lo hi' (some ⟨b, off, none⟩) n (upf9 T j t) := by
  obtain ⟨h0, h1 | ⟨b1, off1, ha, hlo, hl, hf, l, h, hd, hc⟩⟩ := h
  · omega
  simp only [Option.some.injEq, Addr.mk.injEq, and_true] at ha
  obtain ⟨rfl, rfl⟩ := ha
  refine ⟨by rw [setRp_size]; exact e4, .inr ⟨b, off, rfl, hlo, by omega, fun i => by rw [setRp_frozen]; exact hf i, fun i => if i = j then l' else l i, fun i => if i = j then h' else h i, fun i q hi hq hne => ?_, fun i hi => ?_⟩⟩
  · by_cases c1 : i = j <;> by_cases c2 : q = j <;> simp only [c1, c2, if_true, if_false]
    · omega
    · have := (hc q hq).2.1; omega
    · have := (hc i hi).2.1; omega
    · exact hd i q hi hq hne
  · obtain ⟨k0, k1, x0, y0, k2, k3, k4⟩ := hc i hi
    have k6 := k4.lt
    have k7 := hu.lt
    by_cases e : i = j
    · subst e
      simp only [if_true, upf9_eq]
      exact ⟨by omega, by omega, a0, c0, setRp_same k2, hn, hu.writes (lo' := b) (hi' := b + 1) (setRp_writes (Writes.refl _ _ _) (Nat.le_refl _) (Nat.lt_succ_self _)) (by omega)⟩
    · simp only [if_neg e]
      rw [upf9_ne _ _ e]
      refine ⟨k0, by omega, x0, y0, ?_, k3, k4.writes (lo' := b) (hi' := b + 1) (setRp_writes (Writes.refl _ _ _) (Nat.le_refl _) (Nat.lt_succ_self _)) (by omega)⟩
      have g : ∀ q, q < 3 → (setRp w b (off + j * 3) t a0 c0).cell? ⟨b, off + i * 3 + q, none⟩ = w.cell? ⟨b, off + i * 3 + q, none⟩ := fun q hq => setRp_far (by omega)
      obtain ⟨h0, h1, h2⟩ := k2
      exact ⟨(g 0 (by omega)).trans h0, (g 1 (by omega)).trans h1, (g 2 (by omega)).trans h2⟩
theorem infoRp : (Tryd.prog.info? 31).map (fun i => (i.zero, i.size, i.bytes)) = some (some (.agg #[.int .i64 0, .int .i64 0, .slice none 0 0]), 3, 40) := by kernel_rfl
theorem made_Rp (w : World) (n : Nat) : OwnRp (w.alloc (.cells (madeCells #[.int .i64 0, .int .i64 0, .slice none 0 0] (n * 3)) 31)) w.heap.size (w.heap.size + 1) (some ⟨w.heap.size, 0, none⟩) n (fun _ => zRp) := by
  refine ⟨by simp, .inr ⟨_, _, rfl, Nat.le_refl _, Nat.lt_succ_self _, fun i => by simp [go_sem], fun _ => 0, fun _ => 0, fun i j _ _ _ => .inl (Nat.le_refl _), fun i hi => ⟨.inr (Nat.zero_le _), .inl rfl, none, 0, ?_, ?_, ?_⟩⟩⟩
  · have c : ∀ j, j < 3 → (w.alloc (.cells (madeCells #[.int .i64 0, .int .i64 0, .slice none 0 0] (n * 3)) 31)).cell? ⟨w.heap.size, 0 + i * 3 + j, none⟩ = (#[Value.int .i64 0, .int .i64 0, .slice none 0 0])[j]? := fun j hj => by
      have l : i * 3 + j < n * 3 := by omega
      have : j = 0 ∨ j = 1 ∨ j = 2 := by omega
      rcases this with rfl | rfl | rfl <;> simp [go_sem, madeCells] <;> exact ⟨_, by rw [Array.getElem?_range, if_pos (by omega)], by simp [Nat.add_mod]⟩
    exact ⟨c 0 (by omega), c 1 (by omega), c 2 (by omega)⟩
  · exact Nat.le_refl _
  · exact ⟨0, 0, Nat.le_refl _, Nat.le_refl _, Nat.le_refl _, Nat.zero_le _, ⟨Nat.zero_le _, .inl rfl⟩⟩
/-! ### sizes -/
set_option maxHeartbeats 1000000 in
theorem szReply_any (t : Rp) (a0 : Option Addr) (c0 : Nat) (x : Int) (w : World) (hB : BigRp t) (h0 : 0 ≤ x) (h1 : x ≤ 1048576) (h : InRp w a0 t) :
    Calls Tryd.prog 4 #[.agg #[.int .i64 t.cd, .int .i64 t.vl, .slice a0 t.cn c0], .int .i64 x] w fun e w' => Below w.heap.size w w' ∧ ∃ r : Int, e = .returned (.int .i64 r) ∧ (r = -1 ∨ (0 ≤ r ∧ r = x - szRp t)) := by
  obtain ⟨hB0, _⟩ := hB
  have HA : Hid (InRp w a0 t) := h
  have HZ : Hid (szRp t = t.cn) := rfl
  clear h
  go_enter Tryd.func4, Tryd.ntmps4
  go_wp2_with fail
  refine (szCellS_r t.cn a0 c0 x _ hB0 (by omega) (by omega)).mono ?_
  rintro e w1 ⟨hb, r0, rfl, hr⟩
  have HB1 : Hid (Below w.heap.size w w1) := below_then (below_new _ _) hb
  clear hb
  rcases hr with rfl | ⟨hr0, hr1⟩
  · go_wp2_with fail
    go_ret
    exact ⟨HB1.out, _, rfl, .inl rfl⟩
  have hng0 : ¬ r0 < 0 := by omega
  have HR0 : Hid (r0 = x - t.cn) := hr1
  have hle0 : r0 ≤ 1048576 := by omega
  clear hr1
  go_wp2_with fail
  go_ret
  exact ⟨HB1.out, _, rfl, .inr ⟨hr0, by have e0 := HR0.out; have ez := HZ.out; omega⟩⟩
def smRp (T : Nat → Rp) (k : Nat) : Nat := smf9 (fun i => szRp (T i)) k
/-! ### one copied -/
set_option maxHeartbeats 4000000 in
theorem toReply_any (t : Rp) (a0 : Option Addr) (c0 : Nat) (w : World) (hS : SmRp t) (h : InRp w a0 t) :
    Calls Tryd.prog 6 #[.agg #[.int .i64 t.cd, .int .i64 t.vl, .slice a0 t.cn c0]] w fun e w' =>
      ∃ B0, e = .returned (.agg #[.int .i64 t.cd, .int .i64 t.vl, .slice (some ⟨B0, 0, none⟩) t.cn t.cn]) ∧ Below w.heap.size w w' ∧ OwnInRp w' w.heap.size w'.heap.size (some ⟨B0, 0, none⟩) t := by
  obtain ⟨hS0, _⟩ := hS
  have HA : Hid (InRp w a0 t) := h
  clear h
  go_enter Tryd.func6, Tryd.ntmps6
  go_wp2_with fail
  have hb0 : ∀ o1 o2 o3, Below w.heap.size w (((w.alloc o1).alloc o2).alloc o3) := fun o1 o2 o3 => (((Below.refl _ _).alloc (Nat.le_refl _) _).alloc (by simp) _).alloc (by simp; omega) _
  refine (toCellS_own t.cn t.cK t.cV a0 c0 _ hS0 ((HA.out.1).below (hb0 _ _ _))).mono ?_
  rintro e w1 ⟨B0, rfl, hb, hr⟩
  obtain ⟨hc, hf⟩ := bcell29 hb
  have hz : w.heap.size + 3 ≤ w1.heap.size := by have := hb.size; simp at this; omega
  have e3 : ∀ o1 o2 o3 : Obj, (((w.alloc o1).alloc o2).alloc o3).heap.size = w.heap.size + 3 := fun _ _ _ => by simp
  rw [e3] at hr
  have HR0 : Hid (Own w1 (w.heap.size + 3) w1.heap.size (some ⟨B0, 0, none⟩) t.cn t.cK t.cV) := hr
  have HB1 : Hid (Below w.heap.size w w1) := below_then (hb0 _ _ _) hb
  have s0 : w1.cell? ⟨w.heap.size + 1, 0, none⟩ = some (.int .i64 0) := by rw [hc _ _ (by simp <;> omega)]; simp [go_sem]
  have s1 : w1.cell? ⟨w.heap.size + 1, 1, none⟩ = some (.int .i64 0) := by rw [hc _ _ (by simp <;> omega)]; simp [go_sem]
  have s2 : w1.cell? ⟨w.heap.size + 1, 2, none⟩ = some (.slice none 0 0) := by rw [hc _ _ (by simp <;> omega)]; simp [go_sem]
  have x0 : w1.cell? ⟨w.heap.size + 2, 0, none⟩ = some (.int .i64 t.cd) := by rw [hc _ _ (by simp <;> omega)]; simp [go_sem]
  have x1 : w1.cell? ⟨w.heap.size + 2, 1, none⟩ = some (.int .i64 t.vl) := by rw [hc _ _ (by simp <;> omega)]; simp [go_sem]
  have x2 : w1.cell? ⟨w.heap.size + 2, 2, none⟩ = some (.slice none 0 0) := by rw [hc _ _ (by simp <;> omega)]; simp [go_sem]
  have f1 : ∀ i, w1.frozen? ⟨w.heap.size + 1, i, none⟩ = false := fun i => by rw [hf _ _ (by simp <;> omega)]; simp [go_sem]
  have f2 : ∀ i, w1.frozen? ⟨w.heap.size + 2, i, none⟩ = false := fun i => by rw [hf _ _ (by simp <;> omega)]; simp [go_sem]
  clear hc hf hb hr e3 hb0
  have HWW : Hid (∀ w', Writes w.heap.size (w.heap.size + 3) w1 w' → w'.heap.size = w1.heap.size → Below w.heap.size w w' ∧ OwnInRp w' w.heap.size w'.heap.size (some ⟨B0, 0, none⟩) t) := fun w' h e =>
    ⟨h.below HB1.out (Nat.le_refl _), w.heap.size + 3, w1.heap.size, by omega, by omega, by omega, Nat.le_refl _, HR0.out.writes h (.inr (by omega))⟩
  clear HR0
  go_wp2_with fail
  refine bodyPost_ret (v := .agg #[.int .i64 t.cd, .int .i64 t.vl, .slice (some ⟨B0, 0, none⟩) t.cn t.cn]) (by simp [results, Tryd.results6, go_sem, s0, s1, s2]) rfl ⟨_, rfl, ?_⟩
  refine HWW.out _ ?_ (by simp [World.setCell])
  repeat (first | with_reducible exact Writes.refl _ _ _ | with_reducible refine Writes.setCell ?_ (by first | omega | (simp <;> omega)) (by first | omega | (simp <;> omega)) _)
theorem pref9_zRp (T : Nat → Rp) (k : Nat) : pref9 T (fun _ => zRp) k k = zRp := pref9_at _ _ _
/-! ### equal -/
set_option maxHeartbeats 1000000 in
theorem eqReply_same (t : Rp) (a0 : Option Addr) (c0 : Nat) (d0 : Option Addr) (e0 : Nat) (w : World) (hS : SmRp t) (h : InRp w a0 t) (h' : InRp w d0 t) :
    Calls Tryd.prog 9 #[.agg #[.int .i64 t.cd, .int .i64 t.vl, .slice a0 t.cn c0], .agg #[.int .i64 t.cd, .int .i64 t.vl, .slice d0 t.cn e0]] w fun e w' => e = .returned (.bool true) ∧ Below w.heap.size w w' := by
  obtain ⟨hS0, _⟩ := hS
  have HA : Hid (InRp w a0 t) := h
  have HD : Hid (InRp w d0 t) := h'
  clear h h'
  have hne0 : (t.cd != t.cd) = false := by simp
  have hne1 : (t.vl != t.vl) = false := by simp
  have hb0 : ∀ o1 o2, Below w.heap.size w ((w.alloc o1).alloc o2) := fun o1 o2 => (((Below.refl _ _).alloc (Nat.le_refl _) _).alloc (by simp) _)
  go_enter Tryd.func9, Tryd.ntmps9
  go_wp2_with fail
  refine (eqCellS_any t.cn t.cK t.cV a0 d0 c0 e0 _ (by omega) ((HA.out.1).below (hb0 _ _)) ((HD.out.1).below (hb0 _ _))).mono ?_
  rintro e w1 ⟨rfl, hb⟩
  have HB1 : Hid (Below w.heap.size w w1) := below_then (hb0 _ _) hb
  clear hb
  clear hb0
  go_wp2_with fail
  go_ret
  exact ⟨rfl, HB1.out⟩
/-! ### opened -/
theorem cellsRp : Tryd.prog.cellsOf 24 = 3 := by kernel_rfl
theorem cellsRp0 : Tryd.prog.cellsOf 22 = 1 := by kernel_rfl
end Go.Proofs.YtfipdkhbehfohaaDoor
