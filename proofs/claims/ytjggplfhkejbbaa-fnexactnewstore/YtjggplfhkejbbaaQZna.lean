/- impl.NewStore. -/
import Derived.Test.YtjggplfhkejbbaaQZsb
import Derived.Test.YtjggplfhkejbbaaQZpg
import Derived.Test.YtjggplfhkejbbaaQNd
import Derived.Test.YtjggplfhkejbbaaQNew
import Derived.Test.YtjggplfhkejbbaaQWae
namespace Go.Proofs.Ytjggplfhkejbbaa
open Go.ChangeShapes Go.WideShapes Go.ChangeAt Go.RowKit Go.Deep Go.Joins
set_option linter.unusedVariables false
set_option maxRecDepth 20000
open Classical in

theorem OwnS.of {w : World} {lo hi l2 h2 l3 h3 l4 h4 l5 h5 : Nat} {P : Nat → Prop} {a0 a1 a2 a3 a4 a5 a6 : Option Addr} {t : Sto} (h0 : hi ≤ w.heap.size)
    (bP : ∀ x, P x → lo ≤ x ∧ x < hi ∧ ¬ (l2 ≤ x ∧ x < h2) ∧ ¬ (l3 ≤ x ∧ x < h3) ∧ ¬ (l4 ≤ x ∧ x < h4) ∧ ¬ (l5 ≤ x ∧ x < h5)) (b2 : ∀ x, l2 ≤ x → x < h2 → lo ≤ x ∧ x < hi ∧ ¬ (l3 ≤ x ∧ x < h3) ∧ ¬ (l4 ≤ x ∧ x < h4) ∧ ¬ (l5 ≤ x ∧ x < h5)) (b3 : ∀ x, l3 ≤ x → x < h3 → lo ≤ x ∧ x < hi ∧ ¬ (l4 ≤ x ∧ x < h4) ∧ ¬ (l5 ≤ x ∧ x < h5)) (b4 : ∀ x, l4 ≤ x → x < h4 → lo ≤ x ∧ x < hi ∧ ¬ (l5 ≤ x ∧ x < h5)) (b5 : ∀ x, l5 ≤ x → x < h5 → lo ≤ x ∧ x < hi)
    (p1 : OwnPgP w P a0 t.pn t.pT) (p2 : OwnD w l2 h2 a1 a2 t.d) (p3 : OwnG w l3 h3 a3 a4 t.g) (p4 : Own w l4 h4 a5 t.hn t.hK t.hV) (p5 : OwnI w l5 h5 a6 t.on t.oF) : OwnS w lo hi a0 a1 a2 a3 a4 a5 a6 t := by
  refine ⟨h0, fun x => if l2 ≤ x ∧ x < h2 then 2 else if l3 ≤ x ∧ x < h3 then 3 else if l4 ≤ x ∧ x < h4 then 4 else if l5 ≤ x ∧ x < h5 then 5 else if P x then 1 else 0, fun x hx => ?_, p1.mono fun x hx => ?_, ⟨l2, h2, fun x x1 x2 => ?_, p2⟩, ⟨l3, h3, fun x x1 x2 => ?_, p3⟩, ⟨l4, h4, fun x x1 x2 => ?_, p4⟩, ⟨l5, h5, fun x x1 x2 => ?_, p5⟩⟩
  · by_cases c2 : l2 ≤ x ∧ x < h2
    · have := b2 x c2.1 c2.2; exact ⟨this.1, this.2.1⟩
    · by_cases c3 : l3 ≤ x ∧ x < h3
      · have := b3 x c3.1 c3.2; exact ⟨this.1, this.2.1⟩
      · by_cases c4 : l4 ≤ x ∧ x < h4
        · have := b4 x c4.1 c4.2; exact ⟨this.1, this.2.1⟩
        · by_cases c5 : l5 ≤ x ∧ x < h5
          · exact b5 x c5.1 c5.2
          · by_cases c1 : P x
            · have := bP x c1; exact ⟨this.1, this.2.1⟩
            · simp only [if_neg c2, if_neg c3, if_neg c4, if_neg c5, if_neg c1] at hx; exact absurd rfl hx
  · obtain ⟨_, _, n2, n3, n4, n5⟩ := bP x hx
    simp only [if_neg n2, if_neg n3, if_neg n4, if_neg n5, if_pos hx]
  · simp only [if_pos (And.intro x1 x2)]
  · obtain ⟨_, _, n4, n5⟩ := b3 x x1 x2
    have n2 : ¬ (l2 ≤ x ∧ x < h2) := fun c => (b2 x c.1 c.2).2.2.1 ⟨x1, x2⟩
    simp only [if_neg n2, if_pos (And.intro x1 x2)]
  · have n2 : ¬ (l2 ≤ x ∧ x < h2) := fun c => (b2 x c.1 c.2).2.2.2.1 ⟨x1, x2⟩
    have n3 : ¬ (l3 ≤ x ∧ x < h3) := fun c => (b3 x c.1 c.2).2.2.1 ⟨x1, x2⟩
    simp only [if_neg n2, if_neg n3, if_pos (And.intro x1 x2)]
  · have n2 : ¬ (l2 ≤ x ∧ x < h2) := fun c => (b2 x c.1 c.2).2.2.2.2 ⟨x1, x2⟩
    have n3 : ¬ (l3 ≤ x ∧ x < h3) := fun c => (b3 x c.1 c.2).2.2.2 ⟨x1, x2⟩
    have n4 : ¬ (l4 ≤ x ∧ x < h4) := fun c => (b4 x c.1 c.2).2.2 ⟨x1, x2⟩
    simp only [if_neg n2, if_neg n3, if_neg n4, if_pos (And.intro x1 x2)]
/-- The pages of a new store. -/
def nP (i : Nat) : Pg := ⟨(i : Int), 0, 0, fun _ => 0, fun _ => 0⟩
def stN (nx : Int) : Sto := ⟨nx, 4, nP, nD 4, ⟨0, fun _ => 0, 0, fun _ => 0⟩, 0, fun _ => 0, fun _ => 0, 0, fun _ => 0⟩
theorem stN_few (nx : Int) : FewS (stN nx) := by
  refine ⟨⟨⟨by simp [stN], fun i hi => ⟨by simp [stN, nP], trivial⟩, by simp [stN, smPg, smf9, szPg, nP]⟩, ⟨by simp [stN, nD], by simp [stN, nD], fun i hi => by simp [stN, nD], fun i hi => by simp [stN, nD], by simp [stN, nD, sumL], by simp [stN, nD, sumL]⟩, ⟨by simp [stN], by simp [stN]⟩, by simp [stN], by simp [stN]⟩, ?_⟩
  simp [stN, sPg, smf9, nP, tot, sumL, s2, nD]
/-- A new store in its box B, k pages of it made; W0: the world of the answer's box R. -/
structure NSi (w W0 wr : World) (R B : Nat) (nx : Int) (v : Value) (k : Nat) (da da' : Option Addr) (dc dc' l h : Nat) : Prop where
  below : Below w.heap.size w wr
  lR : w.heap.size ≤ R
  lB : R < l
  lh : l ≤ h
  hB : h ≤ B
  sz : B < wr.heap.size
  bx : BoxS wr B (.int .i64 nx) v (.slice da 4 dc) (.slice da' 0 dc') (.slice none 0 0) (.slice none 0 0) (.slice none 0 0) (.slice none 0 0)
  bf : ∀ i, wr.frozen? ⟨B, i, none⟩ = false
  res : wr.heap[R]? = W0.heap[R]?
  dk : OwnD wr l h da da' (nD 4)
  gr : GrPg (B + 1) wr.heap.size wr v k nP
theorem NSi.mono {w W0 wr wq : World} {R B : Nat} {nx : Int} {v : Value} {k : Nat} {da da' : Option Addr} {dc dc' l h : Nat} (H : NSi w W0 wr R B nx v k da da' dc dc' l h) (hb : Below wr.heap.size wr wq) : NSi w W0 wq R B nx v k da da' dc dc' l h := by
  obtain ⟨h1, h2, h3, h4, h5, h6, h7, h8, h9, h10, h11⟩ := H
  exact ⟨below_then h1 hb, h2, h3, h4, h5, Nat.lt_of_lt_of_le h6 hb.size, h7.below hb, fun i => (hb.frozen (p := ⟨B, i, none⟩) h6).trans (h8 i), (hb.block R (by omega)).trans h9, h10.below hb, (h11.below hb).wide hb.size (Nat.le_refl _)⟩
theorem BoxS.block {w w' : World} {B : Nat} {c0 c1 c2 c3 c4 c5 c6 c7 : Value} (h : BoxS w B c0 c1 c2 c3 c4 c5 c6 c7) (e : w'.heap[B]? = w.heap[B]?) : BoxS w' B c0 c1 c2 c3 c4 c5 c6 c7 := by
  have g : ∀ i, w'.cell? ⟨B, i, none⟩ = w.cell? ⟨B, i, none⟩ := fun i => World.cell?_of_block (w := w) (a := ⟨B, i, none⟩) e
  obtain ⟨h0, h1, h2, h3, h4, h5, h6, h7⟩ := h
  exact ⟨(g _).trans h0, (g _).trans h1, (g _).trans h2, (g _).trans h3, (g _).trans h4, (g _).trans h5, (g _).trans h6, (g _).trans h7⟩
theorem BoxS.set1 {w : World} {B : Nat} {c0 c1 c2 c3 c4 c5 c6 c7 : Value} (h : BoxS w B c0 c1 c2 c3 c4 c5 c6 c7) (u : Value) : BoxS (w.setCell ⟨B, 1, none⟩ u) B c0 u c2 c3 c4 c5 c6 c7 := by
  obtain ⟨h0, h1, h2, h3, h4, h5, h6, h7⟩ := h
  exact ⟨by rw [setO (by omega)]; exact h0, setS h1, by rw [setO (by omega)]; exact h2, by rw [setO (by omega)]; exact h3, by rw [setO (by omega)]; exact h4, by rw [setO (by omega)]; exact h5, by rw [setO (by omega)]; exact h6, by rw [setO (by omega)]; exact h7⟩
theorem nP_up (k : Nat) : ∀ i, i < k + 1 → upf9 nP k (nP k) i = nP i := fun i _ => by
  by_cases e : i = k
  · subst e; exact upf9_eq _ _ _
  · exact upf9_ne _ _ e
/-- One page more. -/
theorem NSi.app {w W0 wr w2 : World} {R B g cap : Nat} {nx : Int} {v : Value} {k : Nat} {da da' : Option Addr} {dc dc' l h : Nat} (H : NSi w W0 wr R B nx v k da da' dc dc' l h) (hg : wr.grownBy w2 v.ownBlock) (hgr : GrPg (B + 1) w2.heap.size w2 (.slice (some ⟨g, 0, none⟩) (k + 1) cap) (k + 1) (upf9 nP k (nP k))) :
    NSi w W0 (w2.setCell ⟨B, 1, none⟩ (.slice (some ⟨g, 0, none⟩) (k + 1) cap)) R B nx (.slice (some ⟨g, 0, none⟩) (k + 1) cap) (k + 1) da da' dc dc' l h ∧ w2.cell? ⟨B, 1, none⟩ = some v ∧ (∀ i, w2.frozen? ⟨B, i, none⟩ = false) := by
  obtain ⟨h1, h2, h3, h4, h5, h6, h7, h8, h9, h10, h11⟩ := H
  have hv : ∀ q, v.ownBlock = some q → B + 1 ≤ q := fun q hq => by
    obtain ⟨_, A, c, l, h, ho, _⟩ := h11
    exact (ho.lt q hq).1
  have hblk : ∀ q, q ≤ B → w2.heap[q]? = wr.heap[q]? := fun q hq => hg.block q (by omega) fun e => by have := hv q e.symm; omega
  have hs := hg.size
  have e7 := h7.block (hblk B (Nat.le_refl _))
  have hB : Below w.heap.size w w2 := h1.grown hg (by have := h1.size; omega) fun q hq => by have := hv q hq; omega
  refine ⟨⟨hB.setCell (p := ⟨B, 1, none⟩) (by show w.heap.size ≤ B; omega) _, h2, h3, h4, h5, by simp [World.setCell]; omega, e7.set1 _, fun i => by rw [World.frozen?_setCell]; exact (World.frozen?_of_block (w := wr) (a := ⟨B, i, none⟩) (hblk B (Nat.le_refl _))).trans (h8 i), ?_, ?_, ?_⟩, e7.2.1, fun i => (World.frozen?_of_block (w := wr) (a := ⟨B, i, none⟩) (hblk B (Nat.le_refl _))).trans (h8 i)⟩
  · rw [Below.heap_setCell _ _ _ _ (by show R ≠ B; omega)]; exact (hblk R (by omega)).trans h9
  · refine (h10.keep hs fun x x1 x2 x3 => hblk x (by omega)).writes (lo' := B) (hi' := B + 1) ((Writes.refl _ _ _).setCell (p := ⟨B, 1, none⟩) (Nat.le_refl _) (Nat.lt_succ_self _) _) (.inl h5)
  · have h12 := hgr.congr (nP_up k)
    have e : (w2.setCell ⟨B, 1, none⟩ (.slice (some ⟨g, 0, none⟩) (k + 1) cap)).heap.size = w2.heap.size := by simp [World.setCell]
    rw [e]
    exact h12.writes (lo := B) (hi := B + 1) ((Writes.refl _ _ _).setCell (p := ⟨B, 1, none⟩) (Nat.le_refl _) (Nat.lt_succ_self _) _) (.inl (Nat.le_refl _))
theorem lit_pg (w : World) (k : Nat) : CPg (w.alloc (.cells #[.int .i64 (k : Int), .int .i64 0, .slice none 0 0] 67)) w.heap.size 0 (nP k) none 0 := by
  refine ⟨by simp [nP, go_sem], by simp [nP, go_sem], by simp [nP, go_sem]⟩
theorem own_none (w : World) (K V : Nat → Int) : Own w 0 0 none 0 K V := ⟨Nat.zero_le _, .inl rfl⟩
/-- The store, once its pages are made. -/
theorem NSi.fin {w W0 wr w7 : World} {R B : Nat} {nx : Int} {v : Value} {da da' : Option Addr} {dc dc' l h : Nat} (H : NSi w W0 wr R B nx v 4 da da' dc dc' l h) (lo hi : Nat) (hlo : w.heap.size ≤ lo) (hhi : hi ≤ B + 1) (hd : hi ≤ l ∨ h ≤ lo) (hw : Writes lo hi wr w7) (hs : w7.heap.size = wr.heap.size) :
    ∃ pa pc, v = .slice pa 4 pc ∧ Below w.heap.size w w7 ∧ OwnS w7 w.heap.size w7.heap.size pa da da' none none none none (stN nx) := by
  obtain ⟨h1, h2, h3, h4, h5, h6, h7, h8, h9, h10, h11⟩ := H
  obtain ⟨pa, pc, rfl, _, hp⟩ := h11.own
  refine ⟨pa, pc, rfl, hw.below h1 hlo, ?_⟩
  refine OwnS.of (P := fun x => B + 1 ≤ x ∧ x < wr.heap.size) (l2 := l) (h2 := h) (l3 := 0) (h3 := 0) (l4 := 0) (h4 := 0) (l5 := 0) (h5 := 0) (Nat.le_refl _) (fun x hx => by have := h1.size; omega) (fun x x1 x2 => by omega) (fun x x1 x2 => by omega) (fun x x1 x2 => by omega) (fun x x1 x2 => by omega) ?_ ?_ ?_ ?_ ?_
  · exact hp.keep hw.size fun x hx hl => hw.block x hl (by omega)
  · exact h10.writes hw (by omega)
  · exact ⟨Nat.zero_le _, 0, 0, 0, 0, Nat.le_refl _, Nat.le_refl _, Nat.le_refl _, Nat.le_refl _, .inl (Nat.le_refl _), ⟨Nat.zero_le _, .inl rfl⟩, ⟨Nat.zero_le _, .inl rfl⟩⟩
  · exact ⟨Nat.zero_le _, .inl rfl⟩
  · exact ⟨Nat.zero_le _, .inl rfl⟩
theorem cell_of_res {wr W0 : World} {R i : Nat} (h : wr.heap[R]? = W0.heap[R]?) : wr.cell? ⟨R, i, none⟩ = W0.cell? ⟨R, i, none⟩ := World.cell?_of_block (w := W0) (a := ⟨R, i, none⟩) h
theorem frozen_of_res {wr W0 : World} {R i : Nat} (h : wr.heap[R]? = W0.heap[R]?) : wr.frozen? ⟨R, i, none⟩ = W0.frozen? ⟨R, i, none⟩ := World.frozen?_of_block (w := W0) (a := ⟨R, i, none⟩) h
/-- The disk of a new store. -/
theorem nd4 : nC 4 = 0 := by unfold nC; rw [if_pos (by omega)]
/-- An answer that is a store alone. -/
def SRes0 (t : Sto) (w : World) (e : Ending) (w' : World) : Prop :=
  ∃ a0 c0 a1 c1 a2 c2 a3 c3 a4 c4 a5 c5 a6 c6, e = .returned (.agg #[.int .i64 t.nx, .slice a0 t.pn c0, .slice a1 t.d.n c1, .slice a2 t.d.m c2, .slice a3 t.g.n1 c3, .slice a4 t.g.n2 c4, .slice a5 t.hn c5, .slice a6 t.on c6]) ∧ Below w.heap.size w w' ∧ OwnS w' w.heap.size w'.heap.size a0 a1 a2 a3 a4 a5 a6 t
theorem specNd4 (w : World) : Calls Try.prog 70 #[.int .i64 4] w fun e w' => ∃ a cap a' cap', e = .returned (.agg #[.int .i64 0, .slice a 4 cap, .slice a' 0 cap']) ∧ Below w.heap.size w w' ∧ OwnD w' w.heap.size w'.heap.size a a' (nD 4) := by
  refine (specNd_any 4 w).mono ?_
  rintro e w' ⟨a, a', cap, cap', rfl, hb, ho⟩
  rw [nd4] at *
  unfold rD at *
  rw [if_pos rfl] at *
  exact ⟨a, cap, a', cap', rfl, hb, ho⟩
theorem implNd4 (w : World) : Calls Try.prog 40 #[.int .i64 4] w fun e w' => ∃ a cap a' cap', e = .returned (.agg #[.int .i64 0, .slice a 4 cap, .slice a' 0 cap']) ∧ Below w.heap.size w w' ∧ OwnD w' w.heap.size w'.heap.size a a' (nD 4) := by
  refine (implNd_any 4 w).mono ?_
  rintro e w' ⟨a, a', cap, cap', rfl, hb, ho⟩
  rw [nd4] at *
  unfold rD at *
  rw [if_pos rfl] at *
  exact ⟨a, cap, a', cap', rfl, hb, ho⟩
/-- A new store's box. -/
theorem NSi.start {w W0 w1 : World} {R : Nat} {nx : Int} {da da' : Option Addr} {dc dc' : Nat} (h0 : Below w.heap.size w W0) (hR : w.heap.size ≤ R) (hl : R < W0.heap.size) (hb : Below W0.heap.size W0 w1) (ho : OwnD w1 W0.heap.size w1.heap.size da da' (nD 4)) :
    NSi w W0 (w1.alloc (.cells #[.int .i64 nx, .slice none 0 0, .slice da 4 dc, .slice da' 0 dc', .slice none 0 0, .slice none 0 0, .slice none 0 0, .slice none 0 0] 43)) R w1.heap.size nx (.slice none 0 0) 0 da da' dc dc' W0.heap.size w1.heap.size := by
  have hs := hb.size
  refine ⟨below_then (below_then h0 hb) (below_new _ _), hR, hl, hs, Nat.le_refl _, by simp, BoxS.new _ _ _ _ _ _ _ _ _ _, fun i => by simp [go_sem], ?_, ho.below (below_new _ _), ?_⟩
  · exact ((below_new _ _).block R (by omega)).trans (hb.block R hl)
  · exact GrPg.nil _ _ _
set_option maxHeartbeats 4000000 in
theorem l12New_any (w : World) : Calls Try.prog 39 #[] w (SRes0 (stN 1) w) := by
  go_enter Try.func39, Try.ntmps39
  go_wp2_with fail
  obtain ⟨W0, hW0⟩ : ∃ x, x = w.alloc (.cells #[.int .i64 0, .slice none 0 0, .slice none 0 0, .slice none 0 0, .slice none 0 0, .slice none 0 0, .slice none 0 0, .slice none 0 0] 43) := ⟨_, rfl⟩
  have HB0 : Hid (Below w.heap.size w W0) := by rw [hW0]; exact below_new _ _
  have HL0 : Hid (w.heap.size < W0.heap.size) := by rw [hW0]; show _ < _; simp
  have HZ : Hid ((∀ i, W0.frozen? ⟨w.heap.size, i, none⟩ = false) ∧ BoxS W0 w.heap.size (.int .i64 0) (.slice none 0 0) (.slice none 0 0) (.slice none 0 0) (.slice none 0 0) (.slice none 0 0) (.slice none 0 0) (.slice none 0 0)) := by rw [hW0]; exact ⟨fun i => by simp [go_sem], BoxS.new _ _ _ _ _ _ _ _ _ _⟩
  rw [← hW0]
  clear hW0
  refine (specNd4 W0).mono ?_
  rintro e w1 ⟨da, dc, da', dc', rfl, hb, ho⟩
  have HN : Hid (NSi w W0 (w1.alloc (.cells #[.int .i64 1, .slice none 0 0, .slice da 4 dc, .slice da' 0 dc', .slice none 0 0, .slice none 0 0, .slice none 0 0, .slice none 0 0] 43)) w.heap.size w1.heap.size 1 (.slice none 0 0) 0 da da' dc dc' W0.heap.size w1.heap.size) := NSi.start HB0.out (Nat.le_refl _) HL0.out hb ho
  have hfd : ∀ u, (Instr.field 78 (.agg #[.int .i64 0, .slice da 4 dc, .slice da' 0 dc']) 1).run Try.prog u = .ok (.agg #[.slice da 4 dc, .slice da' 0 dc']) u := fun u => by kernel_rfl
  clear hb ho
  go_wp2_with fail
  clear hfd
  go_loopw [2] (fun i wr => ∃ (k : Nat) (v : Value), k ≤ 4 ∧ i = .int .i64 k ∧ Hid (NSi w W0 wr w.heap.size w1.heap.size 1 v k da da' dc dc' W0.heap.size w1.heap.size)) (fun i _ => 4 - (intOf i).toNat)
  case atStart => exact ⟨0, _, by omega, rfl, HN⟩
  case round =>
    clear HN
    obtain ⟨k, v, hk, rfl, HR⟩ := hrel
    by_cases hlt : k < 4
    · have hlt' : (k : Int) < 4 := by omega
      have c1 := HR.out.bx.2.1
      have cf := HR.out.bf
      have hsz := HR.out.sz
      have HW : Hid (∀ o : Obj, NSi w W0 (wr.alloc o) w.heap.size w1.heap.size 1 v k da da' dc dc' W0.heap.size w1.heap.size) := fun o => HR.out.mono (below_new _ _)
      have HG : Hid (∀ o : Obj, GrPg (w1.heap.size + 1) wr.heap.size (wr.alloc o) v k nP) := fun o => HR.out.gr.below (below_new _ _)
      have HLT : Hid (w1.heap.size + 1 ≤ wr.heap.size) := hsz
      clear HR
      go_wp2_with (at_builtin; refine wpList_grPg _ rfl (.tmp 11) (.tmp 14) rfl (w1.heap.size + 1) wr.heap.size v k nP rfl (HG.out _) wr.heap.size 0 1 (nP k) none 0 0 0 rfl (lit_pg wr k) (.inl rfl) HLT.out (Nat.le_refl _) (own_none _ _ _) (by omega) ?_)
      intro g cap' w2 hgr hg
      obtain ⟨hn2, c12, cf2⟩ := NSi.app (HW.out _) hg hgr
      have HN2 : Hid (NSi w W0 (w2.setCell ⟨w1.heap.size, 1, none⟩ (.slice (some ⟨g, 0, none⟩) (k + 1) cap')) w.heap.size w1.heap.size 1 (.slice (some ⟨g, 0, none⟩) (k + 1) cap') (k + 1) da da' dc dc' W0.heap.size w1.heap.size) := hn2
      clear hn2 hgr hg HW HG c1 cf
      go_wp2_with fail
      go_roundw
      case rel => exact ⟨k + 1, _, by omega, by go_num, HN2⟩
      case measure => simp [intOf]; omega
    · have hk4 : k = 4 := by omega
      subst hk4
      have hnl : ¬ (((4 : Nat) : Int) < 4) := by omega
      have hlR := HR.out.sz
      have hz2 := HL0.out
      have hz3 := HR.out.lh
      have hz4 := HR.out.lB
      obtain ⟨pa, pc, rfl, -⟩ := HR.out.gr.own
      have HF : Hid (∀ w7, Writes w.heap.size (w.heap.size + 1) wr w7 → w7.heap.size = wr.heap.size → SRes0 (stN 1) w (.returned (.agg #[.int .i64 1, .slice pa 4 pc, .slice da 4 dc, .slice da' 0 dc', .slice none 0 0, .slice none 0 0, .slice none 0 0, .slice none 0 0])) w7) := fun w7 g1 g2 => by
        obtain ⟨pa', pc', e9, hB9, hO9⟩ := HR.out.fin w.heap.size (w.heap.size + 1) (Nat.le_refl _) (by omega) (.inl (by omega)) g1 g2
        obtain ⟨rfl, -, rfl⟩ := Value.slice.inj e9
        exact ⟨pa, pc, da, dc, da', dc', none, 0, none, 0, none, 0, none, 0, rfl, hB9, hO9⟩
      obtain ⟨y0, y1, y2, y3, y4, y5, y6, y7⟩ := HR.out.bx
      have hf : ∀ i, wr.frozen? ⟨w.heap.size, i, none⟩ = false := fun i => (frozen_of_res HR.out.res).trans (HZ.out.1 i)
      have hZ2 := HZ.out.2.block HR.out.res
      obtain ⟨z0, z1, z2, z3, z4, z5, z6, z7⟩ := hZ2
      clear HR
      go_wp2_with fail
      refine bodyPost_ret (v := .agg #[.int .i64 1, .slice pa 4 pc, .slice da 4 dc, .slice da' 0 dc', .slice none 0 0, .slice none 0 0, .slice none 0 0, .slice none 0 0]) (by simp [results, Try.results39, go_sem, *]) rfl ?_
      refine HF.out _ ?_ (by simp [World.setCell])
      repeat (first | with_reducible exact Writes.refl _ _ _ | with_reducible refine Writes.setCell ?_ (by first | omega | (simp <;> omega)) (by first | omega | (simp <;> omega)) _)
def nsC (x : Int) : Int := if inB x 1 999 = true then 0 else 3
def nsT (x : Int) : Sto := if inB x 1 999 = true then stN x else zSt
theorem l12Bad_any (c : Int) (w : World) : Calls Try.prog 38 #[.int .i64 c] w fun e w' => e = .returned (.agg #[.int .i64 c, .int .i64 0, .int .i64 0, .slice none 0 0, .slice none 0 0, .slice none 0 0, .slice none 0 0, .slice none 0 0, .slice none 0 0, .slice none 0 0]) ∧ Below w.heap.size w w' := by
  go_enter Try.func38, Try.ntmps38
  go_wp2_with fail
  refine bodyPost_ret (v := .agg #[.int .i64 c, .int .i64 0, .int .i64 0, .slice none 0 0, .slice none 0 0, .slice none 0 0, .slice none 0 0, .slice none 0 0, .slice none 0 0, .slice none 0 0]) (by simp [results, Try.results38, go_sem]) rfl ⟨rfl, ?_⟩
  repeat (first | with_reducible exact below_new _ _ | refine Below.setCell ?_ (by first | omega | (simp <;> omega)) _)
theorem WritesP.setCell {P : Nat → Prop} {w w' : World} (h : WritesP P w w') {p : Addr} (hp : P p.block) (v : Value) : WritesP P w (w'.setCell p v) :=
  ⟨h.os, h.tape, h.output, by simpa [World.setCell] using h.size, fun k hk hn => (Below.heap_setCell _ _ _ _ (fun e => hn (by rw [e]; exact hp))).trans (h.block k hk hn)⟩
theorem own_nx {w : World} {lo hi : Nat} {a0 a1 a2 a3 a4 a5 a6 : Option Addr} {nx nx' : Int} (h : OwnS w lo hi a0 a1 a2 a3 a4 a5 a6 (stN nx)) : OwnS w lo hi a0 a1 a2 a3 a4 a5 a6 (stN nx') := h
set_option maxHeartbeats 4000000 in
theorem specNs_any (x : Int) (w : World) : Calls Try.prog 10 #[.int .i64 x] w (SRes (nsC x) 0 (nsT x) w) := by
  obtain k1 | k1 := boolor (inB x 1 999)
  · have e1 : nsC x = 0 := if_pos k1
    have e2 : nsT x = stN x := if_pos k1
    rw [e1, e2]
    clear e1 e2
    go_enter Try.func10, Try.ntmps10
    go_wp2_with (first | (go_at_call 37; refine (l3Txn_any _ _).mono ?_; rintro e w' ⟨rfl, hq⟩; rw [hq, k1]; clear hq))
    obtain ⟨W0, hW0⟩ : ∃ y, y = w.alloc (.cells #[.int .i64 0, .int .i64 0, .int .i64 0, .slice none 0 0, .slice none 0 0, .slice none 0 0, .slice none 0 0, .slice none 0 0, .slice none 0 0, .slice none 0 0] 48) := ⟨_, rfl⟩
    have HB0 : Hid (Below w.heap.size w W0) := by rw [hW0]; exact below_new _ _
    have HL0 : Hid (w.heap.size + 1 = W0.heap.size) := by rw [hW0]; show _ = _; simp
    have HZ : Hid ((∀ i, W0.frozen? ⟨w.heap.size, i, none⟩ = false) ∧ W0.cell? ⟨w.heap.size, 0, none⟩ = some (.int .i64 0) ∧ W0.cell? ⟨w.heap.size, 1, none⟩ = some (.int .i64 0) ∧ W0.cell? ⟨w.heap.size, 2, none⟩ = some (.int .i64 0) ∧ ∀ i, 3 ≤ i → i < 10 → W0.cell? ⟨w.heap.size, i, none⟩ = some (.slice none 0 0)) := by
      rw [hW0]
      refine ⟨fun i => by simp [go_sem], by simp [go_sem], by simp [go_sem], by simp [go_sem], fun i h1 h2 => ?_⟩
      have : i = 3 ∨ i = 4 ∨ i = 5 ∨ i = 6 ∨ i = 7 ∨ i = 8 ∨ i = 9 := by omega
      rcases this with rfl | rfl | rfl | rfl | rfl | rfl | rfl <;> simp [go_sem]
    rw [← hW0]
    clear hW0
    refine (l12New_any W0).mono ?_
    rintro e w1 ⟨a0, c0, a1, c1, a2, c2, a3, c3, a4, c4, a5, c5, a6, c6, rfl, hb, ho⟩
    have HB : Hid (Below w.heap.size w w1) := below_then HB0.out hb
    have HO : Hid (OwnS w1 W0.heap.size w1.heap.size a0 a1 a2 a3 a4 a5 a6 (stN x)) := own_nx ho
    have hf : ∀ i, w1.frozen? ⟨w.heap.size, i, none⟩ = false := fun i => (hb.frozen (p := ⟨_, i, none⟩) (by show w.heap.size < W0.heap.size; have := HL0.out; omega)).trans (HZ.out.1 i)
    have z0 := cell_below HZ.out.2.1 hb
    have z1 := cell_below HZ.out.2.2.1 hb
    have z2 := cell_below HZ.out.2.2.2.1 hb
    have z3 := cell_below (HZ.out.2.2.2.2 3 (by omega) (by omega)) hb
    have z4 := cell_below (HZ.out.2.2.2.2 4 (by omega) (by omega)) hb
    have z5 := cell_below (HZ.out.2.2.2.2 5 (by omega) (by omega)) hb
    have z6 := cell_below (HZ.out.2.2.2.2 6 (by omega) (by omega)) hb
    have z7 := cell_below (HZ.out.2.2.2.2 7 (by omega) (by omega)) hb
    have z8 := cell_below (HZ.out.2.2.2.2 8 (by omega) (by omega)) hb
    have z9 := cell_below (HZ.out.2.2.2.2 9 (by omega) (by omega)) hb
    have hl1 : w.heap.size < w1.heap.size := Go.block_lt_of_cell z0
    have hne : ¬ (w.heap.size = w1.heap.size) := by omega
    have HLW : Hid (w.heap.size + 1 ≤ W0.heap.size) := by have := HL0.out; show _ ≤ _; omega
    clear hb ho HZ
    have hE1 : (stN 1).pn = 4 := rfl
    have hE2 : (stN 1).d.n = 4 := rfl
    have hE3 : (stN 1).d.m = 0 := rfl
    have hE4 : (stN 1).g.n1 = 0 := rfl
    have hE5 : (stN 1).g.n2 = 0 := rfl
    have hE6 : (stN 1).hn = 0 := rfl
    have hE7 : (stN 1).on = 0 := rfl
    have hE8 : (stN 1).nx = 1 := rfl
    rw [hE1, hE2, hE3, hE4, hE5, hE6, hE7, hE8]
    clear hE1 hE2 hE3 hE4 hE5 hE6 hE7 hE8
    go_upto_region 4 with fail
    obtain ⟨W1, hW1⟩ : ∃ y, y = w1.alloc (.cells #[.int .i64 1, .slice a0 4 c0, .slice a1 4 c1, .slice a2 0 c2, .slice a3 0 c3, .slice a4 0 c4, .slice a5 0 c5, .slice a6 0 c6] 43) := ⟨_, rfl⟩
    have hb1 : Below w1.heap.size w1 W1 := by rw [hW1]; exact below_new _ _
    have hx := BoxS.new w1 (.int .i64 1) (.slice a0 4 c0) (.slice a1 4 c1) (.slice a2 0 c2) (.slice a3 0 c3) (.slice a4 0 c4) (.slice a5 0 c5) (.slice a6 0 c6) 43
    rw [← hW1] at hx
    have hfx : ∀ i, W1.frozen? ⟨w1.heap.size, i, none⟩ = false := fun i => by rw [hW1]; simp [go_sem]
    have hs1 : W1.heap.size = w1.heap.size + 1 := by rw [hW1]; simp
    rw [← hW1]
    clear hW1
    obtain ⟨x0, x1, x2, x3, x4, x5, x6, x7⟩ := hx
    replace z0 := cell_below z0 hb1
    replace z1 := cell_below z1 hb1
    replace z2 := cell_below z2 hb1
    replace z3 := cell_below z3 hb1
    replace z4 := cell_below z4 hb1
    replace z5 := cell_below z5 hb1
    replace z6 := cell_below z6 hb1
    replace z7 := cell_below z7 hb1
    replace z8 := cell_below z8 hb1
    replace z9 := cell_below z9 hb1
    replace hf : ∀ i, W1.frozen? ⟨w.heap.size, i, none⟩ = false := fun i => (hb1.frozen (p := ⟨_, i, none⟩) hl1).trans (hf i)
    replace HB : Hid (Below w.heap.size w W1) := below_then HB.out hb1
    replace HO : Hid (OwnS W1 W0.heap.size w1.heap.size a0 a1 a2 a3 a4 a5 a6 (stN x)) := HO.out.below hb1
    have HF : Hid (∀ w7, WritesP (fun q => q = w.heap.size ∨ q = w1.heap.size) W1 w7 → w7.heap.size = W1.heap.size → SRes 0 0 (stN x) w (.returned (.agg #[.int .i64 0, .int .i64 0, .int .i64 x, .slice a0 4 c0, .slice a1 4 c1, .slice a2 0 c2, .slice a3 0 c3, .slice a4 0 c4, .slice a5 0 c5, .slice a6 0 c6])) w7) := fun w7 g1 g2 => by
      have e1 := HLW.out
      refine ⟨a0, c0, a1, c1, a2, c2, a3, c3, a4, c4, a5, c5, a6, c6, rfl, ?_, ?_⟩
      · have h0 := HB.out
        exact ⟨g1.os.trans h0.os, g1.tape.trans h0.tape, g1.output.trans h0.output, by have := h0.size; have := g1.size; omega, fun q hq => (g1.block q (by have := h0.size; omega) (by omega)).trans (h0.block q hq)⟩
      · exact (HO.out.keep g1.size fun q q1 q2 q3 => g1.block q q3 (by omega)).wide (by omega) (by omega) (Nat.le_refl _)
    clear hb1
    go_wp2_with fail
    refine bodyPost_ret (v := .agg #[.int .i64 0, .int .i64 0, .int .i64 x, .slice a0 4 c0, .slice a1 4 c1, .slice a2 0 c2, .slice a3 0 c3, .slice a4 0 c4, .slice a5 0 c5, .slice a6 0 c6]) (by simp [results, Try.results10, go_sem, *]) rfl ?_
    refine HF.out _ ?_ (by simp [World.setCell])
    repeat (first | with_reducible exact WritesP.refl _ _ | with_reducible refine WritesP.setCell ?_ (by first | exact Or.inl rfl | exact Or.inr rfl) _)
  · have e1 : nsC x = 3 := if_neg (by simp [k1])
    have e2 : nsT x = zSt := if_neg (by simp [k1])
    rw [e1, e2]
    clear e1 e2
    go_enter Try.func10, Try.ntmps10
    go_wp2_with (first | (go_at_call 37; refine (l3Txn_any _ _).mono ?_; rintro e w' ⟨rfl, hq⟩; rw [hq, k1]; clear hq))
    refine (l12Bad_any 3 _).mono ?_
    rintro e w1 ⟨rfl, hb⟩
    obtain ⟨hc, hfz⟩ := bcell29 hb
    have hlt : w.heap.size < w1.heap.size := by have := hb.size; simp at this; omega
    have HB : Hid (Below w.heap.size w w1) := below_then (below_new _ _) hb
    clear hb
    go_wp2_with fail
    refine bodyPost_ret (v := .agg #[.int .i64 3, .int .i64 0, .int .i64 0, .slice none 0 0, .slice none 0 0, .slice none 0 0, .slice none 0 0, .slice none 0 0, .slice none 0 0, .slice none 0 0]) (by simp [results, Try.results10, go_sem, hc]) rfl (sres_bad ?_)
    repeat (first | with_reducible exact HB.out | refine Below.setCell ?_ (by first | omega | (simp <;> omega)) _)
theorem step_grPgD {ops : Array Oper} {o : Oper} {a : Act} {Kc : Act → World → Prop} {Q : Exit → Act → World → Prop} {Ee : Prop} (w : World) (d : Option Tmp) (hd : o.dst = d) (hgd : o.guard = none) (s x : Operand)
    (ho : o.op = .call { callee := .builtin .append, args := #[s, x], argTypes := #[36, 36] })
    (base top : Nat) (v : Value) (k : Nat) (T : Nat → Pg) (hs : a.eval s = v) (hgr : GrPg base top w v k T) (X O cx : Nat) (t : Pg) (ai : Option Addr) (ci l' h' : Nat) (hx : a.eval x = .slice (some ⟨X, O, none⟩) 1 cx) (hC : CPg w X O t ai ci)
    (hk : (h' = 0 ∨ top ≤ l' ∧ h' ≤ w.heap.size)) (hb : base ≤ top) (hn : t.cn ≤ ci) (hu : Own w l' h' ai t.cn t.cK t.cV) (hlen : k ≤ 100000)
    (hK : ∀ g cap w', GrPg base w'.heap.size w' (.slice (some ⟨g, 0, none⟩) (k + 1) cap) (k + 1) (upf9 T k t) → w.grownBy w' v.ownBlock → Kc (a.put d (.slice (some ⟨g, 0, none⟩) (k + 1) cap)) w') :
    if Region.wanted o (yielded ops a.tmps) = true then Oper.wp Try.prog o a w Kc Q else Ee := by
  subst hd
  exact step_grPg w hgd s x ho base top v k T hs hgr X O cx t ai ci l' h' hx hC hk hb hn hu hlen hK
theorem newPage_k (k : Nat) (hk : k < 4) (w : World) : Calls Try.prog 41 #[.int .i64 (k : Int)] w fun e w' => e = .returned (.agg #[.int .i64 0, .int .i64 (k : Int), .int .i64 0, .slice none 0 0]) ∧ Below w.heap.size w w' := by
  refine (implNew_any (k : Int) w).mono ?_
  rintro e w' ⟨rfl, hb⟩
  rw [newCode, newId, if_pos (by omega), if_pos (by omega)]
  exact ⟨rfl, hb⟩
set_option maxHeartbeats 8000000 in
theorem implNs_any (x : Int) (w : World) : Calls Try.prog 11 #[.int .i64 x] w (SRes (nsC x) 0 (nsT x) w) := by
  obtain k1 | k1 := boolor (inB x 1 999)
  case inr =>
    have e1 : nsC x = 3 := if_neg (by simp [k1])
    have e2 : nsT x = zSt := if_neg (by simp [k1])
    rw [e1, e2]
    clear e1 e2
    go_enter Try.func11, Try.ntmps11
    go_wp2_with (first | (go_at_call 26; refine (isTxn_any _ _).mono ?_; rintro e w' ⟨rfl, hq⟩; rw [hq, k1]; clear hq))
    refine bodyPost_ret (v := .agg #[.int .i64 3, .int .i64 0, .int .i64 0, .slice none 0 0, .slice none 0 0, .slice none 0 0, .slice none 0 0, .slice none 0 0, .slice none 0 0, .slice none 0 0]) (by simp [results, Try.results11, go_sem]) rfl (sres_bad ?_)
    repeat (first | with_reducible exact below_new _ _ | refine Below.setCell ?_ (by first | omega | (simp <;> omega)) _)
  have e1 : nsC x = 0 := if_pos k1
  have e2 : nsT x = stN x := if_pos k1
  rw [e1, e2]
  clear e1 e2
  go_enter Try.func11, Try.ntmps11
  go_wp2_with (first | (go_at_call 26; refine (isTxn_any _ _).mono ?_; rintro e w' ⟨rfl, hq⟩; rw [hq, k1]; clear hq))
  obtain ⟨W0, hW0⟩ : ∃ y, y = w.alloc (.cells #[.int .i64 0, .int .i64 0, .int .i64 0, .slice none 0 0, .slice none 0 0, .slice none 0 0, .slice none 0 0, .slice none 0 0, .slice none 0 0, .slice none 0 0] 48) := ⟨_, rfl⟩
  have HB0 : Hid (Below w.heap.size w W0) := by rw [hW0]; exact below_new _ _
  have HL0 : Hid (w.heap.size < W0.heap.size) := by rw [hW0]; show _ < _; simp
  have HZ : Hid ((∀ i, W0.frozen? ⟨w.heap.size, i, none⟩ = false) ∧ W0.cell? ⟨w.heap.size, 0, none⟩ = some (.int .i64 0) ∧ W0.cell? ⟨w.heap.size, 1, none⟩ = some (.int .i64 0) ∧ W0.cell? ⟨w.heap.size, 2, none⟩ = some (.int .i64 0) ∧ ∀ i, 3 ≤ i → i < 10 → W0.cell? ⟨w.heap.size, i, none⟩ = some (.slice none 0 0)) := by
    rw [hW0]
    refine ⟨fun i => by simp [go_sem], by simp [go_sem], by simp [go_sem], by simp [go_sem], fun i h1 h2 => ?_⟩
    have : i = 3 ∨ i = 4 ∨ i = 5 ∨ i = 6 ∨ i = 7 ∨ i = 8 ∨ i = 9 := by omega
    rcases this with rfl | rfl | rfl | rfl | rfl | rfl | rfl <;> simp [go_sem]
  rw [← hW0]
  clear hW0
  refine (implNd4 W0).mono ?_
  rintro e w1 ⟨da, dc, da', dc', rfl, hb, ho⟩
  have HN : Hid (NSi w W0 (w1.alloc (.cells #[.int .i64 x, .slice none 0 0, .slice da 4 dc, .slice da' 0 dc', .slice none 0 0, .slice none 0 0, .slice none 0 0, .slice none 0 0] 43)) w.heap.size w1.heap.size x (.slice none 0 0) 0 da da' dc dc' W0.heap.size w1.heap.size) := NSi.start HB0.out (Nat.le_refl _) HL0.out hb ho
  have hfd : ∀ u, (Instr.field 78 (.agg #[.int .i64 0, .slice da 4 dc, .slice da' 0 dc']) 1).run Try.prog u = .ok (.agg #[.slice da 4 dc, .slice da' 0 dc']) u := fun u => by kernel_rfl
  clear hb ho
  go_wp2_with fail
  clear hfd
  go_loopw [4, 13] (fun _ i wr => ∃ (k : Nat) (v : Value), k ≤ 4 ∧ i = .int .i64 k ∧ Hid (NSi w W0 wr w.heap.size w1.heap.size x v k da da' dc dc' W0.heap.size w1.heap.size)) (fun _ i _ => 4 - (intOf i).toNat)
  case atStart => exact ⟨0, _, by omega, rfl, HN⟩
  case round =>
    clear HN
    obtain ⟨k, v, hk, rfl, HR⟩ := hrel
    by_cases hlt : k < 4
    · have hlt' : (k : Int) < 4 := by omega
      go_upto_region 7 with fail
      refine wp_region_E 8 (S := fun u => u.cell? ⟨w1.heap.size, 1, none⟩ = some v) (by kernel_rfl) (HR.out.mono ((Below.refl _ _).drew)).bx.2.1 (fun hS => ?_)
      obtain ⟨u0, hu0⟩ : ∃ y, y = wr.drew := ⟨_, rfl⟩
      replace HR : Hid (NSi w W0 u0 w.heap.size w1.heap.size x v k da da' dc dc' W0.heap.size w1.heap.size) := by rw [hu0]; exact HR.out.mono ((Below.refl _ _).drew)
      rw [← hu0] at hS ⊢
      clear hu0
      refine wpAnyE_takeD (L := 8) (i := 0) (v := .pointer (some ⟨w1.heap.size, 1, none⟩)) (some 16) rfl rfl (by kernel_rfl) (by kernel_rfl) (by kernel_rfl) (by kernel_rfl) (fun _ _ _ h => h) (Or.inl ⟨by kernel_rfl, by intro u hSu; go_simp⟩) hS ?_
      try simp only [Act.put, List.setIfInBounds_toArray, List.set_cons_zero, List.set_cons_succ]
      refine wpAnyE_takeD (L := 8) (i := 1) (v := v) (some 17) rfl rfl (by kernel_rfl) (by kernel_rfl) (by kernel_rfl) (by kernel_rfl) (fun _ _ _ h => h) (Or.inl ⟨by kernel_rfl, by intro u hSu; go_simp⟩) hS ?_
      try simp only [Act.put, List.setIfInBounds_toArray, List.set_cons_zero, List.set_cons_succ]
      refine wpAnyE_takeD (L := 8) (i := 2) (v := .int .i64 (k : Int)) (some 18) rfl rfl (by kernel_rfl) (by kernel_rfl) (by kernel_rfl) (by kernel_rfl) (fun _ _ _ h => h) (Or.inl ⟨by kernel_rfl, by intro u hSu; go_simp⟩) hS ?_
      try simp only [Act.put, List.setIfInBounds_toArray, List.set_cons_zero, List.set_cons_succ]
      refine wpAnyE_ready (rs := [3]) (by kernel_rfl) (by simp) ?_
      refine AllReadyE.cons rfl (fun K9 hK => ?_) AllReadyE.nil
      go_simp
      refine (newPage_k k hlt u0).mono ?_
      rintro e u1 ⟨rfl, hb⟩
      replace HR : Hid (NSi w W0 u1 w.heap.size w1.heap.size x v k da da' dc dc' W0.heap.size w1.heap.size) := HR.out.mono hb
      clear hb
      refine hK.out _ _ (HR.out.bx.2.1) (fun hS9 => ?_)
      try simp only [Act.put, List.setIfInBounds_toArray, List.set_cons_zero, List.set_cons_succ]
      clear hK K9 hS
      have hS := hS9
      clear hS9
      have hfp : ∀ u, (Instr.field 81 (.agg #[.int .i64 0, .int .i64 (k : Int), .int .i64 0, .slice none 0 0]) 1).run Try.prog u = .ok (.agg #[.int .i64 (k : Int), .int .i64 0, .slice none 0 0]) u := fun u => by kernel_rfl
      refine wpAnyE_takeD (L := 8) (i := 4) (v := .agg #[.int .i64 (k : Int), .int .i64 0, .slice none 0 0]) (some 20) rfl rfl (by kernel_rfl) (by kernel_rfl) (by kernel_rfl) (by kernel_rfl) (fun _ _ _ h => h) (Or.inl ⟨by kernel_rfl, by intro u hSu; go_simp⟩) hS ?_
      try simp only [Act.put, List.setIfInBounds_toArray, List.set_cons_zero, List.set_cons_succ]
      clear hfp
      refine wpAnyE_ready (rs := [5]) (by kernel_rfl) (by simp) ?_
      refine AllReadyE.cons rfl (fun K9 hK => ?_) AllReadyE.nil
      go_simp
      obtain ⟨u2, hW⟩ : ∃ y, y = u1.alloc (.cells #[.int .i64 (k : Int), .int .i64 0, .slice none 0 0] 67) := ⟨_, rfl⟩
      have hbn : Below u1.heap.size u1 u2 := by rw [hW]; exact below_new _ _
      have hC : CPg u2 u1.heap.size 0 (nP k) none 0 := by rw [hW]; exact lit_pg u1 k
      have HG : Hid (GrPg (w1.heap.size + 1) u1.heap.size u2 v k nP) := HR.out.gr.below hbn
      have HLT : Hid (w1.heap.size + 1 ≤ u1.heap.size) := HR.out.sz
      have HX : Hid (u1.heap.size < u2.heap.size) := by rw [hW]; show _ < _; simp
      rw [← hW]
      clear hW
      replace HR : Hid (NSi w W0 u2 w.heap.size w1.heap.size x v k da da' dc dc' W0.heap.size w1.heap.size) := HR.out.mono hbn
      clear hbn
      refine hK.out _ _ (HR.out.bx.2.1) (fun hS9 => ?_)
      try simp only [Act.put, List.setIfInBounds_toArray, List.set_cons_zero, List.set_cons_succ]
      clear hK K9 hS
      have hS := hS9
      clear hS9
      refine wpAnyE_ready (rs := [6]) (by kernel_rfl) (by simp) ?_
      refine AllReadyE.cons rfl (fun K9 hK => ?_) AllReadyE.nil
      refine step_grPgD u2 (some 22) rfl rfl (.tmp 17) (.tmp 21) rfl (w1.heap.size + 1) u1.heap.size v k nP rfl HG.out u1.heap.size 0 1 (nP k) none 0 0 0 rfl hC (.inl rfl) HLT.out (Nat.le_refl _) (own_none _ _ _) (by omega) (fun g cap w2 hgr hg => ?_)
      obtain ⟨hn2, c12, cf2⟩ := HR.out.app hg hgr
      have HN2 : Hid (NSi w W0 (w2.setCell ⟨w1.heap.size, 1, none⟩ (.slice (some ⟨g, 0, none⟩) (k + 1) cap)) w.heap.size w1.heap.size x (.slice (some ⟨g, 0, none⟩) (k + 1) cap) (k + 1) da da' dc dc' W0.heap.size w1.heap.size) := hn2
      clear hn2 hgr hg HG HR hC
      refine hK.out _ _ (c12) (fun hS9 => ?_)
      try simp only [Act.put, List.setIfInBounds_toArray, List.set_cons_zero, List.set_cons_succ]
      clear hK K9 hS
      have hS := hS9
      clear hS9
      refine wpAnyE_takeD (L := 8) (i := 7) (v := .pointer (some ⟨w1.heap.size, 1, none⟩)) (some 23) rfl rfl (by kernel_rfl) (by kernel_rfl) (by kernel_rfl) (by kernel_rfl) (fun _ _ _ h => h) (Or.inl ⟨by kernel_rfl, by intro u hSu; go_simp⟩) hS ?_
      try simp only [Act.put, List.setIfInBounds_toArray, List.set_cons_zero, List.set_cons_succ]
      refine wpAnyE_ready (rs := [8]) (by kernel_rfl) (by simp) ?_
      refine AllReadyE.last rfl (fun K9 hK => ?_)
      go_simp
      refine hK.out _ _ ?_
      try simp only [Act.put, List.setIfInBounds_toArray, List.set_cons_zero, List.set_cons_succ]
      clear hK K9 hS
      refine wpAnyE_done (by kernel_rfl) ?_ _
      go_simp
      go_wp2_with fail
      go_roundw
      case rel => exact ⟨k + 1, _, by omega, by go_num, HN2⟩
      case measure => simp [intOf]; omega
    · have hk4 : k = 4 := by omega
      subst hk4
      have hnl : ¬ (((4 : Nat) : Int) < 4) := by omega
      have hlR := HR.out.sz
      have hz2 := HL0.out
      have hz3 := HR.out.lh
      have hz4 := HR.out.lB
      obtain ⟨pa, pc, rfl, -⟩ := HR.out.gr.own
      have HF : Hid (∀ w7, Writes w.heap.size (w.heap.size + 1) wr w7 → w7.heap.size = wr.heap.size → SRes 0 0 (stN x) w (.returned (.agg #[.int .i64 0, .int .i64 0, .int .i64 x, .slice pa 4 pc, .slice da 4 dc, .slice da' 0 dc', .slice none 0 0, .slice none 0 0, .slice none 0 0, .slice none 0 0])) w7) := fun w7 g1 g2 => by
        obtain ⟨pa', pc', e9, hB9, hO9⟩ := HR.out.fin w.heap.size (w.heap.size + 1) (Nat.le_refl _) (by omega) (.inl (by omega)) g1 g2
        obtain ⟨rfl, -, rfl⟩ := Value.slice.inj e9
        exact ⟨pa, pc, da, dc, da', dc', none, 0, none, 0, none, 0, none, 0, rfl, hB9, hO9⟩
      obtain ⟨y0, y1, y2, y3, y4, y5, y6, y7⟩ := HR.out.bx
      have hf : ∀ i, wr.frozen? ⟨w.heap.size, i, none⟩ = false := fun i => (frozen_of_res HR.out.res).trans (HZ.out.1 i)
      have hr := HR.out.res
      have z0 := (cell_of_res (i := 0) hr).trans HZ.out.2.1
      have z1 := (cell_of_res (i := 1) hr).trans HZ.out.2.2.1
      have z2 := (cell_of_res (i := 2) hr).trans HZ.out.2.2.2.1
      have z3 := (cell_of_res (i := 3) hr).trans (HZ.out.2.2.2.2 3 (by omega) (by omega))
      have z4 := (cell_of_res (i := 4) hr).trans (HZ.out.2.2.2.2 4 (by omega) (by omega))
      have z5 := (cell_of_res (i := 5) hr).trans (HZ.out.2.2.2.2 5 (by omega) (by omega))
      have z6 := (cell_of_res (i := 6) hr).trans (HZ.out.2.2.2.2 6 (by omega) (by omega))
      have z7 := (cell_of_res (i := 7) hr).trans (HZ.out.2.2.2.2 7 (by omega) (by omega))
      have z8 := (cell_of_res (i := 8) hr).trans (HZ.out.2.2.2.2 8 (by omega) (by omega))
      have z9 := (cell_of_res (i := 9) hr).trans (HZ.out.2.2.2.2 9 (by omega) (by omega))
      clear HR hr HZ
      go_wp2_with fail
      refine bodyPost_ret (v := .agg #[.int .i64 0, .int .i64 0, .int .i64 x, .slice pa 4 pc, .slice da 4 dc, .slice da' 0 dc', .slice none 0 0, .slice none 0 0, .slice none 0 0, .slice none 0 0]) (by simp [results, Try.results11, go_sem, *]) rfl ?_
      refine HF.out _ ?_ (by simp [World.setCell])
      repeat (first | with_reducible exact Writes.refl _ _ _ | with_reducible refine Writes.setCell ?_ (by first | omega | (simp <;> omega)) (by first | omega | (simp <;> omega)) _)
end Go.Proofs.Ytjggplfhkejbbaa
