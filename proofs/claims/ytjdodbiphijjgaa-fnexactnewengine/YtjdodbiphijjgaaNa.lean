/- NewEngine: what is answered; an engine that grows row by row in a box; the program's walk. -/
import Derived.Test.YtjdodbiphijjgaaEgr
import Derived.Test.YtjdodbiphijjgaaFault
import Derived.BigQuiet
namespace Go.Proofs.Ytjdodbiphijjgaa
open Go.RowKit Go.Deep
set_option linter.unusedVariables false
set_option maxRecDepth 20000

/-- The row of a cell. -/
def rnE (K V : Nat → Int) (i : Nat) : Rw := ⟨K i, 1, fun _ => ⟨1, 1, false, V i⟩⟩
def zEn : En := ⟨0, 0, 0, fun _ => zTx, 0, fun _ => zRw⟩
def neC (n : Nat) (K V : Nat → Int) : Int := if 20 < n then 2 else cff K V n 0
def neE (n : Nat) (K V : Nat → Int) : En := ⟨2, if n = 0 then 0 else 1, 0, fun _ => zTx, n, rnE K V⟩
def neR (n : Nat) (K V : Nat → Int) : En := if neC n K V = 0 then neE n K V else zEn
/-- An answer that is an engine, of the call's own. -/
def ERes (c v : Int) (E : En) (w : World) (e : Ending) (w' : World) : Prop := ∃ a cap a' cap', e = .returned (.agg #[.int .i64 c, .int .i64 v, .int .i64 E.nx, .int .i64 E.ck, .slice a E.p cap, .slice a' E.q cap']) ∧ Below w.heap.size w w' ∧ OwnE w' w.heap.size w'.heap.size a a' E
theorem zEn_own (w : World) (lo : Nat) (h : lo ≤ w.heap.size) : OwnE w lo w.heap.size none none zEn :=
  ⟨Nat.le_refl _, lo, lo, lo, lo, Nat.le_refl _, h, Nat.le_refl _, h, .inl (Nat.le_refl _), ⟨h, .inl rfl⟩, ⟨h, .inl rfl⟩⟩
theorem eres_bad {c : Int} {w w' : World} (hb : Below w.heap.size w w') : ERes c 0 zEn w (.returned (.agg #[.int .i64 c, .int .i64 0, .int .i64 0, .int .i64 0, .slice none 0 0, .slice none 0 0])) w' :=
  ⟨none, 0, none, 0, rfl, hb, zEn_own _ _ hb.size⟩
/-- k rows were appended to the engine in block B; the answer's block is w.heap.size. -/
structure NEi (w wr : World) (B : Nat) (v : Value) (k : Nat) (K V : Nat → Int) (ck : Int) : Prop where
  below : Below w.heap.size w wr
  hB : w.heap.size < B
  hsz : B + 1 ≤ wr.heap.size
  e0 : wr.cell? ⟨B, 0, none⟩ = some (.int .i64 2)
  e1 : wr.cell? ⟨B, 1, none⟩ = some (.int .i64 ck)
  e2 : wr.cell? ⟨B, 2, none⟩ = some (.slice none 0 0)
  e3 : wr.cell? ⟨B, 3, none⟩ = some v
  ef : ∀ o, wr.frozen? ⟨B, o, none⟩ = false
  r0 : wr.cell? ⟨w.heap.size, 0, none⟩ = some (.int .i64 0)
  r1 : wr.cell? ⟨w.heap.size, 1, none⟩ = some (.int .i64 0)
  r2 : wr.cell? ⟨w.heap.size, 2, none⟩ = some (.int .i64 0)
  r3 : wr.cell? ⟨w.heap.size, 3, none⟩ = some (.int .i64 0)
  r4 : wr.cell? ⟨w.heap.size, 4, none⟩ = some (.slice none 0 0)
  r5 : wr.cell? ⟨w.heap.size, 5, none⟩ = some (.slice none 0 0)
  rf : ∀ o, wr.frozen? ⟨w.heap.size, o, none⟩ = false
  gr : GrRw (B + 1) wr.heap.size wr v k (rnE K V)
theorem NEi.mono {w wr wq : World} {B : Nat} {v : Value} {k : Nat} {K V : Nat → Int} {ck : Int} (h : NEi w wr B v k K V ck) (hb : Below wr.heap.size wr wq) : NEi w wq B v k K V ck := by
  have hs := h.hsz
  have hB := h.hB
  exact ⟨below_then h.below hb, hB, Nat.le_trans hs hb.size, cell_below h.e0 hb, cell_below h.e1 hb, cell_below h.e2 hb, cell_below h.e3 hb, fun o => (hb.frozen (p := ⟨B, o, none⟩) (by show B < _; omega)).trans (h.ef o),
    cell_below h.r0 hb, cell_below h.r1 hb, cell_below h.r2 hb, cell_below h.r3 hb, cell_below h.r4 hb, cell_below h.r5 hb, fun o => (hb.frozen (p := ⟨w.heap.size, o, none⟩) (by show w.heap.size < _; omega)).trans (h.rf o), (h.gr.below hb).wide hb.size (Nat.le_refl _)⟩
theorem NEi.clock {w wr : World} {B : Nat} {v : Value} {k : Nat} {K V : Nat → Int} {ck : Int} (h : NEi w wr B v k K V ck) : NEi w (wr.setCell ⟨B, 1, none⟩ (.int .i64 1)) B v k K V 1 := by
  have hB := h.hB
  have hz : (wr.setCell ⟨B, 1, none⟩ (.int .i64 1)).heap.size = wr.heap.size := by simp [World.setCell]
  have o : ∀ (b i : Nat), b ≠ B → (wr.setCell ⟨B, 1, none⟩ (.int .i64 1)).cell? ⟨b, i, none⟩ = wr.cell? ⟨b, i, none⟩ := fun b i hne => World.cell?_setCell_other _ _ _ _ (by intro e; exact hne (congrArg Addr.block e).symm)
  refine ⟨h.below.setCell (p := ⟨B, 1, none⟩) (by show w.heap.size ≤ B; omega) _, hB, by rw [hz]; exact h.hsz, (setO (by omega)).trans h.e0, setS h.e1, (setO (by omega)).trans h.e2, (setO (by omega)).trans h.e3, fun o => by rw [World.frozen?_setCell]; exact h.ef o,
    (o _ _ (by omega)).trans h.r0, (o _ _ (by omega)).trans h.r1, (o _ _ (by omega)).trans h.r2, (o _ _ (by omega)).trans h.r3, (o _ _ (by omega)).trans h.r4, (o _ _ (by omega)).trans h.r5, fun o => by rw [World.frozen?_setCell]; exact h.rf o, ?_⟩
  rw [hz]
  exact h.gr.writes (Writes.setCell (Writes.refl B (B + 1) _) (p := ⟨B, 1, none⟩) (Nat.le_refl _) (Nat.lt_succ_self _) _) (.inl (Nat.le_refl _))
theorem NEi.app {w wr w' : World} {B g cap : Nat} {v : Value} {k : Nat} {K V : Nat → Int} {ck : Int} (h : NEi w wr B v k K V ck) (hg : wr.grownBy w' v.ownBlock) (hgr : GrRw (B + 1) w'.heap.size w' (.slice (some ⟨g, 0, none⟩) (k + 1) cap) (k + 1) (upf (rnE K V) k (rnE K V k))) :
    NEi w (w'.setCell ⟨B, 3, none⟩ (.slice (some ⟨g, 0, none⟩) (k + 1) cap)) B (.slice (some ⟨g, 0, none⟩) (k + 1) cap) (k + 1) K V ck ∧ w'.cell? ⟨B, 3, none⟩ = some v ∧ (∀ o, w'.frozen? ⟨B, o, none⟩ = false) ∧ w'.cell? ⟨B, 1, none⟩ = some (.int .i64 ck) := by
  have hB := h.hB
  have hs := h.hsz
  have hgs := hg.size
  have hz : (w'.setCell ⟨B, 3, none⟩ (.slice (some ⟨g, 0, none⟩) (k + 1) cap)).heap.size = w'.heap.size := by simp [World.setCell]
  have hne : ∀ q, q < B + 1 → some q ≠ v.ownBlock := fun q hq e => by
    obtain ⟨_, _, _, _, _, ho, _⟩ := h.gr
    have := (ho.lt q e.symm).1
    omega
  have hblk : ∀ q, q < B + 1 → w'.heap[q]? = wr.heap[q]? := fun q hq => hg.block q (by omega) (hne q hq)
  have c : ∀ q i, q < B + 1 → w'.cell? ⟨q, i, none⟩ = wr.cell? ⟨q, i, none⟩ := fun q i hq => World.cell?_of_block (w := wr) (a := ⟨q, i, none⟩) (hblk q hq)
  have f : ∀ q i, q < B + 1 → w'.frozen? ⟨q, i, none⟩ = wr.frozen? ⟨q, i, none⟩ := fun q i hq => World.frozen?_of_block (w := wr) (a := ⟨q, i, none⟩) (hblk q hq)
  have o : ∀ (b i : Nat), b ≠ B → (w'.setCell ⟨B, 3, none⟩ (.slice (some ⟨g, 0, none⟩) (k + 1) cap)).cell? ⟨b, i, none⟩ = w'.cell? ⟨b, i, none⟩ := fun b i hne => World.cell?_setCell_other _ _ _ _ (by intro e; exact hne (congrArg Addr.block e).symm)
  refine ⟨⟨(h.below.grown hg (by omega) fun q hq => by
      have : ¬ q < B + 1 := fun hlt => hne q hlt hq.symm
      omega).setCell (p := ⟨B, 3, none⟩) (by show w.heap.size ≤ B; omega) _, hB, by rw [hz]; omega, (setO (by omega)).trans ((c _ _ (by omega)).trans h.e0), (setO (by omega)).trans ((c _ _ (by omega)).trans h.e1), (setO (by omega)).trans ((c _ _ (by omega)).trans h.e2), setS ((c _ _ (by omega)).trans h.e3), fun o => by rw [World.frozen?_setCell, f _ _ (by omega)]; exact h.ef o,
    (o _ _ (by omega)).trans ((c _ _ (by omega)).trans h.r0), (o _ _ (by omega)).trans ((c _ _ (by omega)).trans h.r1), (o _ _ (by omega)).trans ((c _ _ (by omega)).trans h.r2), (o _ _ (by omega)).trans ((c _ _ (by omega)).trans h.r3), (o _ _ (by omega)).trans ((c _ _ (by omega)).trans h.r4), (o _ _ (by omega)).trans ((c _ _ (by omega)).trans h.r5), fun o => by rw [World.frozen?_setCell, f _ _ (by omega)]; exact h.rf o, ?_⟩, (c _ _ (by omega)).trans h.e3, fun o => (f _ _ (by omega)).trans (h.ef o), (c _ _ (by omega)).trans h.e1⟩
  rw [hz]
  refine GrRw.congr (hgr.writes (Writes.setCell (Writes.refl B (B + 1) _) (p := ⟨B, 3, none⟩) (Nat.le_refl _) (Nat.lt_succ_self _) _) (.inl (Nat.le_refl _))) fun i hi => ?_
  by_cases e : i = k
  · subst e; exact upf_eq _ _ _
  · exact upf_ne _ _ e
/-- The end: the engine is loaded and stored into the answer. -/
theorem NEi.fin {w wr w7 : World} {B : Nat} {a : Option Addr} {cap n : Nat} {K V : Nat → Int} {ck : Int} (h : NEi w wr B (.slice a n cap) n K V ck) (hck : ck = if n = 0 then 0 else 1) (hw : Writes w.heap.size (w.heap.size + 1) wr w7) (hs : w7.heap.size = wr.heap.size) :
    ERes 0 0 (neE n K V) w (.returned (.agg #[.int .i64 0, .int .i64 0, .int .i64 2, .int .i64 ck, .slice none 0 0, .slice a n cap])) w7 := by
  have hB := h.hB
  have hsz := h.hsz
  obtain ⟨a', cap', e, _, ho⟩ := h.gr.own
  simp only [Value.slice.injEq, true_and] at e
  obtain ⟨rfl, rfl⟩ := e
  refine ⟨none, 0, a, cap, by rw [hck]; rfl, Writes.below h.below hw (Nat.le_refl _), ?_⟩
  have h2 := ho.writes hw (.inr (by omega))
  exact ⟨Nat.le_refl _, w.heap.size, w.heap.size, B + 1, wr.heap.size, Nat.le_refl _, by omega, by omega, by omega, .inl (by omega), ⟨by omega, .inl rfl⟩, h2⟩
/-- A row of one version, written out. -/
theorem lit_row {w0 : World} {X Y : Nat} (key : Int) (r : Vr) (hX : w0.heap.size = X) (hY : X + 1 = Y) :
    CRw ((w0.alloc (.cells #[.int .i64 r.t, .int .i64 r.a, .bool r.g, .int .i64 r.v] 43)).alloc (.cells #[.int .i64 key, .slice (some ⟨X, 0, none⟩) 1 1] 46)) Y 0 ⟨key, 1, fun _ => r⟩ (some ⟨X, 0, none⟩) 1 ∧
    Own4 ((w0.alloc (.cells #[.int .i64 r.t, .int .i64 r.a, .bool r.g, .int .i64 r.v] 43)).alloc (.cells #[.int .i64 key, .slice (some ⟨X, 0, none⟩) 1 1] 46)) X Y (some ⟨X, 0, none⟩) 1 (fun _ => r) := by
  subst hX hY
  refine ⟨⟨by simp [go_sem], by simp [go_sem]⟩, by simp, .inr ⟨_, 0, rfl, Nat.le_refl _, Nat.lt_succ_self _, fun i hi => ?_, fun i => by simp [go_sem]⟩⟩
  have : i = 0 := by omega
  subst this
  exact ⟨by simp [go_sem], by simp [go_sem], by simp [go_sem], by simp [go_sem]⟩
set_option maxHeartbeats 4000000 in
theorem implNe_ok (n : Nat) (K V : Nat → Int) (a : Option Addr) (cap : Nat) (w : World) (hn : n ≤ 20) (hc : cff K V n 0 = 0) (h : CellsAt w a n K V) :
    Calls Try.prog 7 #[.slice a n cap] w (ERes 0 0 (neE n K V) w) := by
  have HA : Hid (CellsAt w a n K V) := h
  have hn' : ¬ ((20 : Int) < (n : Int)) := by omega
  clear h
  go_enter Try.func7, Try.ntmps7
  go_wp2_with fail
  refine (cellsFault_any n K V a cap _ (by omega) (HA.out.below (below_new _ _))).mono ?_
  rintro e w1 ⟨rfl, hb1⟩
  rw [hc]
  have HB1 : Hid (Below w.heap.size w w1) := below_then (below_new _ _) hb1
  have HN : Hid (∀ o : Obj, o = .cells #[.int .i64 2, .int .i64 0, .slice none 0 0, .slice none 0 0] 27 → NEi w (w1.alloc o) w1.heap.size (.slice none 0 0) 0 K V 0) := by
    rintro o rfl
    obtain ⟨hcc, hff⟩ := bcell2 hb1
    have hz : w.heap.size < w1.heap.size := by have := hb1.size; simp at this; omega
    have cz : ∀ i, (w1.alloc (.cells #[.int .i64 2, .int .i64 0, .slice none 0 0, .slice none 0 0] 27)).cell? ⟨w.heap.size, i, none⟩ = w1.cell? ⟨w.heap.size, i, none⟩ := fun i => World.cell?_alloc_lt _ _ _ hz
    have fzz : ∀ i, (w1.alloc (.cells #[.int .i64 2, .int .i64 0, .slice none 0 0, .slice none 0 0] 27)).frozen? ⟨w.heap.size, i, none⟩ = w1.frozen? ⟨w.heap.size, i, none⟩ := fun i => (below_new w1 _).frozen (p := ⟨w.heap.size, i, none⟩) hz
    refine ⟨HB1.out.alloc (by omega) _, hz, by simp, by simp [go_sem], by simp [go_sem], by simp [go_sem], by simp [go_sem], fun o => by simp [go_sem], ?_, ?_, ?_, ?_, ?_, ?_, fun o => ?_, GrRw.nil _ _ _⟩
    · rw [cz, hcc _ _ (by simp)]; simp [go_sem]
    · rw [cz, hcc _ _ (by simp)]; simp [go_sem]
    · rw [cz, hcc _ _ (by simp)]; simp [go_sem]
    · rw [cz, hcc _ _ (by simp)]; simp [go_sem]
    · rw [cz, hcc _ _ (by simp)]; simp [go_sem]
    · rw [cz, hcc _ _ (by simp)]; simp [go_sem]
    · rw [fzz, hff _ _ (by simp)]; simp [go_sem]
  clear hb1 hc
  go_wp2_with fail
  go_loopw [6, 7, 21] (fun _ _ i wr => ∃ k : Nat, ∃ v, k ≤ n ∧ i = .int .i64 k ∧ Hid (NEi w wr w1.heap.size v k K V (if k = 0 then 0 else 1))) (fun _ _ i _ => n - (intOf i).toNat)
  case atStart => exact ⟨0, .slice none 0 0, Nat.zero_le _, rfl, HN.out _ rfl⟩
  case round =>
    obtain ⟨k, v, hk, rfl, HR⟩ := hrel
    by_cases hlt : k < n
    · have hlt' : (k : Int) < (n : Int) := by omega
      have hk0 : (0 : Int) ≤ (k : Int) := by omega
      rcases HA.out.below HR.out.below with h | ⟨b, off, rfl, hl, hKK, hVV⟩
      · omega
      have q0 := hKK k hlt
      have q1 := hVV k hlt
      have c1 := HR.out.e1
      have c3 := HR.out.e3
      have cf := HR.out.ef
      have hB := HR.out.hsz
      have HW : Hid (∀ o1 o2 : Obj, NEi w (((wr.alloc o1).setCell ⟨w1.heap.size, 1, none⟩ (.int .i64 1)).alloc o2) w1.heap.size v k K V 1) := fun o1 o2 => (HR.out.mono (below_new _ _)).clock.mono (below_new _ _)
      have hX : ∀ o1 o2 : Obj, (((wr.alloc o1).setCell ⟨w1.heap.size, 1, none⟩ (.int .i64 1)).alloc o2).heap.size = wr.heap.size + 1 + 1 := fun o1 o2 => by simp [World.setCell]
      have HG : Hid (∀ o1 o2 o3 o4 : Obj, GrRw (w1.heap.size + 1) (wr.heap.size + 1 + 1) (((((wr.alloc o1).setCell ⟨w1.heap.size, 1, none⟩ (.int .i64 1)).alloc o2).alloc o3).alloc o4) v k (rnE K V)) := fun o1 o2 o3 o4 => by
        have h := (HW.out o1 o2).gr
        rw [hX] at h
        exact (h.below (below_new _ _)).below (below_new _ _)
      have HX : Hid (∀ o1 o2 : Obj, (((wr.alloc o1).setCell ⟨w1.heap.size, 1, none⟩ (.int .i64 1)).alloc o2).heap.size = wr.heap.size + 1 + 1) := hX
      have e1 : (if k + 1 = 0 then (0 : Int) else 1) = 1 := by simp
      have d1 := fun o : Obj => cell_alloc c1 o
      have df : ∀ (o : Obj) (i : Nat), (wr.alloc o).frozen? ⟨w1.heap.size, i, none⟩ = false := fun o i => (HR.out.mono (below_new _ o)).ef i
      have d3 := fun o1 o2 => (HW.out o1 o2).e3
      have hne : ¬ (w1.heap.size = wr.heap.size) := by omega
      have hne' : ¬ (wr.heap.size = w1.heap.size) := by omega
      clear hKK hVV HN HR hX
      go_wp2_with (at_builtin; refine wpList_grRw _ rfl (.tmp 30) (.tmp 36) rfl (w1.heap.size + 1) (wr.heap.size + 1 + 1) v k (rnE K V) rfl (HG.out _ _ _ _) (wr.heap.size + 1 + 1 + 1) 0 1 (rnE K V k) (some ⟨wr.heap.size + 1 + 1, 0, none⟩) 1 (wr.heap.size + 1 + 1) (wr.heap.size + 1 + 1 + 1) rfl (lit_row (K k) ⟨1, 1, false, V k⟩ (HX.out _ _) rfl).1 (.inr ⟨Nat.le_refl _, by simp [World.setCell]⟩) (by omega) (Nat.le_refl _) (lit_row (K k) ⟨1, 1, false, V k⟩ (HX.out _ _) rfl).2 (by omega) ?_)
      intro g cap' w2 hgr hg
      obtain ⟨hn2, c32, cf2, c12⟩ := NEi.app (((HW.out _ _).mono (below_new _ _)).mono (below_new _ _)) hg hgr
      have HN2 : Hid (NEi w (w2.setCell ⟨w1.heap.size, 3, none⟩ (.slice (some ⟨g, 0, none⟩) (k + 1) cap')) w1.heap.size (.slice (some ⟨g, 0, none⟩) (k + 1) cap') (k + 1) K V (if k + 1 = 0 then 0 else 1)) := by rw [e1]; exact hn2
      clear hn2 hgr hg HW HG HX c1 c3 cf q0 q1
      go_wp2_with fail
      go_roundw
      case rel => exact ⟨k + 1, _, hlt, by go_num, HN2⟩
      case measure => simp [intOf]; omega
    · have hkn : k = n := by omega
      subst hkn
      have hnl : ¬ ((k : Int) < (k : Int)) := by omega
      obtain ⟨a5, cap5, rfl, -⟩ := HR.out.gr.own
      obtain ⟨-, hB, hsz, e0, e1, e2, e3, ef, r0, r1, r2, r3, r4, r5, rf, -⟩ := HR.out
      have HF : Hid (∀ w7, Writes w.heap.size (w.heap.size + 1) wr w7 → w7.heap.size = wr.heap.size → ERes 0 0 (neE k K V) w (.returned (.agg #[.int .i64 0, .int .i64 0, .int .i64 2, .int .i64 (if k = 0 then 0 else 1), .slice none 0 0, .slice a5 k cap5])) w7) := fun w7 h1 h2 => HR.out.fin rfl h1 h2
      generalize (if k = 0 then (0 : Int) else 1) = ck at *
      clear HN HR
      go_wp2_with fail
      refine bodyPost_ret (v := .agg #[.int .i64 0, .int .i64 0, .int .i64 2, .int .i64 ck, .slice none 0 0, .slice a5 k cap5]) (by simp [results, Try.results7, go_sem, *]) rfl ?_
      refine HF.out _ ?_ (by simp [World.setCell])
      repeat (first | with_reducible exact Writes.refl _ _ _ | with_reducible refine Writes.setCell ?_ (by first | omega | (simp <;> omega)) (by first | omega | (simp <;> omega)) _)
theorem implNe_many (n : Nat) (a : Option Addr) (cap : Nat) (w : World) (hn : 20 < n) :
    Calls Try.prog 7 #[.slice a n cap] w (ERes 2 0 zEn w) := by
  have hn' : (20 : Int) < (n : Int) := by omega
  have HF : Hid (∀ w', Below w.heap.size w w' → ERes 2 0 zEn w (.returned (.agg #[.int .i64 2, .int .i64 0, .int .i64 0, .int .i64 0, .slice none 0 0, .slice none 0 0])) w') := fun w' h => eres_bad h
  go_enter Try.func7, Try.ntmps7
  go_wp2_with fail
  refine bodyPost_ret (v := .agg #[.int .i64 2, .int .i64 0, .int .i64 0, .int .i64 0, .slice none 0 0, .slice none 0 0]) (by simp [results, Try.results7, go_sem]) rfl ?_
  refine HF.out _ ?_
  repeat (first | with_reducible exact Below.refl _ _ | with_reducible refine Below.setCell ?_ (by first | omega | (simp <;> omega)) _ | with_reducible refine Below.alloc ?_ (Nat.le_refl _) _)
theorem implNe_bad (n : Nat) (K V : Nat → Int) (a : Option Addr) (cap : Nat) (w : World) (hn : n ≤ 20) (c : Int) (hc : cff K V n 0 = c) (hc0 : c ≠ 0) (h : CellsAt w a n K V) :
    Calls Try.prog 7 #[.slice a n cap] w (ERes c 0 zEn w) := by
  have hn' : ¬ ((20 : Int) < (n : Int)) := by omega
  have HA : Hid (CellsAt w a n K V) := h
  have HF : Hid (∀ w', Below w.heap.size w w' → ERes c 0 zEn w (.returned (.agg #[.int .i64 c, .int .i64 0, .int .i64 0, .int .i64 0, .slice none 0 0, .slice none 0 0])) w') := fun w' h => eres_bad h
  clear h
  go_enter Try.func7, Try.ntmps7
  go_wp2_with fail
  refine (cellsFault_any n K V a cap _ (by omega) (HA.out.below (below_new _ _))).mono ?_
  rintro e w1 ⟨rfl, hb1⟩
  rw [hc]
  have HB1 : Hid (Below w.heap.size w w1) := below_then (below_new _ _) hb1
  obtain ⟨hcc, hff⟩ := bcell2 hb1
  have hc1 : (c != 0) = true := by simp [hc0]
  have r0 : w1.cell? ⟨w.heap.size, 0, none⟩ = some (.int .i64 0) := by rw [hcc _ _ (by simp)]; simp [go_sem]
  have r1 : w1.cell? ⟨w.heap.size, 1, none⟩ = some (.int .i64 0) := by rw [hcc _ _ (by simp)]; simp [go_sem]
  have r2 : w1.cell? ⟨w.heap.size, 2, none⟩ = some (.int .i64 0) := by rw [hcc _ _ (by simp)]; simp [go_sem]
  have r3 : w1.cell? ⟨w.heap.size, 3, none⟩ = some (.int .i64 0) := by rw [hcc _ _ (by simp)]; simp [go_sem]
  have r4 : w1.cell? ⟨w.heap.size, 4, none⟩ = some (.slice none 0 0) := by rw [hcc _ _ (by simp)]; simp [go_sem]
  have r5 : w1.cell? ⟨w.heap.size, 5, none⟩ = some (.slice none 0 0) := by rw [hcc _ _ (by simp)]; simp [go_sem]
  have rf : ∀ i, w1.frozen? ⟨w.heap.size, i, none⟩ = false := fun i => by rw [hff _ _ (by simp)]; simp [go_sem]
  clear hcc hff hb1 hc
  go_wp2_with fail
  refine bodyPost_ret (v := .agg #[.int .i64 c, .int .i64 0, .int .i64 0, .int .i64 0, .slice none 0 0, .slice none 0 0]) (by simp [results, Try.results7, go_sem, *]) rfl ?_
  refine HF.out _ ?_
  repeat (first | with_reducible exact HB1.out | with_reducible refine Below.setCell ?_ (by first | omega | (simp <;> omega)) _)
theorem implNe_any (n : Nat) (K V : Nat → Int) (a : Option Addr) (cap : Nat) (w : World) (h : CellsAt w a n K V) :
    Calls Try.prog 7 #[.slice a n cap] w (ERes (neC n K V) 0 (neR n K V) w) := by
  unfold neR
  by_cases h1 : 20 < n
  · have e : neC n K V = 2 := by rw [neC, if_pos h1]
    rw [e, if_neg (by decide)]
    exact implNe_many n a cap w h1
  · have e : neC n K V = cff K V n 0 := by rw [neC, if_neg h1]
    by_cases h2 : cff K V n 0 = 0
    · rw [e, if_pos h2, h2]
      exact implNe_ok n K V a cap w (by omega) h2 h
    · rw [e, if_neg h2]
      exact implNe_bad n K V a cap w (by omega) _ rfl h2 h
end Go.Proofs.Ytjdodbiphijjgaa
