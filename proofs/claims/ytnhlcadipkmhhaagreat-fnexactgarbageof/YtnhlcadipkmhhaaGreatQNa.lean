/- NewEngine: what is answered; an engine that grows row by row in a box; the program's walk. -/
import Derived.Test.YtnhlcadipkmhhaaGreatQEe
import Derived.Test.YtnhlcadipkmhhaaGreatQEgr
import Derived.Test.YtnhlcadipkmhhaaGreatQCel
import Derived.BigQuiet
namespace Go.Proofs.YtnhlcadipkmhhaaGreat
open Go.ChangeShapes Go.WideShapes Go.ChangeAt Go.RowKit Go.Deep Go.Joins
set_option linter.unusedVariables false
set_option maxRecDepth 20000
open Go.RowKit Go.Deep

def Box6 (w : World) (B : Nat) (c0 c1 c2 c3 c4 c5 : Value) : Prop := w.cell? ⟨B, 0, none⟩ = some c0 ∧ w.cell? ⟨B, 1, none⟩ = some c1 ∧ w.cell? ⟨B, 2, none⟩ = some c2 ∧ w.cell? ⟨B, 3, none⟩ = some c3 ∧ w.cell? ⟨B, 4, none⟩ = some c4 ∧ w.cell? ⟨B, 5, none⟩ = some c5
theorem Box6.alloc {w : World} {B : Nat} {c0 c1 c2 c3 c4 c5 : Value} (h : Box6 w B c0 c1 c2 c3 c4 c5) (x : Obj) : Box6 (w.alloc x) B c0 c1 c2 c3 c4 c5 := ⟨cell_alloc h.1 x, cell_alloc h.2.1 x, cell_alloc h.2.2.1 x, cell_alloc h.2.2.2.1 x, cell_alloc h.2.2.2.2.1 x, cell_alloc h.2.2.2.2.2 x⟩
theorem Box6.below {w w' : World} {B : Nat} {c0 c1 c2 c3 c4 c5 : Value} (h : Box6 w B c0 c1 c2 c3 c4 c5) (x : Below w.heap.size w w') : Box6 w' B c0 c1 c2 c3 c4 c5 := ⟨cell_below h.1 x, cell_below h.2.1 x, cell_below h.2.2.1 x, cell_below h.2.2.2.1 x, cell_below h.2.2.2.2.1 x, cell_below h.2.2.2.2.2 x⟩
theorem Box6.writes {w w' : World} {lo hi B : Nat} {c0 c1 c2 c3 c4 c5 : Value} (h : Box6 w B c0 c1 c2 c3 c4 c5) (x : Writes lo hi w w') (d : B < lo ∨ hi ≤ B) : Box6 w' B c0 c1 c2 c3 c4 c5 := ⟨cell_writes h.1 x d, cell_writes h.2.1 x d, cell_writes h.2.2.1 x d, cell_writes h.2.2.2.1 x d, cell_writes h.2.2.2.2.1 x d, cell_writes h.2.2.2.2.2 x d⟩
theorem Box6.new (w : World) (c0 c1 c2 c3 c4 c5 : Value) (t : TypeId) : Box6 (w.alloc (.cells #[c0, c1, c2, c3, c4, c5] t)) w.heap.size c0 c1 c2 c3 c4 c5 := by simp [Box6]
theorem Box6.lt {w : World} {B : Nat} {c0 c1 c2 c3 c4 c5 : Value} (h : Box6 w B c0 c1 c2 c3 c4 c5) : B < w.heap.size := Go.block_lt_of_cell h.1
/-- The row of a cell. -/
def rnE (K V : Nat → Int) (i : Nat) : Rw := ⟨K i, 1, fun _ => ⟨1, 1, false, V i⟩⟩
def zEn : En := ⟨0, 0, 0, fun _ => zTx, 0, fun _ => zRw⟩
def neC (n : Nat) (K V : Nat → Int) : Int := if 20 < n then 2 else cff K V n 0
def neE (n : Nat) (K V : Nat → Int) : En := ⟨2, if n = 0 then 0 else 1, 0, fun _ => zTx, n, rnE K V⟩
def neR (n : Nat) (K V : Nat → Int) : En := if neC n K V = 0 then neE n K V else zEn
/-- An answer that is an engine, of the call's own. -/
def ERes (c v : Int) (E : En) (w : World) (e : Ending) (w' : World) : Prop := ∃ a cap a' cap', e = .returned (.agg #[.int .i64 c, .int .i64 v, .int .i64 E.nx, .int .i64 E.ck, .slice a E.p cap, .slice a' E.q cap']) ∧ Below w.heap.size w w' ∧ OwnE w' w.heap.size w'.heap.size a a' E
theorem zEn_own (w : World) (lo : Nat) (h : lo ≤ w.heap.size) : OwnE w lo w.heap.size none none zEn :=
  ⟨Nat.le_refl _, lo, lo, lo, lo, Nat.le_refl _, h, Nat.le_refl _, h, .inl (Nat.le_refl _), ⟨h, .inl rfl⟩, ⟨h, .inl rfl⟩⟩
theorem eres_bad {c : Int} {w w' : World} (hb : Below w.heap.size w w') : ERes c 0 zEn w (.returned (.agg #[.int .i64 c, .int .i64 0, .int .i64 0, .int .i64 0, .slice none 0 0, .slice none 0 0])) w' :=
  ⟨none, 0, none, 0, rfl, hb, zEn_own _ _ hb.size⟩
/-- k rows were appended to the engine in block B; the answer's block is w.heap.size. -/
structure NEi (w wr : World) (B : Nat) (v : Value) (k : Nat) (K V : Nat → Int) (ck : Int) : Prop where
  below : Below w.heap.size w wr
  hB : w.heap.size < B
  hsz : B + 1 ≤ wr.heap.size
  e0 : wr.cell? ⟨B, 0, none⟩ = some (.int .i64 2)
  e1 : wr.cell? ⟨B, 1, none⟩ = some (.int .i64 ck)
  e2 : wr.cell? ⟨B, 2, none⟩ = some (.slice none 0 0)
  e3 : wr.cell? ⟨B, 3, none⟩ = some v
  ef : ∀ o, wr.frozen? ⟨B, o, none⟩ = false
  r0 : wr.cell? ⟨w.heap.size, 0, none⟩ = some (.int .i64 0)
  r1 : wr.cell? ⟨w.heap.size, 1, none⟩ = some (.int .i64 0)
  r2 : wr.cell? ⟨w.heap.size, 2, none⟩ = some (.int .i64 0)
  r3 : wr.cell? ⟨w.heap.size, 3, none⟩ = some (.int .i64 0)
  r4 : wr.cell? ⟨w.heap.size, 4, none⟩ = some (.slice none 0 0)
  r5 : wr.cell? ⟨w.heap.size, 5, none⟩ = some (.slice none 0 0)
  rf : ∀ o, wr.frozen? ⟨w.heap.size, o, none⟩ = false
  gr : GrRw (B + 1) wr.heap.size wr v k (rnE K V)
theorem NEi.mono {w wr wq : World} {B : Nat} {v : Value} {k : Nat} {K V : Nat → Int} {ck : Int} (h : NEi w wr B v k K V ck) (hb : Below wr.heap.size wr wq) : NEi w wq B v k K V ck := by
  have hs := h.hsz
  have hB := h.hB
  exact ⟨below_then h.below hb, hB, Nat.le_trans hs hb.size, cell_below h.e0 hb, cell_below h.e1 hb, cell_below h.e2 hb, cell_below h.e3 hb, fun o => (hb.frozen (p := ⟨B, o, none⟩) (by show B < _; omega)).trans (h.ef o),
    cell_below h.r0 hb, cell_below h.r1 hb, cell_below h.r2 hb, cell_below h.r3 hb, cell_below h.r4 hb, cell_below h.r5 hb, fun o => (hb.frozen (p := ⟨w.heap.size, o, none⟩) (by show w.heap.size < _; omega)).trans (h.rf o), (h.gr.below hb).wide hb.size (Nat.le_refl _)⟩
theorem NEi.clock {w wr : World} {B : Nat} {v : Value} {k : Nat} {K V : Nat → Int} {ck : Int} (h : NEi w wr B v k K V ck) : NEi w (wr.setCell ⟨B, 1, none⟩ (.int .i64 1)) B v k K V 1 := by
  have hB := h.hB
  have hz : (wr.setCell ⟨B, 1, none⟩ (.int .i64 1)).heap.size = wr.heap.size := by simp [World.setCell]
  have o : ∀ (b i : Nat), b ≠ B → (wr.setCell ⟨B, 1, none⟩ (.int .i64 1)).cell? ⟨b, i, none⟩ = wr.cell? ⟨b, i, none⟩ := fun b i hne => World.cell?_setCell_other _ _ _ _ (by intro e; exact hne (congrArg Addr.block e).symm)
  refine ⟨h.below.setCell (p := ⟨B, 1, none⟩) (by show w.heap.size ≤ B; omega) _, hB, by rw [hz]; exact h.hsz, (setO (by omega)).trans h.e0, setS h.e1, (setO (by omega)).trans h.e2, (setO (by omega)).trans h.e3, fun o => by rw [World.frozen?_setCell]; exact h.ef o,
    (o _ _ (by omega)).trans h.r0, (o _ _ (by omega)).trans h.r1, (o _ _ (by omega)).trans h.r2, (o _ _ (by omega)).trans h.r3, (o _ _ (by omega)).trans h.r4, (o _ _ (by omega)).trans h.r5, fun o => by rw [World.frozen?_setCell]; exact h.rf o, ?_⟩
  rw [hz]
  exact h.gr.writes (Writes.setCell (Writes.refl B (B + 1) _) (p := ⟨B, 1, none⟩) (Nat.le_refl _) (Nat.lt_succ_self _) _) (.inl (Nat.le_refl _))
theorem NEi.app {w wr w' : World} {B g cap : Nat} {v : Value} {k : Nat} {K V : Nat → Int} {ck : Int} (h : NEi w wr B v k K V ck) (hg : wr.grownBy w' v.ownBlock) (hgr : GrRw (B + 1) w'.heap.size w' (.slice (some ⟨g, 0, none⟩) (k + 1) cap) (k + 1) (upf (rnE K V) k (rnE K V k))) :
    NEi w (w'.setCell ⟨B, 3, none⟩ (.slice (some ⟨g, 0, none⟩) (k + 1) cap)) B (.slice (some ⟨g, 0, none⟩) (k + 1) cap) (k + 1) K V ck ∧ w'.cell? ⟨B, 3, none⟩ = some v ∧ (∀ o, w'.frozen? ⟨B, o, none⟩ = false) ∧ w'.cell? ⟨B, 1, none⟩ = some (.int .i64 ck) := by
  have hB := h.hB
  have hs := h.hsz
  have hgs := hg.size
  have hz : (w'.setCell ⟨B, 3, none⟩ (.slice (some ⟨g, 0, none⟩) (k + 1) cap)).heap.size = w'.heap.size := by simp [World.setCell]
  have hne : ∀ q, q < B + 1 → some q ≠ v.ownBlock := fun q hq e => by
    obtain ⟨_, _, _, _, _, ho, _⟩ := h.gr
    have := (ho.lt q e.symm).1
    omega
  have hblk : ∀ q, q < B + 1 → w'.heap[q]? = wr.heap[q]? := fun q hq => hg.block q (by omega) (hne q hq)
  have c : ∀ q i, q < B + 1 → w'.cell? ⟨q, i, none⟩ = wr.cell? ⟨q, i, none⟩ := fun q i hq => World.cell?_of_block (w := wr) (a := ⟨q, i, none⟩) (hblk q hq)
  have f : ∀ q i, q < B + 1 → w'.frozen? ⟨q, i, none⟩ = wr.frozen? ⟨q, i, none⟩ := fun q i hq => World.frozen?_of_block (w := wr) (a := ⟨q, i, none⟩) (hblk q hq)
  have o : ∀ (b i : Nat), b ≠ B → (w'.setCell ⟨B, 3, none⟩ (.slice (some ⟨g, 0, none⟩) (k + 1) cap)).cell? ⟨b, i, none⟩ = w'.cell? ⟨b, i, none⟩ := fun b i hne => World.cell?_setCell_other _ _ _ _ (by intro e; exact hne (congrArg Addr.block e).symm)
  refine ⟨⟨(h.below.grown hg (by omega) fun q hq => by
      have : ¬ q < B + 1 := fun hlt => hne q hlt hq.symm
      omega).setCell (p := ⟨B, 3, none⟩) (by show w.heap.size ≤ B; omega) _, hB, by rw [hz]; omega, (setO (by omega)).trans ((c _ _ (by omega)).trans h.e0), (setO (by omega)).trans ((c _ _ (by omega)).trans h.e1), (setO (by omega)).trans ((c _ _ (by omega)).trans h.e2), setS ((c _ _ (by omega)).trans h.e3), fun o => by rw [World.frozen?_setCell, f _ _ (by omega)]; exact h.ef o,
    (o _ _ (by omega)).trans ((c _ _ (by omega)).trans h.r0), (o _ _ (by omega)).trans ((c _ _ (by omega)).trans h.r1), (o _ _ (by omega)).trans ((c _ _ (by omega)).trans h.r2), (o _ _ (by omega)).trans ((c _ _ (by omega)).trans h.r3), (o _ _ (by omega)).trans ((c _ _ (by omega)).trans h.r4), (o _ _ (by omega)).trans ((c _ _ (by omega)).trans h.r5), fun o => by rw [World.frozen?_setCell, f _ _ (by omega)]; exact h.rf o, ?_⟩, (c _ _ (by omega)).trans h.e3, fun o => (f _ _ (by omega)).trans (h.ef o), (c _ _ (by omega)).trans h.e1⟩
  rw [hz]
  refine GrRw.congr (hgr.writes (Writes.setCell (Writes.refl B (B + 1) _) (p := ⟨B, 3, none⟩) (Nat.le_refl _) (Nat.lt_succ_self _) _) (.inl (Nat.le_refl _))) fun i hi => ?_
  by_cases e : i = k
  · subst e; exact upf_eq _ _ _
  · exact upf_ne _ _ e
/-- The end: the engine is loaded and stored into the answer. -/
theorem NEi.fin {w wr w7 : World} {B : Nat} {a : Option Addr} {cap n : Nat} {K V : Nat → Int} {ck : Int} (h : NEi w wr B (.slice a n cap) n K V ck) (hck : ck = if n = 0 then 0 else 1) (hw : Writes w.heap.size (w.heap.size + 1) wr w7) (hs : w7.heap.size = wr.heap.size) :
    ERes 0 0 (neE n K V) w (.returned (.agg #[.int .i64 0, .int .i64 0, .int .i64 2, .int .i64 ck, .slice none 0 0, .slice a n cap])) w7 := by
  have hB := h.hB
  have hsz := h.hsz
  obtain ⟨a', cap', e, _, ho⟩ := h.gr.own
  simp only [Value.slice.injEq, true_and] at e
  obtain ⟨rfl, rfl⟩ := e
  refine ⟨none, 0, a, cap, by rw [hck]; rfl, Writes.below h.below hw (Nat.le_refl _), ?_⟩
  have h2 := ho.writes hw (.inr (by omega))
  exact ⟨Nat.le_refl _, w.heap.size, w.heap.size, B + 1, wr.heap.size, Nat.le_refl _, by omega, by omega, by omega, .inl (by omega), ⟨by omega, .inl rfl⟩, h2⟩
/-- A row of one version, written out. -/
theorem lit_row {w0 : World} {X Y : Nat} (key : Int) (r : Vr) (hX : w0.heap.size = X) (hY : X + 1 = Y) :
    CRw ((w0.alloc (.cells #[.int .i64 r.t, .int .i64 r.a, .bool r.g, .int .i64 r.v] 136)).alloc (.cells #[.int .i64 key, .slice (some ⟨X, 0, none⟩) 1 1] 105)) Y 0 ⟨key, 1, fun _ => r⟩ (some ⟨X, 0, none⟩) 1 ∧
    Own4 ((w0.alloc (.cells #[.int .i64 r.t, .int .i64 r.a, .bool r.g, .int .i64 r.v] 136)).alloc (.cells #[.int .i64 key, .slice (some ⟨X, 0, none⟩) 1 1] 105)) X Y (some ⟨X, 0, none⟩) 1 (fun _ => r) := by
  subst hX hY
  refine ⟨⟨by simp [go_sem], by simp [go_sem]⟩, by simp, .inr ⟨_, 0, rfl, Nat.le_refl _, Nat.lt_succ_self _, fun i hi => ?_, fun i => by simp [go_sem]⟩⟩
  have : i = 0 := by omega
  subst this
  exact ⟨by simp [go_sem], by simp [go_sem], by simp [go_sem], by simp [go_sem]⟩
end Go.Proofs.YtnhlcadipkmhhaaGreat
