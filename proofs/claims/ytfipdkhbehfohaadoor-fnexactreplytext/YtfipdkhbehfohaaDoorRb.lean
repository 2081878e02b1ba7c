/- What records with slices share: sums, sizes of slices, cells opened, boxes. -/
import Derived.Test.YtfipdkhbehfohaaDoorTni
namespace Go.Proofs.YtfipdkhbehfohaaDoor
open Go.ChangeShapes Go.WideShapes Go.ChangeAt Go.RowKit Go.Deep Go.Joins
set_option linter.unusedVariables false
set_option maxRecDepth 20000

/-- The sum of the first k. -/
def smf9 (f : Nat → Nat) : Nat → Nat
  | 0 => 0
  | k + 1 => smf9 f k + f k
theorem smf9_ge (f : Nat → Nat) : ∀ n i, i < n → f i ≤ smf9 f n
  | 0, i, h => by omega
  | n + 1, i, h => by
    by_cases e : i = n
    · subst e; simp [smf9]
    · have := smf9_ge f n i (by omega); simp only [smf9]; omega
theorem smf9_le (f : Nat → Nat) {n : Nat} : ∀ {i}, i ≤ n → smf9 f i ≤ smf9 f n := by
  induction n with
  | zero => intro i h; have : i = 0 := by omega
            subst this; exact Nat.le_refl _
  | succ n ih =>
    intro i h
    by_cases e : i = n + 1
    · subst e; exact Nat.le_refl _
    · have := ih (i := i) (by omega); simp only [smf9]; omega
theorem smf9_add (f : Nat → Nat) (c d : Nat) : ∀ k, smf9 (fun i => f i * c + d) k = smf9 f k * c + k * d
  | 0 => by simp [smf9]
  | k + 1 => by simp only [smf9, smf9_add f c d k, Nat.add_mul, Nat.one_mul]; omega
def upf9 {α : Type} (f : Nat → α) (j : Nat) (x : α) (i : Nat) : α := if i = j then x else f i
theorem upf9_eq {α : Type} (f : Nat → α) (j : Nat) (x : α) : upf9 f j x j = x := by simp [upf9]
theorem upf9_ne {α : Type} (f : Nat → α) {j i : Nat} (x : α) (h : i ≠ j) : upf9 f j x i = f i := by simp [upf9, h]
def pref9 {α : Type} (f g : Nat → α) (j i : Nat) : α := if i < j then f i else g i
theorem pref9_upf {α : Type} (f g : Nat → α) (j : Nat) : upf9 (pref9 f g j) j (f j) = pref9 f g (j + 1) := by
  funext i
  by_cases e : i = j
  · subst e; simp [upf9, pref9]
  · by_cases h : i < j
    · have : i < j + 1 := by omega
      simp [upf9, pref9, e, h, this]
    · have : ¬ i < j + 1 := by omega
      simp [upf9, pref9, e, h, this]
theorem pref9_at {α : Type} (f g : Nat → α) (j : Nat) : pref9 f g j j = g j := by simp [pref9]
theorem pref9_lt {α : Type} (f g : Nat → α) {j i : Nat} (h : i < j) : pref9 f g j i = f i := by simp [pref9, h]
theorem pref9_zero {α : Type} (f g : Nat → α) : pref9 f g 0 = g := by funext i; simp [pref9]
/-- What is kept of cells by a call. -/
theorem bcell29 {w w' : World} (hb : Below w.heap.size w w') : (∀ b i, b < w.heap.size → w'.cell? ⟨b, i, none⟩ = w.cell? ⟨b, i, none⟩) ∧ (∀ b i, b < w.heap.size → w'.frozen? ⟨b, i, none⟩ = w.frozen? ⟨b, i, none⟩) :=
  ⟨fun b i h => hb.cell (p := ⟨b, i, none⟩) h, fun b i h => hb.frozen (p := ⟨b, i, none⟩) h⟩
theorem szCellS_x (n : Nat) (a : Option Addr) (cap : Nat) (x : Int) (w : World) (hn : n ≤ 9223372036854775807) (h0 : 0 ≤ x) (h1 : x ≤ 1048576) :
    Calls Tryd.prog 10 #[.slice a n cap, .int .i64 x] w fun e w' => e = .returned (.int .i64 (if x - n < 0 then -1 else x - n)) ∧ w' = w := by
  by_cases h : x - (n : Int) < 0
  · go_enter Tryd.func10, Tryd.ntmps10
    go_wp2
    go_ret
    exact ⟨rfl, rfl⟩
  · go_enter Tryd.func10, Tryd.ntmps10
    go_wp2
    go_ret
    exact ⟨rfl, rfl⟩
theorem szCellS_r (n : Nat) (a : Option Addr) (cap : Nat) (x : Int) (w : World) (hn : n ≤ 9223372036854775807) (h0 : 0 ≤ x) (h1 : x ≤ 1048576) :
    Calls Tryd.prog 10 #[.slice a n cap, .int .i64 x] w fun e w' => Below w.heap.size w w' ∧ ∃ r : Int, e = .returned (.int .i64 r) ∧ (r = -1 ∨ (0 ≤ r ∧ r = x - n)) := by
  refine (szCellS_x n a cap x w hn h0 h1).mono ?_
  rintro e w' ⟨rfl, rfl⟩
  refine ⟨Below.refl _ _, _, rfl, ?_⟩
  by_cases h : x - (n : Int) < 0
  · exact .inl (if_pos h)
  · exact .inr (by rw [if_neg h]; omega)
theorem toCellS_own (n : Nat) (K V : Nat → Int) (a : Option Addr) (cap : Nat) (w : World) (hn : n ≤ 1048576) (h : CellsAt w a n K V) :
    Calls Tryd.prog 12 #[.slice a n cap] w fun e w' => ∃ b, e = .returned (.slice (some ⟨b, 0, none⟩) n n) ∧ Below w.heap.size w w' ∧ Own w' w.heap.size w'.heap.size (some ⟨b, 0, none⟩) n K V := by
  refine (toCellS_any n K V a cap w (by omega) h).mono ?_
  rintro e w' ⟨rfl, hb, hr⟩
  exact ⟨_, rfl, hb, (Own.of_row hr).wide (Nat.le_refl _) hr.lt (Nat.le_refl _)⟩
theorem cellsCell : Tryd.prog.cellsOf 47 = 2 := by kernel_rfl
theorem openCellS {H : Type} {enc : TypeId × Value → H} {W : World} {fuel : Nat} {cs : List Value} {x : DataW H × List MemPlace}
    (h : DataW.trod enc Tryd.prog W 0 (fun _ => true) true fuel 22 cs = some x) :
    ∃ (a : Option Addr) (n cap : Nat) (K V : Nat → Int), cs = [.slice a n cap] ∧ n ≤ cap ∧ n ≤ 9223372036854775807 ∧ CellsAt W a n K V := by
  rcases open_slice Tryd.underlying22 h with ⟨rfl, _⟩ | ⟨a, l, c, m, nn, D, Pl, rfl, _, hl, hm, hmm, _, hx⟩
  · exact ⟨none, 0, 0, fun _ => 0, fun _ => 0, rfl, Nat.le_refl _, by omega, .inl rfl⟩
  · have hmc : m = c := by simpa using hmm
    unfold maxLen at hm
    rw [cellsCell] at hx
    have each : ∀ i, i < l → ∃ q : Int × Int, W.cell? (a.add (i * 2)) = some (.int .i64 q.1) ∧ W.cell? (a.add (i * 2 + 1)) = some (.int .i64 q.2) := fun i hi => by
      obtain ⟨cs', h1, h2⟩ := hx i (by omega)
      obtain ⟨_, hlen, hcell⟩ := World.cells?_some h1
      obtain ⟨xs, k, hk, hxy, _, hxl, hf⟩ := DataW.trod_struct Tryd.underlying47 h2
      match xs, hxl, cs', hlen with
      | [y0, y1], _, [v0, v1], _ =>
        have g0 := hf 0 _ rfl
        have g1 := hf 1 _ rfl
        simp [cellsI1] at g0 g1
        have e0 := hcell 0 (by omega)
        have e1 := hcell 1 (by omega)
        rw [add_add] at e0 e1
        obtain ⟨z0, f0, _, _⟩ := DataW.trod_int Tryd.underlying2 g0
        obtain ⟨z1, f1, _, _⟩ := DataW.trod_int Tryd.underlying2 g1
        simp at f0 f1
        subst f0 f1
        exact ⟨(z0, z1), by simpa using e0, by simpa using e1⟩
    obtain ⟨q, hq⟩ := choose_lt each
    refine ⟨some a, l, c, fun i => (q i).1, fun i => (q i).2, rfl, by omega, by omega, ?_⟩
    by_cases hz0 : l = 0
    · exact .inl hz0
    · obtain ⟨b, off, spot⟩ := a
      have hc0 := (hq 0 (by omega)).1
      have hspot : spot = none := by simpa [Addr.add] using World.cell?_spot hc0
      subst hspot
      refine .inr ⟨b, off, rfl, Go.block_lt_of_cell hc0, fun i hi => ?_, fun i hi => ?_⟩
      · have k0 := (hq i hi).1
        rw [add_plain] at k0
        exact k0
      · have k1 := (hq i hi).2
        rw [add_plain] at k1
        rw [Nat.add_assoc]; exact k1
def Box5 (w : World) (B : Nat) (c0 c1 c2 c3 c4 : Value) : Prop := w.cell? ⟨B, 0, none⟩ = some c0 ∧ w.cell? ⟨B, 1, none⟩ = some c1 ∧ w.cell? ⟨B, 2, none⟩ = some c2 ∧ w.cell? ⟨B, 3, none⟩ = some c3 ∧ w.cell? ⟨B, 4, none⟩ = some c4
theorem Box5.alloc {w : World} {B : Nat} {c0 c1 c2 c3 c4 : Value} (h : Box5 w B c0 c1 c2 c3 c4) (x : Obj) : Box5 (w.alloc x) B c0 c1 c2 c3 c4 := ⟨cell_alloc h.1 x, cell_alloc h.2.1 x, cell_alloc h.2.2.1 x, cell_alloc h.2.2.2.1 x, cell_alloc h.2.2.2.2 x⟩
theorem Box5.below {w w' : World} {B : Nat} {c0 c1 c2 c3 c4 : Value} (h : Box5 w B c0 c1 c2 c3 c4) (x : Below w.heap.size w w') : Box5 w' B c0 c1 c2 c3 c4 := ⟨cell_below h.1 x, cell_below h.2.1 x, cell_below h.2.2.1 x, cell_below h.2.2.2.1 x, cell_below h.2.2.2.2 x⟩
theorem Box5.writes {w w' : World} {lo hi : Nat} {B : Nat} {c0 c1 c2 c3 c4 : Value} (h : Box5 w B c0 c1 c2 c3 c4) (x : Writes lo hi w w') (d : B < lo ∨ hi ≤ B) : Box5 w' B c0 c1 c2 c3 c4 := ⟨cell_writes h.1 x d, cell_writes h.2.1 x d, cell_writes h.2.2.1 x d, cell_writes h.2.2.2.1 x d, cell_writes h.2.2.2.2 x d⟩
theorem Box5.new (w : World) (c0 c1 c2 c3 c4 : Value) (t : TypeId) : Box5 (w.alloc (.cells #[c0, c1, c2, c3, c4] t)) w.heap.size c0 c1 c2 c3 c4 := by simp [Box5]
def Box6 (w : World) (B : Nat) (c0 c1 c2 c3 c4 c5 : Value) : Prop := w.cell? ⟨B, 0, none⟩ = some c0 ∧ w.cell? ⟨B, 1, none⟩ = some c1 ∧ w.cell? ⟨B, 2, none⟩ = some c2 ∧ w.cell? ⟨B, 3, none⟩ = some c3 ∧ w.cell? ⟨B, 4, none⟩ = some c4 ∧ w.cell? ⟨B, 5, none⟩ = some c5
theorem Box6.alloc {w : World} {B : Nat} {c0 c1 c2 c3 c4 c5 : Value} (h : Box6 w B c0 c1 c2 c3 c4 c5) (x : Obj) : Box6 (w.alloc x) B c0 c1 c2 c3 c4 c5 := ⟨cell_alloc h.1 x, cell_alloc h.2.1 x, cell_alloc h.2.2.1 x, cell_alloc h.2.2.2.1 x, cell_alloc h.2.2.2.2.1 x, cell_alloc h.2.2.2.2.2 x⟩
theorem Box6.below {w w' : World} {B : Nat} {c0 c1 c2 c3 c4 c5 : Value} (h : Box6 w B c0 c1 c2 c3 c4 c5) (x : Below w.heap.size w w') : Box6 w' B c0 c1 c2 c3 c4 c5 := ⟨cell_below h.1 x, cell_below h.2.1 x, cell_below h.2.2.1 x, cell_below h.2.2.2.1 x, cell_below h.2.2.2.2.1 x, cell_below h.2.2.2.2.2 x⟩
theorem Box6.writes {w w' : World} {lo hi : Nat} {B : Nat} {c0 c1 c2 c3 c4 c5 : Value} (h : Box6 w B c0 c1 c2 c3 c4 c5) (x : Writes lo hi w w') (d : B < lo ∨ hi ≤ B) : Box6 w' B c0 c1 c2 c3 c4 c5 := ⟨cell_writes h.1 x d, cell_writes h.2.1 x d, cell_writes h.2.2.1 x d, cell_writes h.2.2.2.1 x d, cell_writes h.2.2.2.2.1 x d, cell_writes h.2.2.2.2.2 x d⟩
theorem Box6.new (w : World) (c0 c1 c2 c3 c4 c5 : Value) (t : TypeId) : Box6 (w.alloc (.cells #[c0, c1, c2, c3, c4, c5] t)) w.heap.size c0 c1 c2 c3 c4 c5 := by simp [Box6]
end Go.Proofs.YtfipdkhbehfohaaDoor
