/- Lists of lists of acts: what they hold, whose blocks they are; sizes, copies, equal, marked; an argument that is one, opened. -/
import Derived.Test.YtcfenhnggccmmaaAca
import Derived.Test.YtcfenhnggccmmaaRb
namespace Go.Proofs.Ytcfenhnggccmmaa
open Go.ChangeShapes Go.WideShapes Go.ChangeAt Go.RowKit Go.Deep Go.Joins
set_option linter.unusedVariables false
set_option maxRecDepth 20000

structure Al where
  n : Nat
  R : Nat → Ac
def zAl : Al := ⟨0, fun _ => zAc⟩
/-- The slice at 'a' has the n lists T. -/
def AlsAt (w : World) (a : Option Addr) (n : Nat) (T : Nat → Al) : Prop :=
  n = 0 ∨ ∃ b off, a = some ⟨b, off, none⟩ ∧ b < w.heap.size ∧ ∀ i, i < n → ∃ (a0 : Option Addr) (c0 : Nat), w.cell? ⟨b, off + i, none⟩ = some (.slice a0 (T i).n c0) ∧ AcsAt w a0 (T i).n (T i).R ∧ (T i).n ≤ c0
theorem AlsAt.below {w w' : World} {a : Option Addr} {n : Nat} {T : Nat → Al} (h : AlsAt w a n T) (hb : Below w.heap.size w w') : AlsAt w' a n T := by
  rcases h with h | ⟨b, off, ha, hl, hc⟩
  · exact .inl h
  · refine .inr ⟨b, off, ha, Nat.lt_of_lt_of_le hl hb.size, fun i hi => ?_⟩
    obtain ⟨a0, c0, h1, h2, h3⟩ := hc i hi
    exact ⟨a0, c0, (World.cell?_of_block (w := w) (a := ⟨b, off + i, none⟩) (hb.block _ hl)).trans h1, h2.below hb, h3⟩
/-- The same in blocks of their own, from lo on, below hi. -/
def OwnAl (w : World) (lo hi : Nat) (a : Option Addr) (n : Nat) (T : Nat → Al) : Prop :=
  hi ≤ w.heap.size ∧ (n = 0 ∨ ∃ b off, a = some ⟨b, off, none⟩ ∧ lo ≤ b ∧ b < hi ∧ (∀ i, w.frozen? ⟨b, i, none⟩ = false) ∧ ∃ l h : Nat → Nat, (∀ i j, i < n → j < n → i ≠ j → h i ≤ l j ∨ h j ≤ l i) ∧
    ∀ i, i < n → (b < l i ∨ h i ≤ b) ∧ l i ≤ h i ∧ (h i = 0 ∨ lo ≤ l i ∧ h i ≤ hi) ∧ ∃ (a0 : Option Addr) (c0 : Nat), w.cell? ⟨b, off + i, none⟩ = some (.slice a0 (T i).n c0) ∧ (T i).n ≤ c0 ∧ OwnAc w (l i) (h i) a0 (T i).n (T i).R)
theorem OwnAl.at {w : World} {lo hi : Nat} {a : Option Addr} {n : Nat} {T : Nat → Al} (h : OwnAl w lo hi a n T) : AlsAt w a n T := by
  obtain ⟨h0, h1 | ⟨b, off, ha, _, hl, _, l, h, _, hc⟩⟩ := h
  · exact .inl h1
  · refine .inr ⟨b, off, ha, by omega, fun i hi => ?_⟩
    obtain ⟨_, _, _, a0, c0, k1, k2, k3⟩ := hc i hi
    exact ⟨a0, c0, k1, k3.at, k2⟩
theorem OwnAl.writes {w w' : World} {lo hi lo' hi' : Nat} {a : Option Addr} {n : Nat} {T : Nat → Al} (h : OwnAl w lo hi a n T) (hw : Writes lo' hi' w w') (hd : hi ≤ lo' ∨ hi' ≤ lo) : OwnAl w' lo hi a n T := by
  obtain ⟨h0, h1 | ⟨b, off, ha, hlo, hl, hf, l, h, hs, hc⟩⟩ := h
  · exact ⟨Nat.le_trans h0 hw.size, .inl h1⟩
  · have hb := hw.block b (by omega) (by omega)
    refine ⟨Nat.le_trans h0 hw.size, .inr ⟨b, off, ha, hlo, hl, fun i => (World.frozen?_of_block (w := w) (a := ⟨b, i, none⟩) hb).trans (hf i), l, h, hs, fun i hi => ?_⟩⟩
    obtain ⟨k0, k1, k2, a0, c0, k3, k4, k5⟩ := hc i hi
    exact ⟨k0, k1, k2, a0, c0, (World.cell?_of_block (w := w) (a := ⟨b, off + i, none⟩) hb).trans k3, k4, k5.writes hw (by omega)⟩
theorem OwnAl.below {w w' : World} {lo hi : Nat} {a : Option Addr} {n : Nat} {T : Nat → Al} (h : OwnAl w lo hi a n T) (hb : Below w.heap.size w w') : OwnAl w' lo hi a n T :=
  h.writes (Writes.of_below (lo := hi) (hi := hi) hb) (.inl (Nat.le_refl _))
theorem OwnAl.wide {w : World} {lo hi lo' hi' : Nat} {a : Option Addr} {n : Nat} {T : Nat → Al} (h : OwnAl w lo hi a n T) (h1 : lo' ≤ lo) (h2 : hi ≤ hi') (h3 : hi' ≤ w.heap.size) : OwnAl w lo' hi' a n T := by
  obtain ⟨h0, h4 | ⟨b, off, ha, hlo, hl, hf, l, h, hs, hc⟩⟩ := h
  · exact ⟨h3, .inl h4⟩
  · refine ⟨h3, .inr ⟨b, off, ha, by omega, by omega, hf, l, h, hs, fun i hi => ?_⟩⟩
    obtain ⟨k0, k1, k2, k3⟩ := hc i hi
    exact ⟨k0, k1, by omega, k3⟩
theorem OwnAl.congr {w : World} {lo hi : Nat} {a : Option Addr} {n : Nat} {T T' : Nat → Al} (h : OwnAl w lo hi a n T) (e : ∀ i, i < n → T i = T' i) : OwnAl w lo hi a n T' := by
  obtain ⟨h0, h4 | ⟨b, off, ha, hlo, hl, hf, l, h, hs, hc⟩⟩ := h
  · exact ⟨h0, .inl h4⟩
  · exact ⟨h0, .inr ⟨b, off, ha, hlo, hl, hf, l, h, hs, fun i hi => by rw [← e i hi]; exact hc i hi⟩⟩
/-! ### one is stored -/
theorem OwnAl.store {w : World} {lo hi hi' l' h' b off n j : Nat} {T : Nat → Al} {t : Al} {a0 : Option Addr} {c0 : Nat} (h : OwnAl w lo hi (some ⟨b, off, none⟩) n T) (hj : j < n) (e0 : l' ≤ h') (e1 : hi ≤ l') (e2 : h' ≤ hi') (e3 : hi ≤ hi') (e4 : hi' ≤ w.heap.size) (hn : t.n ≤ c0) (hu : OwnAc w l' h' a0 t.n t.R) :
    OwnAl (w.setCell ⟨b, off + j, none⟩ (.slice a0 t.n c0)) lo hi' (some ⟨b, off, none⟩) n (upf9 T j t) := by
  obtain ⟨h0, h1 | ⟨b1, off1, ha, hlo, hl, hf, l, h, hd, hc⟩⟩ := h
  · omega
  simp only [Option.some.injEq, Addr.mk.injEq, and_true] at ha
  obtain ⟨rfl, rfl⟩ := ha
  have hW : Writes b (b + 1) w (w.setCell ⟨b, off + j, none⟩ (.slice a0 t.n c0)) := (Writes.refl _ _ _).setCell (p := ⟨b, _, none⟩) (Nat.le_refl _) (Nat.lt_succ_self _) _
  refine ⟨by rw [show (w.setCell ⟨b, off + j, none⟩ (.slice a0 t.n c0)).heap.size = w.heap.size by simp [World.setCell]]; exact e4, .inr ⟨b, off, rfl, hlo, by omega, fun i => by rw [World.frozen?_setCell]; exact hf i, fun i => if i = j then l' else l i, fun i => if i = j then h' else h i, fun i q hi hq hne => ?_, fun i hi => ?_⟩⟩
  · by_cases c1 : i = j <;> by_cases c2 : q = j <;> simp only [c1, c2, if_true, if_false]
    · omega
    · have := (hc q hq).2.2.1; have := (hc q hq).2.1; omega
    · have := (hc i hi).2.2.1; have := (hc i hi).2.1; omega
    · exact hd i q hi hq hne
  · obtain ⟨k0, k1, k5, x0, y0, k2, k3, k4⟩ := hc i hi
    by_cases e : i = j
    · subst e
      simp only [if_true, upf9_eq]
      exact ⟨by omega, by omega, by omega, a0, c0, setS k2, hn, hu.writes hW (by omega)⟩
    · simp only [if_neg e]
      rw [upf9_ne _ _ e]
      exact ⟨k0, k1, by omega, x0, y0, by rw [setO (by omega)]; exact k2, k3, k4.writes hW (by omega)⟩
/-- What one of the lists holds is turned. -/
theorem OwnAl.pick {w : World} {lo hi n j : Nat} {a : Option Addr} {T : Nat → Al} (h : OwnAl w lo hi a n T) (hj : j < n) :
    ∃ b off a0 c0 l h', a = some ⟨b, off, none⟩ ∧ b < w.heap.size ∧ w.cell? ⟨b, off + j, none⟩ = some (.slice a0 (T j).n c0) ∧ (T j).n ≤ c0 ∧ (h' = 0 ∨ lo ≤ l ∧ h' ≤ hi) ∧ OwnAc w l h' a0 (T j).n (T j).R ∧
      (∀ w' R', Writes l h' w w' → OwnAc w' l h' a0 (T j).n R' → OwnAl w' lo hi a n (upf9 T j ⟨(T j).n, R'⟩)) := by
  obtain ⟨h0, h1 | ⟨b, off, ha, hlo, hl, hf, l, h, hd, hc⟩⟩ := h
  · omega
  obtain ⟨k0, k1, k2, a0, c0, k3, k4, k5⟩ := hc j hj
  refine ⟨b, off, a0, c0, l j, h j, ha, by omega, k3, k4, k2, k5, fun w' R' hw ho => ?_⟩
  have hbk := hw.block b (by omega) (by omega)
  refine ⟨Nat.le_trans h0 hw.size, .inr ⟨b, off, ha, hlo, hl, fun i => (World.frozen?_of_block (w := w) (a := ⟨b, i, none⟩) hbk).trans (hf i), l, h, hd, fun i hi => ?_⟩⟩
  obtain ⟨g0, g1, g2, a1, c1, g3, g4, g5⟩ := hc i hi
  by_cases e : i = j
  · subst e
    rw [k3] at g3
    simp only [Option.some.injEq, Value.slice.injEq] at g3
    obtain ⟨rfl, _, rfl⟩ := g3
    rw [upf9_eq]
    exact ⟨g0, g1, g2, a0, c0, (World.cell?_of_block (w := w) (a := ⟨b, off + i, none⟩) hbk).trans k3, k4, ho⟩
  · rw [upf9_ne _ _ e]
    have := hd i j hi hj e
    exact ⟨g0, g1, g2, a1, c1, (World.cell?_of_block (w := w) (a := ⟨b, off + i, none⟩) hbk).trans g3, g4, g5.writes hw (by omega)⟩
theorem infoAl : (Try.prog.info? 42).map (fun i => (i.zero, i.size, i.bytes)) = some (some (.slice none 0 0), 1, 24) := by kernel_rfl
theorem run_make_Al (n : Nat) (hn : n ≤ 1048576) (w : World) :
    (Instr.makeSlice 25 (.int .i64 (n : Int)) (.int .i64 (n : Int))).run Try.prog w = .ok (.slice (some ⟨w.heap.size, 0, none⟩) n n) (w.alloc (.cells (madeCells #[.slice none 0 0] n) 42)) := by
  obtain ⟨i, hi, hzz⟩ := Option.map_eq_some_iff.1 infoAl
  simp only [Prod.mk.injEq] at hzz
  obtain ⟨hz, hs, hb⟩ := hzz
  have hr := run_make (P := Try.prog) w 25 42 i _ Try.underlying25 hi hz .i64 .i64 n n (by omega) (Int.le_refl _) (by rw [hb]; omega) (by omega)
  simp only [Int.toNat_natCast, hs, Nat.mul_one] at hr
  exact hr
theorem made_Al (w : World) (n : Nat) : OwnAl (w.alloc (.cells (madeCells #[.slice none 0 0] n) 42)) w.heap.size (w.heap.size + 1) (some ⟨w.heap.size, 0, none⟩) n (fun _ => zAl) := by
  refine ⟨by simp, .inr ⟨_, _, rfl, Nat.le_refl _, Nat.lt_succ_self _, fun i => by simp [go_sem], fun _ => 0, fun _ => 0, fun i j _ _ _ => .inl (Nat.le_refl _), fun i hi => ⟨.inr (Nat.zero_le _), Nat.le_refl _, .inl rfl, none, 0, ?_, ?_, ?_⟩⟩⟩
  · simp [go_sem, madeCells, zAl]
    exact ⟨_, by rw [Array.getElem?_range, if_pos (by omega)], by simp [Nat.mod_one]⟩
  · exact Nat.le_refl _
  · exact ⟨Nat.zero_le _, .inl rfl⟩
end Go.Proofs.Ytcfenhnggccmmaa
