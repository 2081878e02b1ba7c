/- Loose writes that are appended one by one. -/
import Derived.Test.YtldnfiadafmomaaPgs
namespace Go.Proofs.Ytldnfiadafmomaa
open Go.RowKit Go.Deep
set_option linter.unusedVariables false
set_option maxRecDepth 20000

/-- The cells of one loose write, and of k of them. -/
def lv3 (p t : Int) (g n c : Nat) : List Value := [.int .i64 p, .int .i64 t, .slice (some ⟨g, 0, none⟩) n c]
def llv (P T : Nat → Int) (g L c : Nat → Nat) : Nat → List Value
  | 0 => []
  | k + 1 => llv P T g L c k ++ lv3 (P k) (T k) (g k) (L k) (c k)
theorem llv_len (P T : Nat → Int) (g L c : Nat → Nat) : ∀ k, (llv P T g L c k).length = k * 3
  | 0 => rfl
  | k + 1 => by simp only [llv, List.length_append, llv_len P T g L c k, lv3, List.length_cons, List.length_nil]; omega
theorem llv_get (P T : Nat → Int) (g L c : Nat → Nat) : ∀ k i q, i < k → q < 3 → (llv P T g L c k)[i * 3 + q]? = (lv3 (P i) (T i) (g i) (L i) (c i))[q]?
  | 0, i, q, h, _ => by omega
  | k + 1, i, q, h, hq => by
    simp only [llv]
    by_cases e : i = k
    · subst e
      rw [List.getElem?_append_right (by rw [llv_len]; omega), llv_len]
      congr 1; omega
    · rw [List.getElem?_append_left (by rw [llv_len]; omega)]
      exact llv_get P T g L c k i q (by omega) hq
theorem llv_congr {P T P' T' : Nat → Int} {g g' L L' c c' : Nat → Nat} : ∀ {k : Nat}, (∀ i, i < k → P i = P' i) → (∀ i, i < k → T i = T' i) → (∀ i, i < k → g i = g' i) → (∀ i, i < k → L i = L' i) → (∀ i, i < k → c i = c' i) → llv P T g L c k = llv P' T' g' L' c' k
  | 0, _, _, _, _, _ => rfl
  | k + 1, h1, h2, h3, h4, h5 => by
    simp only [llv]
    rw [llv_congr (k := k) (fun i hi => h1 i (by omega)) (fun i hi => h2 i (by omega)) (fun i hi => h3 i (by omega)) (fun i hi => h4 i (by omega)) (fun i hi => h5 i (by omega)), h1 k (by omega), h2 k (by omega), h3 k (by omega), h4 k (by omega), h5 k (by omega)]
theorem lv3_one {p t : Int} {g n c : Nat} : ∀ u ∈ lv3 p t g n c, u.oneCell' = true := fun u hu => by
  simp [lv3] at hu
  rcases hu with rfl | rfl | rfl <;> rfl
/-- k loose writes were appended to an empty list, all from block 'base' on. -/
def AL (base : Nat) (wr : World) (v : Value) (k : Nat) (P T : Nat → Int) (L : Nat → Nat) (Z : Nat → Nat → Int) : Prop :=
  ∃ g c : Nat → Nat, wr.ownsRow base 60 3 v k (llv P T g L c k) ∧ (∀ i j, i < k → j < k → g i = g j → i = j) ∧
    ∀ i, i < k → base ≤ g i ∧ g i < wr.heap.size ∧ v.ownBlock ≠ some (g i) ∧ Row1 wr (g i) 0 (L i) (Z i) ∧ L i ≤ c i
theorem AL.nil (base : Nat) (w : World) (P T : Nat → Int) (L : Nat → Nat) (Z : Nat → Nat → Int) : AL base w (.slice none 0 0) 0 P T L Z :=
  ⟨fun _ => 0, fun _ => 0, World.ownsRow_nil _ _ _ _, fun i j h => by omega, fun i h => by omega⟩
theorem AL.below {base : Nat} {w w' : World} {v : Value} {k : Nat} {P T : Nat → Int} {L : Nat → Nat} {Z : Nat → Nat → Int} (h : AL base w v k P T L Z) (hb : Below w.heap.size w w') : AL base w' v k P T L Z := by
  obtain ⟨g, c, ho, hj, hc⟩ := h
  refine ⟨g, c, own_below ho hb, hj, fun i hi => ?_⟩
  obtain ⟨h1, h2, h3, h4, h5⟩ := hc i hi
  exact ⟨h1, Nat.lt_of_lt_of_le h2 hb.size, h3, h4.block (hb.block _ h2), h5⟩
/-- A page that was just made is appended. -/
theorem AL.step {base G C g' cap' : Nat} {w1 w2 : World} {v : Value} {k : Nat} {P T : Nat → Int} {L : Nat → Nat} {Z : Nat → Nat → Int} {o : Obj} {g c : Nat → Nat} (hj : ∀ i j, i < k → j < k → g i = g j → i = j)
    (hc : ∀ i, i < k → base ≤ g i ∧ g i < w1.heap.size ∧ v.ownBlock ≠ some (g i) ∧ Row1 w1 (g i) 0 (L i) (Z i) ∧ L i ≤ c i)
    (hG0 : base ≤ G) (hG1 : G < w1.heap.size) (hG2 : v.ownBlock ≠ some G) (hne : ∀ i, i < k → g i ≠ G) (hr : Row1 w1 G 0 (L k) (Z k)) (hC : L k ≤ C)
    (ho : w2.ownsRow base 60 3 (.slice (some ⟨g', 0, none⟩) (k + 1) cap') (k + 1) (llv P T g L c k ++ lv3 (P k) (T k) G (L k) C))
    (hg : (w1.alloc o).grownBy w2 v.ownBlock) (hl : v.ownBlock = some g' ∨ g' = w1.heap.size + 1) : AL base w2 (.slice (some ⟨g', 0, none⟩) (k + 1) cap') (k + 1) P T L Z := by
  have hsz : w1.heap.size + 1 ≤ w2.heap.size := by have := hg.size; rw [World.size_alloc] at this; exact this
  have keep : ∀ q, q < w1.heap.size → v.ownBlock ≠ some q → w2.heap[q]? = w1.heap[q]? := fun q hq hv => (hg.block q (by rw [World.size_alloc]; omega) (fun e => hv e.symm)).trans (Below.heap_alloc _ _ _ hq)
  have far : ∀ q, q < w1.heap.size → v.ownBlock ≠ some q → (Value.slice (some ⟨g', 0, none⟩) (k + 1) cap').ownBlock ≠ some q := fun q hq hv e => by
    simp only [Value.ownBlock, Option.some.injEq] at e
    rcases hl with hl | hl
    · exact hv (by rw [hl, e])
    · omega
  refine ⟨fun i => if i < k then g i else G, fun i => if i < k then c i else C, ?_, fun i j hi hj' e => ?_, fun i hi => ?_⟩
  · simp only [llv, Nat.lt_irrefl, if_false]
    rw [llv_congr (P' := P) (T' := T) (g' := g) (L' := L) (c' := c) (fun _ _ => rfl) (fun _ _ => rfl) (fun i hi => by simp [hi]) (fun _ _ => rfl) (fun i hi => by simp [hi])]
    exact ho
  · by_cases c1 : i < k <;> by_cases c2 : j < k <;> simp only [c1, c2, if_true, if_false] at e
    · exact hj i j c1 c2 e
    · exact absurd e (hne i c1)
    · exact absurd e.symm (hne j c2)
    · omega
  · by_cases c1 : i < k
    · simp only [c1, if_true]
      obtain ⟨h1, h2, h3, h4, h5⟩ := hc i c1
      exact ⟨h1, by omega, far _ h2 h3, h4.block (keep _ h2 h3), h5⟩
    · have : i = k := by omega
      subst this
      simp only [Nat.lt_irrefl, if_false]
      exact ⟨hG0, by omega, far _ hG1 hG2, hr.block (keep _ hG1 hG2), hC⟩
theorem AL.own {base : Nat} {w : World} {v : Value} {n : Nat} {P T : Nat → Int} {L : Nat → Nat} {Z : Nat → Nat → Int} (h : AL base w v n P T L Z) : ∃ a cap, v = .slice a n cap ∧ n ≤ cap ∧ OwnL w base w.heap.size a n P T L Z := by
  obtain ⟨g, c, hown, hj, hc⟩ := h
  by_cases h0 : n = 0
  · subst h0
    rcases hown.2 with ⟨rfl, _⟩ | ⟨q, cap, cur, rfl, _, _, hcap, _⟩
    · exact ⟨none, 0, rfl, Nat.le_refl _, Nat.le_refl _, .inl rfl⟩
    · exact ⟨_, cap, rfl, hcap, Nat.le_refl _, .inl rfl⟩
  · rcases hown.2 with ⟨rfl, h1⟩ | ⟨q, cap, cur, rfl, hbq, hq, hcap, _⟩
    · omega
    · have hlt : q < w.heap.size := by
        obtain ⟨hlt, _⟩ := Array.getElem?_eq_some_iff.1 hq
        exact hlt
      refine ⟨_, cap, rfl, hcap, Nat.le_refl _, .inr ⟨q, 0, rfl, hbq, hlt, g, fun _ => 0, c, hj, fun i hi => ?_⟩⟩
      obtain ⟨h1, h2, h3, h4, h5⟩ := hc i hi
      have e0 := hown.cellAt (i * 3 + 0) (by omega)
      have e1 := hown.cellAt (i * 3 + 1) (by omega)
      have e2 := hown.cellAt (i * 3 + 2) (by omega)
      rw [llv_get _ _ _ _ _ _ _ _ hi (by omega)] at e0 e1 e2
      refine ⟨fun e => h3 (by simp [Value.ownBlock, e]), h1, h2, ?_, ?_, ?_, hown.frozenAt _, hown.frozenAt _, h4, h5⟩
      · rw [Nat.zero_add]; exact e0
      · rw [Nat.zero_add]; exact e1
      · rw [Nat.zero_add]; exact e2
theorem AL.set {base q p : Nat} {w : World} {v x : Value} {k : Nat} {P T : Nat → Int} {L : Nat → Nat} {Z : Nat → Nat → Int} (h : AL base w v k P T L Z) (hq : q < base) : AL base (w.setCell ⟨q, p, none⟩ x) v k P T L Z := by
  obtain ⟨g, c, ho, hj, hc⟩ := h
  have hw : Writes q (q + 1) w (w.setCell ⟨q, p, none⟩ x) := Writes.setCell (Writes.refl _ _ _) (p := ⟨q, p, none⟩) (Nat.le_refl _) (by show q < q + 1; omega) x
  refine ⟨g, c, ?_, hj, fun i hi => ?_⟩
  · refine ho.kept (row := some q) ⟨hw.os, hw.tape, hw.output, hw.size, fun z hz hne => hw.block z hz (by simp at hne; omega)⟩ ?_
    cases hv : v.ownBlock with
    | none => exact .inl rfl
    | some z => exact .inr (fun e => by have := (ho.lt z hv).1; simp at e; omega)
  · obtain ⟨h1, h2, h3, h4, h5⟩ := hc i hi
    exact ⟨h1, Nat.lt_of_lt_of_le h2 hw.size, h3, h4.block (hw.block _ h2 (by omega)), h5⟩
theorem Writes.of_below' {B : Nat} {w w' : World} (h : Below B w w') : Writes B w.heap.size w w' := ⟨h.os, h.tape, h.output, h.size, fun k hk hd => h.block k (by omega)⟩
theorem frozen_block {w : World} {b j : Nat} {c : Array Value} {t : TypeId} (h : w.heap[b]? = some (.cells c t (0, 0))) : w.frozen? ⟨b, j, none⟩ = false := by simp [World.frozen?, h]
end Go.Proofs.Ytldnfiadafmomaa
