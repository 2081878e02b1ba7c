/- impl.piecesOf; two lists of loose writes, one behind the other. -/
import Derived.Test.YtgchkpahoilmdaaCpl
namespace Go.Proofs.Ytgchkpahoilmdaa
open Go.RowKit Go.Deep
set_option linter.unusedVariables false
set_option maxRecDepth 20000

/-- The three pieces of a page. -/
def pcP (idn : Int) (_ : Nat) : Int := idn
def pcT (i : Nat) : Int := i
def pcY (z : Nat → Int) (i q : Nat) : Int := z (16 * i + q)
theorem roundD {wr w2 w4 : World} {B j G C g2 c2 : Nat} {v : Value} {P T : Nat → Int} {Y : Nat → Nat → Int} {g c : Nat → Nat} {o2 : Obj} (hB : B ≤ wr.heap.size) (hj : ∀ x y, x < j → y < j → g x = g y → x = y)
    (hcc : ∀ i, i < j → B ≤ g i ∧ g i < wr.heap.size ∧ v.ownBlock ≠ some (g i) ∧ Row1 wr (g i) 0 16 (Y i) ∧ 16 ≤ c i) (hown : wr.ownsRow B 106 3 v j (llv P T g (fun _ => 16) c j))
    (hb2 : Below wr.heap.size wr w2) (hG0 : wr.heap.size ≤ G) (hG : G < w2.heap.size) (hr1 : Row1 w2 G 0 16 (Y j)) (hC1 : 16 ≤ C)
    (hown2 : w4.ownsRow B 106 3 (.slice (some ⟨g2, 0, none⟩) (j + 1) c2) (j + 1) (llv P T g (fun _ => 16) c j ++ lv3 (P j) (T j) G 16 C)) (hg2 : (w2.alloc o2).grownBy w4 v.ownBlock) (hat2 : v.ownBlock = some g2 ∨ g2 = w2.heap.size + 1) :
    AL B w4 (.slice (some ⟨g2, 0, none⟩) (j + 1) c2) (j + 1) P T (fun _ => 16) Y ∧ Below B wr w4 := by
  have hs1 : wr.heap.size ≤ w2.heap.size := hb2.size
  refine ⟨AL.step (w1 := w2) hj (fun i hi => ?_) (by omega) hG (fun e => by have := (hown.lt G e).2; omega) (fun i hi => by have := (hcc i hi).2.1; omega) hr1 hC1 hown2 hg2 hat2, ?_⟩
  · obtain ⟨h1, h2, h3, h4, h5⟩ := hcc i hi
    exact ⟨h1, by omega, h3, h4.block (hb2.block _ h2), h5⟩
  · have b2 : Below B wr w2 := hb2.mono (by omega)
    have b3 : Below B w2 (w2.alloc o2) := (Below.refl B w2).alloc (by omega) o2
    have b4 : Below B (w2.alloc o2) w4 := below_grown hg2 (by rw [World.size_alloc]; omega) (fun z e => (hown.lt z e).1)
    exact (b2.trans b3).trans b4
/-! ### one list behind the other -/
def cat {α : Type} (f g : Nat → α) (m i : Nat) : α := if i < m then f i else g (i - m)
theorem cat_lt {α : Type} (f g : Nat → α) {m i : Nat} (h : i < m) : cat f g m i = f i := by simp [cat, h]
theorem cat_ge {α : Type} (f g : Nat → α) (m i : Nat) : cat f g m (m + i) = g i := by
  unfold cat
  rw [if_neg (by omega)]
  congr 1; omega
theorem llv_cat (P T P2 T2 : Nat → Int) (g L c g2 L2 c2 : Nat → Nat) (m : Nat) : ∀ k, llv (cat P P2 m) (cat T T2 m) (cat g g2 m) (cat L L2 m) (cat c c2 m) (m + k) = llv P T g L c m ++ llv P2 T2 g2 L2 c2 k
  | 0 => by
    rw [Nat.add_zero, llv, List.append_nil]
    exact llv_congr (fun i hi => cat_lt _ _ hi) (fun i hi => cat_lt _ _ hi) (fun i hi => cat_lt _ _ hi) (fun i hi => cat_lt _ _ hi) (fun i hi => cat_lt _ _ hi)
  | k + 1 => by
    rw [← Nat.add_assoc, llv, llv_cat P T P2 T2 g L c g2 L2 c2 m k, llv, List.append_assoc, cat_ge, cat_ge, cat_ge, cat_ge, cat_ge]
theorem AL.join {base base2 : Nat} {w w' : World} {v v2 : Value} {m k g' cap' : Nat} {P T P2 T2 : Nat → Int} {L L2 : Nat → Nat} {Z Z2 : Nat → Nat → Int} {g c g2 c2 : Nat → Nat} (hb : base ≤ base2)
    (hown : w.ownsRow base 106 3 v m (llv P T g L c m)) (hj : ∀ i j, i < m → j < m → g i = g j → i = j) (hc : ∀ i, i < m → base ≤ g i ∧ g i < base2 ∧ v.ownBlock ≠ some (g i) ∧ Row1 w (g i) 0 (L i) (Z i) ∧ L i ≤ c i) (hv : ∀ q, v.ownBlock = some q → q < base2) (hb2 : base2 ≤ w.heap.size)
    (hj2 : ∀ i j, i < k → j < k → g2 i = g2 j → i = j) (hc2 : ∀ i, i < k → base2 ≤ g2 i ∧ g2 i < w.heap.size ∧ Row1 w (g2 i) 0 (L2 i) (Z2 i) ∧ L2 i ≤ c2 i)
    (ho : w'.ownsRow base 106 3 (.slice (some ⟨g', 0, none⟩) (m + k) cap') (m + k) (llv P T g L c m ++ llv P2 T2 g2 L2 c2 k)) (hg : w.grownBy w' v.ownBlock) (hl : v.ownBlock = some g' ∨ g' = w.heap.size) :
    AL base w' (.slice (some ⟨g', 0, none⟩) (m + k) cap') (m + k) (cat P P2 m) (cat T T2 m) (cat L L2 m) (cat Z Z2 m) := by
  have keep : ∀ q, q < w.heap.size → v.ownBlock ≠ some q → w'.heap[q]? = w.heap[q]? := fun q hq hv => hg.block q hq (fun e => hv e.symm)
  have far : ∀ q, q < w.heap.size → v.ownBlock ≠ some q → (Value.slice (some ⟨g', 0, none⟩) (m + k) cap').ownBlock ≠ some q := fun q hq hv e => by
    simp only [Value.ownBlock, Option.some.injEq] at e
    rcases hl with hl | hl
    · exact hv (by rw [hl, e])
    · omega
  have hsz := hg.size
  refine ⟨cat g g2 m, cat c c2 m, by rw [llv_cat]; exact ho, fun i j hi hj' e => ?_, fun i hi => ?_⟩
  · by_cases c1 : i < m <;> by_cases d1 : j < m
    · rw [cat_lt _ _ c1, cat_lt _ _ d1] at e; exact hj i j c1 d1 e
    · obtain ⟨y, rfl⟩ : ∃ y, j = m + y := ⟨j - m, by omega⟩
      rw [cat_lt _ _ c1, cat_ge] at e
      have h1 := (hc i c1).2.1
      have h2 := (hc2 y (by omega)).1
      omega
    · obtain ⟨x, rfl⟩ : ∃ x, i = m + x := ⟨i - m, by omega⟩
      rw [cat_ge, cat_lt _ _ d1] at e
      have h1 := (hc j d1).2.1
      have h2 := (hc2 x (by omega)).1
      omega
    · obtain ⟨x, rfl⟩ : ∃ x, i = m + x := ⟨i - m, by omega⟩
      obtain ⟨y, rfl⟩ : ∃ y, j = m + y := ⟨j - m, by omega⟩
      rw [cat_ge, cat_ge] at e
      have := hj2 x y (by omega) (by omega) e
      omega
  · by_cases c1 : i < m
    · rw [cat_lt _ _ c1, cat_lt _ _ c1, cat_lt _ _ c1, cat_lt _ _ c1]
      obtain ⟨h1, h2, h3, h4, h5⟩ := hc i c1
      exact ⟨h1, by omega, far _ (by omega) h3, h4.block (keep _ (by omega) h3), h5⟩
    · obtain ⟨x, rfl⟩ : ∃ x, i = m + x := ⟨i - m, by omega⟩
      rw [cat_ge, cat_ge, cat_ge, cat_ge]
      obtain ⟨h1, h2, h4, h5⟩ := hc2 x (by omega)
      have h3 : v.ownBlock ≠ some (g2 x) := fun e => by have := hv _ e; omega
      exact ⟨by omega, by omega, far _ h2 h3, h4.block (keep _ h2 h3), h5⟩
end Go.Proofs.Ytgchkpahoilmdaa
