/- Both UnpackRecs. -/
import Derived.Test.YtapggckfacmklaaQUv
import Derived.Test.YtapggckfacmklaaQRe
namespace Go.Proofs.Ytapggckfacmklaa
open Go.RowKit Go.Deep
set_option linter.unusedVariables false
set_option maxRecDepth 20000

def urC (n : Nat) : Int := if n ≤ 4000 then 0 else 2
def urN (z : Nat → Int) (n : Nat) : Nat := if n ≤ 4000 then cnt z n else 0
/-- The records that stand in bytes, as fields. -/
def zRs (z : Nat → Int) (i : Nat) : Rc := zR (sh z (13 * i))
/-- An answer that is records. -/
def R8 (c u : Int) (m : Nat) (R : Nat → Rc) (w : World) (e : Ending) (w' : World) : Prop :=
  ∃ a cap, e = .returned (.agg #[.int .i64 c, .int .i64 u, .slice a m cap]) ∧ Below w.heap.size w w' ∧ Own8 w' w.heap.size w'.heap.size a m R
theorem R8.of {c u : Int} {m : Nat} {z : Nat → Int} {w w' : World} {e : Ending} (h : RcR c u m z w e w') : R8 c u m (zRs z) w e w' := by
  obtain ⟨a, cap, rfl, hb, ho⟩ := h
  exact ⟨a, cap, rfl, hb, (own8_of_row ho).wide (by omega) (Nat.le_refl _) (Nat.le_refl _)⟩
theorem rcn_le (z : Nat → Int) (n : Nat) : ∀ f k, 13 * k ≤ n → 13 * rcn z n f k ≤ n
  | 0, k, h => h
  | f + 1, k, h => by
    unfold rcn
    split
    · rename_i hh; exact rcn_le z n f (k + 1) hh.1
    · exact h
theorem cnt_le (z : Nat → Int) (n : Nat) : 13 * cnt z n ≤ n := rcn_le z n n 0 (by omega)
set_option maxHeartbeats 2000000 in
theorem specUr_some (n : Nat) (z : Nat → Int) (a : Option Addr) (b off cap : Nat) (w : World) (hcap : n ≤ cap) (hn : n ≤ 4000) (hz : Byt n z) (ha : n = 0 ∨ a = some ⟨b, off, none⟩ ∧ b < w.heap.size ∧ BA w b off n z) :
    Calls Try.prog 32 #[.slice a n cap] w (RcR 0 (13 * (cnt z n : Int)) (cnt z n) z w) := by
  have hn4 : ¬ (4000 < (n : Int)) := by omega
  have HA : Hid (∀ o : Obj, n = 0 ∨ a = some ⟨b, off, none⟩ ∧ b < (w.alloc o).heap.size ∧ BA (w.alloc o) b off n z) := fun o => by
    rcases ha with h | ⟨h1, h2, h3⟩
    · exact .inl h
    · exact .inr ⟨h1, by rw [World.size_alloc]; omega, h3.alloc o⟩
  have HZ : Hid (Byt n z) := hz
  clear ha hz
  go_enter Try.func32, Try.ntmps32
  go_wp2_with fail
  refine (l3Recs_any n z a b off cap _ hcap (by omega) HZ.out (HA.out _)).mono ?_
  rintro e w1 ⟨ra, rcp, rfl, hb1, ho1⟩
  obtain ⟨hcc, hff⟩ := bcell hb1
  have r0 : w1.cell? ⟨w.heap.size, 0, none⟩ = some (.int .i64 0) := by rw [hcc _ _ (by simp <;> omega)]; simp [go_sem]
  have r1 : w1.cell? ⟨w.heap.size, 1, none⟩ = some (.int .i64 0) := by rw [hcc _ _ (by simp <;> omega)]; simp [go_sem]
  have r2 : w1.cell? ⟨w.heap.size, 2, none⟩ = some (.slice none 0 0) := by rw [hcc _ _ (by simp <;> omega)]; simp [go_sem]
  have fz : ∀ i, w1.frozen? ⟨w.heap.size, i, none⟩ = false := fun i => by rw [hff _ _ (by simp <;> omega)]; simp [go_sem]
  have HB1 : Hid (Below w.heap.size w w1) := below_then (below_new _ _) hb1
  rw [World.size_alloc] at ho1
  have HO : Hid (w1.ownsRow (w.heap.size + 1) 37 8 (.slice ra (cnt z n) rcp) (cnt z n) (rvs z (cnt z n))) := ho1
  generalize hcn : cnt z n = m at *
  clear hcc hff hb1 ho1 hcn
  go_wp2_with fail
  refine bodyPost_ret (v := .agg #[.int .i64 0, .int .i64 (13 * (m : Int)), .slice ra m rcp]) (by simp [results, Try.results32, go_sem, *]) rfl ?_
  refine ⟨ra, rcp, rfl, ?_, ?_⟩
  · repeat (first | exact HB1.out | apply Below.drew | refine Below.setCell ?_ (by first | omega | (simp <;> omega)) _)
  · repeat (first | exact HO.out | refine ownsRow_setCell_below ?_ (by show w.heap.size < w.heap.size + 1; omega) _)
theorem specUr_big (n : Nat) (z : Nat → Int) (a : Option Addr) (cap : Nat) (w : World) (hn : ¬ n ≤ 4000) : Calls Try.prog 32 #[.slice a n cap] w (RcR 2 0 0 z w) := by
  have hn4 : 4000 < (n : Int) := by omega
  go_enter Try.func32, Try.ntmps32
  go_wp2_with fail
  refine bodyPost_ret (v := .agg #[.int .i64 2, .int .i64 0, .slice none 0 0]) (by simp [results, Try.results32, go_sem]) rfl ⟨none, 0, rfl, below_new _ _, World.ownsRow_nil _ _ _ _⟩
theorem implUr_big (n : Nat) (z : Nat → Int) (a : Option Addr) (cap : Nat) (w : World) (hn : ¬ n ≤ 4000) : Calls Try.prog 10 #[.slice a n cap] w (RcR 2 0 0 z w) := by
  have hn4 : 4000 < (n : Int) := by omega
  go_enter Try.func10, Try.ntmps10
  go_wp2_with fail
  refine bodyPost_ret (v := .agg #[.int .i64 2, .int .i64 0, .slice none 0 0]) (by simp [results, Try.results10, go_sem]) rfl ⟨none, 0, rfl, below_new _ _, World.ownsRow_nil _ _ _ _⟩
/-- Both, at every length. -/
theorem specUr_any (n : Nat) (z : Nat → Int) (a : Option Addr) (b off cap : Nat) (w : World) (hcap : n ≤ cap) (hz : Byt n z) (ha : n = 0 ∨ a = some ⟨b, off, none⟩ ∧ b < w.heap.size ∧ BA w b off n z) :
    Calls Try.prog 32 #[.slice a n cap] w (RcR (urC n) (13 * (urN z n : Int)) (urN z n) z w) := by
  unfold urC urN
  by_cases h : n ≤ 4000
  · rw [if_pos h, if_pos h]; exact specUr_some n z a b off cap w hcap h hz ha
  · rw [if_neg h, if_neg h]; exact specUr_big n z a cap w h
theorem implUr_all (n : Nat) (z : Nat → Int) (a : Option Addr) (b off cap : Nat) (w : World) (hcap : n ≤ cap) (hz : Byt n z) (ha : n = 0 ∨ a = some ⟨b, off, none⟩ ∧ b < w.heap.size ∧ BA w b off n z) :
    Calls Try.prog 10 #[.slice a n cap] w (RcR (urC n) (13 * (urN z n : Int)) (urN z n) z w) := by
  unfold urC urN
  by_cases h : n ≤ 4000
  · rw [if_pos h, if_pos h]; exact implUr_any n z a b off cap w hcap h hz ha
  · rw [if_neg h, if_neg h]; exact implUr_big n z a cap w h
end Go.Proofs.Ytapggckfacmklaa
