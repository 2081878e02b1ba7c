/- Rows of versions: marked, held; answers that are chains; arguments that are chains and views, opened. -/
import Derived.Test.YtaelpjjabkkhcaaGreatDoorVb
namespace Go.Proofs.YtaelpjjabkkhcaaGreatDoor
open Go.ChangeShapes Go.WideShapes Go.ChangeAt Go.RowKit Go.Deep Go.Joins
set_option linter.unusedVariables false
set_option maxRecDepth 20000

def mV (m : Int) (i : Nat) : Vr := ⟨m + i * 4, m + i * 4 + 1, (m + i * 4 + 2) % 3 == 0, m + i * 4 + 3⟩
def mkV (m : Int) (R : Nat → Vr) (j i : Nat) : Vr := if i < j then mV m i else R i
theorem mkV_step (m : Int) (R : Nat → Vr) (k i : Nat) : (if i = k then mV m k else mkV m R k i) = mkV m R (k + 1) i := by
  unfold mkV
  by_cases e : i = k
  · subst e; simp
  · rw [if_neg e]
    have : (i < k + 1) ↔ (i < k) := by omega
    simp only [this]
/-! ### held -/
/-! ### answers that are chains -/
/-! ### arguments, opened -/
theorem cellsVer : Tryz.prog.cellsOf 114 = 4 := by kernel_rfl
theorem cellsI : Tryz.prog.cellsOf 2 = 1 := by kernel_rfl
theorem cellsB : Tryz.prog.cellsOf 4 = 1 := by kernel_rfl
theorem openVers {H : Type} {enc : TypeId × Value → H} {W : World} {fuel : Nat} {cs : List Value} {x : DataW H × List MemPlace}
    (h : DataW.trod enc Tryz.prog W 0 (fun _ => true) true fuel 65 cs = some x) :
    ∃ (a : Option Addr) (n cap : Nat) (R : Nat → Vr), cs = [.slice a n cap] ∧ n ≤ 9223372036854775807 ∧ VersAt W a n R := by
  rcases open_slice Tryz.underlying65 h with ⟨rfl, _⟩ | ⟨a, l, c, m, nn, D, Pl, rfl, _, hl, hm, hmm, _, hx⟩
  · exact ⟨none, 0, 0, fun _ => zV, rfl, by omega, .inl rfl⟩
  · have hmc : m = c := by simpa using hmm
    unfold maxLen at hm
    rw [cellsVer] at hx
    have each : ∀ i, i < l → ∃ q : (Int × Int) × (Bool × Int), W.cell? (a.add (i * 4)) = some (.int .i64 q.1.1) ∧ W.cell? (a.add (i * 4 + 1)) = some (.int .i64 q.1.2) ∧ W.cell? (a.add (i * 4 + 2)) = some (.bool q.2.1) ∧ W.cell? (a.add (i * 4 + 3)) = some (.int .i64 q.2.2) := fun i hi => by
      obtain ⟨cs', h1, h2⟩ := hx i (by omega)
      obtain ⟨_, hlen, hcell⟩ := World.cells?_some h1
      obtain ⟨xs, k, hk, hxy, _, hxl, hf⟩ := DataW.trod_struct Tryz.underlying114 h2
      match xs, hxl, cs', hlen with
      | [y0, y1, y2, y3], _, [v0, v1, v2, v3], _ =>
        have g0 := hf 0 _ rfl
        have g1 := hf 1 _ rfl
        have g2 := hf 2 _ rfl
        have g3 := hf 3 _ rfl
        simp [cellsI, cellsB] at g0 g1 g2 g3
        have e0 := hcell 0 (by omega)
        have e1 := hcell 1 (by omega)
        have e2 := hcell 2 (by omega)
        have e3 := hcell 3 (by omega)
        rw [add_add] at e0 e1 e2 e3
        obtain ⟨z0, f0, _, _⟩ := DataW.trod_int Tryz.underlying2 g0
        obtain ⟨z1, f1, _, _⟩ := DataW.trod_int Tryz.underlying2 g1
        obtain ⟨z2, f2, _⟩ := DataW.trod_bool Tryz.underlying4 g2
        obtain ⟨z3, f3, _, _⟩ := DataW.trod_int Tryz.underlying2 g3
        simp at f0 f1 f2 f3
        subst f0 f1 f2 f3
        exact ⟨((z0, z1), (z2, z3)), by simpa using e0, by simpa using e1, by simpa using e2, by simpa using e3⟩
    obtain ⟨q, hq⟩ := choose_lt each
    refine ⟨some a, l, c, fun i => ⟨(q i).1.1, (q i).1.2, (q i).2.1, (q i).2.2⟩, rfl, by omega, ?_⟩
    by_cases hz0 : l = 0
    · exact .inl hz0
    · obtain ⟨b, off, spot⟩ := a
      have hc0 := (hq 0 (by omega)).1
      have hspot : spot = none := by simpa [Addr.add] using World.cell?_spot hc0
      subst hspot
      refine .inr ⟨b, off, rfl, Go.block_lt_of_cell hc0, fun i hi => ?_⟩
      obtain ⟨k0, k1, k2, k3⟩ := hq i hi
      rw [add_plain] at k0 k1 k2 k3
      exact ⟨k0, by rw [Nat.add_assoc]; exact k1, by rw [Nat.add_assoc]; exact k2, by rw [Nat.add_assoc]; exact k3⟩
end Go.Proofs.YtaelpjjabkkhcaaGreatDoor
