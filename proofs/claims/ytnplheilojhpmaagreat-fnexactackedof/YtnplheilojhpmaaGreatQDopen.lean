/- An argument of type laws.Disk, opened. -/
import Derived.Test.YtnplheilojhpmaaGreatQCq
import Derived.Test.YtnplheilojhpmaaGreatQOpen
import Derived.Lib.SmallJoins
namespace Go.Proofs.YtnplheilojhpmaaGreat
open Go.ChangeShapes Go.WideShapes Go.ChangeAt Go.RowKit Go.Deep Go.Joins
set_option linter.unusedVariables false
set_option maxRecDepth 20000
theorem cells62 : Tryz.prog.cellsOf 26 = 2 := by kernel_rfl
theorem cells149 : Tryz.prog.cellsOf 124 = 3 := by kernel_rfl
theorem cells22 : Tryz.prog.cellsOf 27 = 1 := by kernel_rfl
theorem cells5 : Tryz.prog.cellsOf 5 = 1 := by kernel_rfl

theorem openBytes {H : Type} {enc : TypeId × Value → H} {W : World} {fuel : Nat} {cs : List Value} {x : DataW H × List MemPlace}
    (h : DataW.trod enc Tryz.prog W 0 (fun _ => true) true fuel 27 cs = some x) :
    ∃ (a : Option Addr) (n cap : Nat) (z : Nat → Int), cs = [.slice a n cap] ∧ n ≤ 9223372036854775807 ∧ Byt n z ∧ BytesAt W a n z ∧ n ≤ cap := by
  rcases open_ints Tryz.underlying27 Tryz.underlying5 cells5 h with ⟨rfl, _⟩ | ⟨a, l, c, zs, rfl, _, hl, hm, hz, _, hcell, hwz⟩
  · exact ⟨none, 0, 0, fun _ => 0, rfl, by omega, fun i hi => by omega, .inl rfl, Nat.le_refl _⟩
  · have hz' : zs.length = c := by simpa using hz
    unfold maxLen at hm
    refine ⟨some a, l, c, fun i => zs.getD i 0, rfl, by omega, fun i hi => ?_, ?_, hl⟩
    · have hin : zs.getD i 0 ∈ zs := by
        rw [List.getD_eq_getElem?_getD, List.getElem?_eq_getElem (by omega)]; simp
      have := hwz _ hin
      simpa [Lit.wf, IntKind.min, IntKind.max, IntKind.signed, IntKind.bits] using this
    · by_cases hz0 : l = 0
      · exact .inl hz0
      · obtain ⟨b, off, spot⟩ := a
        have hc0 := hcell 0 (by omega)
        have hspot : spot = none := by simpa [Addr.add] using World.cell?_spot hc0
        subst hspot
        exact .inr ⟨b, off, rfl, Go.block_lt_of_cell hc0, fun i hi => by have := hcell i (by omega); rwa [add_plain] at this⟩
theorem openPages {H : Type} {enc : TypeId × Value → H} {W : World} {fuel : Nat} {cs : List Value} {x : DataW H × List MemPlace}
    (h : DataW.trod enc Tryz.prog W 0 (fun _ => true) true fuel 23 cs = some x) :
    ∃ (a : Option Addr) (n cap : Nat) (L : Nat → Nat) (Z : Nat → Nat → Int), cs = [.slice a n cap] ∧ n ≤ 9223372036854775807 ∧ (∀ i, i < n → L i ≤ 9223372036854775807) ∧ (∀ i, i < n → Byt (L i) (Z i)) ∧ PagesAt W a n L Z := by
  rcases open_slice1 Tryz.underlying23 cells22 h with ⟨rfl, _⟩ | ⟨a, l, c, m, nn, V, D, Pl, rfl, _, hl, hm, hmm, _, hx⟩
  · exact ⟨none, 0, 0, fun _ => 0, fun _ _ => 0, rfl, by omega, fun i hi => by omega, fun i hi => by omega, .inl rfl⟩
  · have hmc : m = c := by simpa using hmm
    unfold maxLen at hm
    have each : ∀ i, i < l → ∃ q : (Option Addr × Nat) × (Nat × (Nat → Int)), V i = .slice q.1.1 q.2.1 q.1.2 ∧ q.2.1 ≤ 9223372036854775807 ∧ Byt q.2.1 q.2.2 ∧ BytesAt W q.1.1 q.2.1 q.2.2 ∧ q.2.1 ≤ q.1.2 := fun i hi => by
      obtain ⟨a', n', c', z', e, h1, h2, h3, h4⟩ := openBytes (hx i (by omega)).2
      simp only [List.cons.injEq, and_true] at e
      exact ⟨((a', c'), (n', z')), e, h1, h2, h3, h4⟩
    obtain ⟨q, hq⟩ := choose_lt each
    refine ⟨some a, l, c, fun i => (q i).2.1, fun i => (q i).2.2, rfl, by omega, fun i hi => (hq i hi).2.1, fun i hi => (hq i hi).2.2.1, ?_⟩
    by_cases hz0 : l = 0
    · exact .inl hz0
    · obtain ⟨b, off, spot⟩ := a
      have hc0 := (hx 0 (by omega)).1
      have hspot : spot = none := by simpa [Addr.add] using World.cell?_spot hc0
      subst hspot
      refine .inr ⟨b, off, rfl, Go.block_lt_of_cell hc0, fun i hi => ⟨(q i).1.1, (q i).1.2, ?_, (hq i hi).2.2.2⟩⟩
      have := (hx i (by omega)).1
      rw [add_plain, (hq i hi).1] at this
      exact this
theorem openLooses {H : Type} {enc : TypeId × Value → H} {W : World} {fuel : Nat} {cs : List Value} {x : DataW H × List MemPlace}
    (h : DataW.trod enc Tryz.prog W 0 (fun _ => true) true fuel 24 cs = some x) :
    ∃ (a : Option Addr) (n cap : Nat) (P T : Nat → Int) (L : Nat → Nat) (Z : Nat → Nat → Int), cs = [.slice a n cap] ∧ n ≤ 9223372036854775807 ∧ (∀ i, i < n → L i ≤ 9223372036854775807) ∧ (∀ i, i < n → Byt (L i) (Z i)) ∧ LoosesAt W a n P T L Z := by
  rcases open_slice Tryz.underlying24 h with ⟨rfl, _⟩ | ⟨a, l, c, m, nn, D, Pl, rfl, _, hl, hm, hmm, _, hx⟩
  · exact ⟨none, 0, 0, fun _ => 0, fun _ => 0, fun _ => 0, fun _ _ => 0, rfl, by omega, fun i hi => by omega, fun i hi => by omega, .inl rfl⟩
  · have hmc : m = c := by simpa using hmm
    unfold maxLen at hm
    rw [cells149] at hx
    have each : ∀ i, i < l → ∃ q : (Int × Int) × (Option Addr × Nat) × (Nat × (Nat → Int)), W.cell? (a.add (i * 3)) = some (.int .i64 q.1.1) ∧ W.cell? (a.add (i * 3 + 1)) = some (.int .i64 q.1.2) ∧ W.cell? (a.add (i * 3 + 2)) = some (.slice q.2.1.1 q.2.2.1 q.2.1.2) ∧ q.2.2.1 ≤ 9223372036854775807 ∧ Byt q.2.2.1 q.2.2.2 ∧ BytesAt W q.2.1.1 q.2.2.1 q.2.2.2 ∧ q.2.2.1 ≤ q.2.1.2 := fun i hi => by
      obtain ⟨cs', h1, h2⟩ := hx i (by omega)
      obtain ⟨_, hlen, hcell⟩ := World.cells?_some h1
      obtain ⟨xs, k, hk, hxy, _, hxl, hf⟩ := DataW.trod_struct Tryz.underlying124 h2
      match xs, hxl, cs', hlen with
      | [y0, y1, y2], _, [v0, v1, v2], _ =>
        have g0 := hf 0 _ rfl
        have g1 := hf 1 _ rfl
        have g2 := hf 2 _ rfl
        simp [cells2, cells22] at g0 g1 g2
        have e0 := hcell 0 (by omega)
        have e1 := hcell 1 (by omega)
        have e2 := hcell 2 (by omega)
        rw [add_add] at e0 e1 e2
        obtain ⟨z0, f0, _, _⟩ := DataW.trod_int Tryz.underlying2 g0
        obtain ⟨z1, f1, _, _⟩ := DataW.trod_int Tryz.underlying2 g1
        obtain ⟨a', n', c', z', f2, k1, k2, k3, k4⟩ := openBytes g2
        simp at f0 f1 f2
        subst f0 f1 f2
        exact ⟨((z0, z1), (a', c'), (n', z')), by simpa using e0, by simpa using e1, by simpa using e2, k1, k2, k3, k4⟩
    obtain ⟨q, hq⟩ := choose_lt each
    refine ⟨some a, l, c, fun i => (q i).1.1, fun i => (q i).1.2, fun i => (q i).2.2.1, fun i => (q i).2.2.2, rfl, by omega, fun i hi => (hq i hi).2.2.2.1, fun i hi => (hq i hi).2.2.2.2.1, ?_⟩
    by_cases hz0 : l = 0
    · exact .inl hz0
    · obtain ⟨b, off, spot⟩ := a
      have hc0 := (hq 0 (by omega)).1
      have hspot : spot = none := by simpa [Addr.add] using World.cell?_spot hc0
      subst hspot
      refine .inr ⟨b, off, rfl, Go.block_lt_of_cell hc0, fun i hi => ?_⟩
      obtain ⟨k0, k1, k2, _, _, k3⟩ := hq i hi
      rw [add_plain] at k0 k1 k2
      exact ⟨k0, by rw [Nat.add_assoc]; exact k1, (q i).2.1.1, (q i).2.1.2, by rw [Nat.add_assoc]; exact k2, k3⟩
structure DiskByt (D : Dk) : Prop where
  p : ∀ i, i < D.n → Byt (D.L i) (D.Z i)
  l : ∀ i, i < D.m → Byt (D.M i) (D.Y i)
end Go.Proofs.YtnplheilojhpmaaGreat
