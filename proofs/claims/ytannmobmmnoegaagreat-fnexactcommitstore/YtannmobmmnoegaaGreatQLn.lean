/- CrashLog: what it answers; spec.l3Crash. -/
import Derived.Test.YtannmobmmnoegaaGreatQLm
namespace Go.Proofs.YtannmobmmnoegaaGreat
open Go.RowKit Go.Deep
set_option linter.unusedVariables false
set_option maxRecDepth 20000

/-- An answer that is a log. -/
def LRes (c s : Int) (L : Lo) (w : World) (e : Ending) (w' : World) : Prop :=
  ∃ a1 a2 c1 c2, e = .returned (.agg #[.int .i64 c, .int .i64 s, .slice a1 L.n1 c1, .slice a2 L.n2 c2]) ∧ Below w.heap.size w w' ∧ OwnG w' w.heap.size w'.heap.size a1 a2 L
theorem lgC_zero {L : Lo} (h : lgC L = 0) : L.n1 + L.n2 ≤ 4000 ∧ 13 * cnt (aZ L) (L.n1 + L.n2) = L.n1 + L.n2 := by
  unfold lgC at h
  by_cases h1 : 4000 < L.n1 + L.n2
  · rw [if_pos h1] at h; omega
  · rw [if_neg h1] at h
    by_cases h2 : 13 * cnt (aZ L) (L.n1 + L.n2) = L.n1 + L.n2
    · exact ⟨by omega, h2⟩
    · rw [if_neg h2] at h; omega
theorem lres_none {c : Int} {w w' : World} (hb : Below w.heap.size w w') : LRes c 0 ⟨0, fun _ => 0, 0, fun _ => 0⟩ w (.returned (.agg #[.int .i64 c, .int .i64 0, .slice none 0 0, .slice none 0 0])) w' :=
  ⟨none, none, 0, 0, rfl, hb, Nat.le_refl _, w.heap.size, w.heap.size, w.heap.size, w.heap.size, Nat.le_refl _, hb.size, Nat.le_refl _, hb.size, .inl (Nat.le_refl _), ⟨hb.size, .inl rfl⟩, ⟨hb.size, .inl rfl⟩⟩
/-- Behind the append to an empty list that was just made. -/
theorem below_grow0 {W w6 : World} {o : Obj} (hg : (W.alloc o).drew.grownBy w6 (some W.heap.size)) : Below W.heap.size W w6 :=
  ((below_new W o).drew).grown hg (by show _ ≤ (W.alloc o).heap.size; rw [World.size_alloc]; omega) (fun q hq => by simp at hq; omega)
theorem ownB_zL {w : World} {lo hi u : Nat} {a : Option Addr} {z : Nat → Int} (h : OwnB w lo hi a u (zOf (zL z u))) : OwnB w lo hi a u z := by
  obtain ⟨h0, h1 | ⟨b, off, ha, hl, hh, hcl, hfr⟩⟩ := h
  · exact ⟨h0, .inl h1⟩
  · exact ⟨h0, .inr ⟨b, off, ha, hl, hh, fun i hi => by rw [hcl i hi]; unfold zOf; rw [zL_get z u i hi], hfr⟩⟩
end Go.Proofs.YtannmobmmnoegaaGreat
