/- spec.l2Do: one loose write done. -/
import Derived.Test.YtaokclhcmgbgnaaGreatQSpl
import Derived.BigRegion
namespace Go.Proofs.YtaokclhcmgbgnaaGreat
open Go.RowKit Go.Deep
set_option linter.unusedVariables false
set_option maxRecDepth 20000

theorem OwnP.pick2 {w : World} {lo hi : Nat} {a : Option Addr} {n : Nat} {L : Nat → Nat} {Z : Nat → Nat → Int} (h : OwnP w lo hi a n L Z) {j : Nat} (hj : j < n) :
    ∃ b off g o c, a = some ⟨b, off, none⟩ ∧ w.cell? ⟨b, off + j, none⟩ = some (.slice (some ⟨g, o, none⟩) (L j) c) ∧ lo ≤ g ∧ g < hi ∧ g ≠ b ∧ Row1 w g o (L j) (Z j) ∧ L j ≤ c ∧
      ∀ w1 z, Writes g (g + 1) w w1 → Row1 w1 g o (L j) z → OwnP w1 lo hi a n L (upd Z j z) := by
  have h2 := h
  obtain ⟨h0, h1 | ⟨b, off, ha, hlo, hl, g, o, c, hinj, hc⟩⟩ := h
  · omega
  obtain ⟨k0, k1, k2, k3, k4, k5⟩ := hc j hj
  refine ⟨b, off, g j, o j, c j, ha, k3, k1, k2, k0, k4, k5, fun w1 z hw hr => ⟨Nat.le_trans h0 hw.size, .inr ⟨b, off, ha, hlo, hl, g, o, c, hinj, fun i hi => ?_⟩⟩⟩
  obtain ⟨m0, m1, m2, m3, m4, mc⟩ := hc i hi
  refine ⟨m0, m1, m2, (hw.cell (by omega) (by omega) _).trans m3, ?_, mc⟩
  by_cases e : i = j
  · subst e; rw [upd_eq]; exact hr
  · rw [upd_ne _ _ e]
    have : g i ≠ g j := fun q => e (hinj i j hi hj q)
    exact m4.block (hw.block _ (by omega) (by omega))
/-- The first k bytes of a sector are laid. -/
def zk (z : Nat → Int) (t : Nat) (y : Nat → Int) (k r : Nat) : Int := if 16 * t ≤ r ∧ r < 16 * t + k then y (r - 16 * t) else z r
theorem zk_step {w : World} {g o t k : Nat} {z y : Nat → Int} (ht : t < 3) (hk : k < 16) (h : Row1 w g o 48 (zk z t y k)) : Row1 (w.setCell ⟨g, o + (t * 16 + k), none⟩ (.int .u8 (y k))) g o 48 (zk z t y (k + 1)) := by
  obtain ⟨hc, hf⟩ := h
  refine ⟨fun i hi => ?_, fun i hi => by rw [World.frozen?_setCell]; exact hf i hi⟩
  by_cases e : i = t * 16 + k
  · subst e
    rw [setS (hc _ hi)]
    unfold zk
    rw [if_pos ⟨by omega, by omega⟩]
    have : t * 16 + k - 16 * t = k := by omega
    rw [this]
  · rw [setO (by omega), hc i hi]
    unfold zk
    by_cases d : 16 * t ≤ i ∧ i < 16 * t + k
    · rw [if_pos d, if_pos ⟨d.1, by omega⟩]
    · rw [if_neg d, if_neg (by omega)]
theorem lay_upd (Z : Nat → Nat → Int) (p t : Nat) (y : Nat → Int) : upd Z p (zk (Z p) t y 16) = lay Z (p : Int) (t : Int) y := by
  funext q r
  unfold lay
  by_cases e : q = p
  · subst e
    rw [upd_eq]
    unfold zk
    by_cases d : 16 * t ≤ r ∧ r < 16 * t + 16
    · rw [if_pos d, if_pos ⟨rfl, by omega, by omega⟩]
      exact congrArg y (by omega)
    · rw [if_neg d, if_neg (by omega)]
  · rw [upd_ne _ _ e, if_neg (by omega)]
set_option maxHeartbeats 4000000 in
theorem l2Do_any (Bd n p t : Nat) (Z : Nat → Nat → Int) (y : Nat → Int) (av ai : Option Addr) (cv ci lo hi : Nat) (w : World) (hp : p < n) (hn : n ≤ 8) (ht : t < 3)
    (hB : w.cell? ⟨Bd, 0, none⟩ = some (.slice av n cv)) (hBl : Bd < lo ∨ hi ≤ Bd) (ho : OwnP w lo hi av n (fun _ => 48) Z) (hy : ∃ ba oa, ai = some ⟨ba, oa, none⟩ ∧ (ba < lo ∨ hi ≤ ba) ∧ ∀ i, i < 16 → w.cell? ⟨ba, oa + i, none⟩ = some (.int .u8 (y i))) :
    Calls Tryz.prog 90 #[.pointer (some ⟨Bd, 0, none⟩), .agg #[.int .i64 p, .int .i64 t, .slice ai 16 ci]] w fun e w' => e = .returned (.tuple #[]) ∧ Writes lo hi w w' ∧ OwnP w' lo hi av n (fun _ => 48) (lay Z p t y) := by
  obtain ⟨b, off, g, o, c, rfl, hpc, hg0, hg1, hgb, hrow, hcap, hupd⟩ := ho.pick2 hp
  obtain ⟨ba, oa, rfl, hba, hyc⟩ := hy
  have hlb : b < w.heap.size := Go.block_lt_of_cell hpc
  have hlB : Bd < w.heap.size := Go.block_lt_of_cell hB
  have hla : ba < w.heap.size := Go.block_lt_of_cell (hyc 0 (by omega))
  have hlg : g < w.heap.size := by have := ho.1; omega
  have HR : Hid (Row1 w g o 48 (Z p)) := hrow
  have HU : Hid (∀ w1 z, Writes g (g + 1) w w1 → Row1 w1 g o 48 z → OwnP w1 lo hi (some ⟨b, off, none⟩) n (fun _ => 48) (upd Z p z)) := hupd
  have HYC : Hid (∀ i, i < 16 → w.cell? ⟨ba, oa + i, none⟩ = some (.int .u8 (y i))) := hyc
  have HN : Hid ((Bd < lo ∨ hi ≤ Bd) ∧ (ba < lo ∨ hi ≤ ba) ∧ lo ≤ g ∧ g < hi ∧ g ≠ b) := ⟨hBl, hba, hg0, hg1, hgb⟩
  have hsl := ho.1
  clear hrow hupd hyc hBl hba hg0 hg1 hgb ho
  go_enter Tryz.func90, Tryz.ntmps90
  go_wp2_with fail
  go_loopw [4] (fun i wr => ∃ k : Nat, k ≤ 16 ∧ i = .int .i64 k ∧ Hid (Writes g (g + 1) (w.alloc (.cells #[.int .i64 p, .int .i64 t, .slice (some ⟨ba, oa, none⟩) 16 ci] 136)) wr) ∧ Hid (Row1 wr g o 48 (zk (Z p) t y k))) (fun i _ => 16 - (intOf i).toNat)
  case atStart =>
    refine ⟨0, by omega, rfl, Writes.refl _ _ _, ?_⟩
    have h := HR.out.block (w' := w.alloc (.cells #[.int .i64 p, .int .i64 t, .slice (some ⟨ba, oa, none⟩) 16 ci] 136)) (Below.heap_alloc _ _ _ hlg)
    exact ⟨fun i hi => by rw [h.1 i hi]; unfold zk; rw [if_neg (by omega)], h.2⟩
  case round =>
    obtain ⟨k, hk, rfl, HW, HZ⟩ := hrel
    by_cases hlt : k < 16
    · obtain ⟨n1, n2, n3, n4, n5⟩ := HN.out
      have bx := Box3.new w (.int .i64 (p : Int)) (.int .i64 (t : Int)) (.slice (some ⟨ba, oa, none⟩) 16 ci) 136
      have cw : ∀ q o' v, q ≠ g → q < w.heap.size + 1 → (w.alloc (.cells #[.int .i64 (p : Int), .int .i64 (t : Int), .slice (some ⟨ba, oa, none⟩) 16 ci] 136)).cell? ⟨q, o', none⟩ = some v → wr.cell? ⟨q, o', none⟩ = some v := fun q o' v h1 h2 h3 => (HW.out.cell (by rw [World.size_alloc]; omega) (by omega) o').trans h3
      have c0 := cw _ _ _ (by omega) (by omega) bx.1
      have c1 := cw _ _ _ (by omega) (by omega) bx.2.1
      have c2 := cw _ _ _ (by omega) (by omega) bx.2.2
      have c3 := cw _ _ _ (by omega) (by omega) (cell_alloc hB _)
      have c4 := cw _ _ _ (fun e => n5 e.symm) (by omega) (cell_alloc hpc _)
      have c5 := cw _ _ _ (by omega) (by omega) (cell_alloc (HYC.out k hlt) _)
      have c6 := HZ.out.1 (t * 16 + k) (by omega)
      have c7 := HZ.out.2 (t * 16 + k) (by omega)
      generalize zk (Z p) t y k (t * 16 + k) = v0 at c6
      have hw1 : IntKind.i64.wrap ((t : Int) * 16) = (t : Int) * 16 := by rw [IntKind.wrap_i64]; omega
      have hw2 : IntKind.i64.wrap ((t : Int) * 16 + k) = (t : Int) * 16 + k := by rw [IntKind.wrap_i64]; omega
      have hw3 : ((t : Int) * 16 + k).toNat = t * 16 + k := by omega
      have i1 : (p : Int) < (n : Int) := by omega
      have i2 : (k : Int) < 16 := by omega
      have i3 : (t : Int) * 16 + (k : Int) < 48 := by omega
      have i4 : 0 ≤ (t : Int) * 16 + (k : Int) := by omega
      clear bx cw n1 n2 n3 n4 n5
      go_wp2_with fail
      go_region
      clear c0 c1 c2 c3 c4 c5 c6 c7 i1 i2 i3 i4 hw1 hw2 hw3
      go_wp2_with fail
      go_roundw
      case rel =>
        refine ⟨k + 1, hlt, by go_num, ?_, zk_step ht hlt HZ.out⟩
        have hz := Writes.setCell HW.out (p := ⟨g, o + (t * 16 + k), none⟩) (Nat.le_refl _) (Nat.lt_succ_self _) (.int .u8 (y k))
        exact ⟨hz.os, hz.tape, hz.output, hz.size, hz.block⟩
      case measure => simp [intOf]; omega
    · have hk16 : k = 16 := by omega
      subst hk16
      clear hlt
      go_wp2_with fail
      go_end0
      have hwr : Writes g (g + 1) w wr := ((Writes.refl g (g + 1) w).alloc _).trans HW.out
      have hN := HN.out
      refine ⟨rfl, ⟨hwr.os, hwr.tape, hwr.output, hwr.size, fun q h1 h2 => hwr.block q h1 (by omega)⟩, ?_⟩
      have h := HU.out wr _ hwr HZ.out
      rw [lay_upd] at h
      exact h
end Go.Proofs.YtaokclhcmgbgnaaGreat
