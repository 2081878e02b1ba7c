/- Draws: the source of choices, spec.l1Source, l1Next, l1Chance. -/
import Derived.Test.YtiflheclfgloaaaDoorByt
import Derived.Deep.DeepCutAuto
namespace Go.Proofs.YtiflheclfgloaaaDoor
open Go.RowKit Go.Deep
set_option linter.unusedVariables false
set_option maxRecDepth 20000

/-- The source in block S: the bytes lie ahead of it, t choices were made. -/
structure Src (w : World) (S : Nat) (a : Option Addr) (k cap : Nat) (z : Nat → Int) (t : Nat) : Prop where
  c0 : w.cell? ⟨S, 0, none⟩ = some (.slice a k cap)
  c1 : w.cell? ⟨S, 1, none⟩ = some (.int .i64 t)
  f : ∀ i, w.frozen? ⟨S, i, none⟩ = false
  b : BytesAt w a k z
  far : ∀ b off, a = some ⟨b, off, none⟩ → k = 0 ∨ b < S
  byt : Byt k z
  len : k ≤ 1048576
theorem Src.below {w w' : World} {S : Nat} {a : Option Addr} {k cap : Nat} {z : Nat → Int} {t : Nat} (h : Src w S a k cap z t) (hb : Below w.heap.size w w') : Src w' S a k cap z t :=
  ⟨cell_below h.c0 hb, cell_below h.c1 hb, fun i => (hb.frozen (p := ⟨S, i, none⟩) (show S < w.heap.size from Go.block_lt_of_cell h.c0)).trans (h.f i), h.b.below hb, h.far, h.byt, h.len⟩
theorem Src.next {w : World} {S : Nat} {a : Option Addr} {k cap : Nat} {z : Nat → Int} {t : Nat} (h : Src w S a k cap z t) (t' : Nat) : Src (w.setCell ⟨S, 1, none⟩ (.int .i64 t')) S a k cap z t' := by
  refine ⟨by rw [World.cell?_setCell_other _ _ _ _ (by simp)]; exact h.c0, ?_, fun i => by rw [World.frozen?_setCell]; exact h.f i, ?_, h.far, h.byt, h.len⟩
  · have := h.c1
    simp [go_sem, this]
  · rcases h.b with e | ⟨b, off, rfl, hl, hc⟩
    · exact .inl e
    · rcases h.far b off rfl with e | e
      · exact .inl e
      · exact .inr ⟨b, off, rfl, by simpa [World.setCell] using hl, fun i hi => by rw [World.cell?_setCell_other _ _ _ _ (by simp <;> omega)]; exact hc i hi⟩
theorem Src.drew {w : World} {S : Nat} {a : Option Addr} {k cap : Nat} {z : Nat → Int} {t : Nat} (h : Src w S a k cap z t) : Src w.drew S a k cap z t := h.below ((Below.refl _ _).drew)
/-- What a choice leaves. -/
def Nx (S : Nat) (a : Option Addr) (k cap : Nat) (z : Nat → Int) (t : Nat) (w w' : World) : Prop := Writes S (S + 1) w w' ∧ w'.heap.size = w.heap.size ∧ Src w' S a k cap z t
/-- What a choice out of n is. -/
def NxA (n v : Int) : Prop := 0 ≤ v ∧ (1 ≤ n → v < n) ∧ (n < 1 → v = 0)
theorem rem_pos {x n : Int} (hx : 0 ≤ x) (hn : 1 ≤ n) : 0 ≤ x.tmod n ∧ x.tmod n < n := by
  rw [Int.tmod_eq_emod_of_nonneg hx]
  exact ⟨Int.emod_nonneg _ (by omega), Int.emod_lt_of_pos _ (by omega)⟩
set_option maxHeartbeats 4000000 in
theorem l1Next_any (S : Nat) (a : Option Addr) (k cap : Nat) (z : Nat → Int) (t : Nat) (n : Int) (w : World) (ht : t ≤ 1000000) (hn : n ≤ 1000000) (h : Src w S a k cap z t) :
    Calls Tryd.prog 39 #[.pointer (some ⟨S, 0, none⟩), .int .i64 n] w fun e w' => ∃ v : Int, e = .returned (.int .i64 v) ∧ NxA n v ∧ Nx S a k cap z (t + 1) w w' := by
  have HS : Hid (Src w S a k cap z t) := h
  have c0 := h.c0
  have c1 := h.c1
  have cf := h.f
  have hw1 : IntKind.i64.wrap ((t : Int) + 1) = (t : Int) + 1 := by rw [IntKind.wrap_i64]; omega
  have e1 : ((t + 1 : Nat) : Int) = (t : Int) + 1 := by omega
  have HN : Hid (Src (w.setCell ⟨S, 1, none⟩ (.int .i64 ((t : Int) + 1))) S a k cap z (t + 1)) := by rw [← e1]; exact h.next (t + 1)
  have HW : Hid (Writes S (S + 1) w (w.setCell ⟨S, 1, none⟩ (.int .i64 ((t : Int) + 1)))) := Writes.setCell (Writes.refl _ _ _) (p := ⟨S, 1, none⟩) (Nat.le_refl _) (Nat.lt_succ_self _) _
  have hkl := h.len
  clear h
  go_enter Tryd.func39, Tryd.ntmps39
  go_upto_region 2 with fail
  obtain ⟨W, hW⟩ : ∃ x, x = w.setCell ⟨S, 1, none⟩ (.int .i64 ((t : Int) + 1)) := ⟨_, rfl⟩
  have HZ : Hid (W.heap.size = w.heap.size) := by rw [hW]; show (w.setCell _ _).heap.size = _; simp [World.setCell]
  rw [← hW] at HN HW
  rw [← hW]
  have HNX : Hid (Nx S a k cap z (t + 1) w W) := ⟨HW.out, HZ.out, HN.out⟩
  have HNXd : Hid (∀ m, Nx S a k cap z (t + 1) w (W.drewN m)) := fun m => by
    have hb : Below W.heap.size W (W.drewN m) := below_drewN (Below.refl _ _) m
    refine ⟨HW.out.trans (Writes.of_below hb), ?_, HN.out.below hb⟩
    have : (W.drewN m).heap.size = W.heap.size := by simp
    rw [this]; exact HZ.out
  have d0 := HN.out.c0
  have d1 := HN.out.c1
  rw [e1] at d1
  clear e1
  have hb := HN.out.b
  have hbyt := HN.out.byt
  clear hW c0 c1 cf HS hw1
  by_cases h1 : n < 1
  · go_wp2_with fail
    go_ret
    exact ⟨0, rfl, ⟨by omega, fun h => by omega, fun _ => rfl⟩, HNX.out⟩
  have hw2 : IntKind.i64.wrap ((t : Int) + 1 - 1) = (t : Int) := by rw [IntKind.wrap_i64]; omega
  have h1' : (1 : Int) ≤ n := by omega
  have hnz : (n == 0) = false := by simp; omega
  have hnz2 : n ≠ 0 := by omega
  by_cases hk : k = 0
  · subst hk
    have hw3 : IntKind.i64.wrap ((t : Int) * 7) = (t : Int) * 7 := by rw [IntKind.wrap_i64]; omega
    have hr := rem_pos (x := (t : Int) * 7) (by omega) h1'
    have hr2 : 0 ≤ (t : Int) * 7 % n ∧ (t : Int) * 7 % n < n := ⟨Int.emod_nonneg _ hnz2, Int.emod_lt_of_pos _ (by omega)⟩
    have hw4 : IntKind.i64.wrap (((t : Int) * 7).tmod n) = ((t : Int) * 7).tmod n := by rw [IntKind.wrap_i64]; omega
    go_wp2_with fail
    go_ret
    first
      | exact ⟨_, rfl, ⟨hr2.1, fun _ => hr2.2, fun h => by omega⟩, HNX.out⟩
      | exact ⟨_, rfl, ⟨hr.1, fun _ => hr.2, fun h => by omega⟩, HNX.out⟩
  rcases hb with hb | ⟨b, off, rfl, hl, hc⟩
  · exact absurd hb hk
  have hk1 : (0 : Int) < (k : Int) := by omega
  have hkz : ((k : Int) == 0) = false := by simp; omega
  have hk2 : (k : Int) ≠ 0 := by omega
  have hm0 : (t : Int).tmod (k : Int) = ((t % k : Nat) : Int) := by rw [Int.tmod_eq_emod_of_nonneg (by omega)]; omega
  have hq0 : (t : Int).tdiv (k : Int) = ((t / k : Nat) : Int) := by rw [Int.tdiv_eq_ediv_of_nonneg (by omega)]; omega
  have hlt0 : t % k < k := Nat.mod_lt _ (by omega)
  have hql : t / k ≤ 1000000 := Nat.le_trans (Nat.div_le_self _ _) ht
  have x0 := hc (t % k) hlt0
  have y0 := hbyt (t % k) hlt0
  have hlt1 : (t + 1) % k < k := Nat.mod_lt _ (by omega)
  have x1 := hc ((t + 1) % k) hlt1
  have y1 := hbyt ((t + 1) % k) hlt1
  have hm1 : ((t : Int) + 1).tmod (k : Int) = (((t + 1) % k : Nat) : Int) := by
    rw [show (t : Int) + 1 = ((t + 1 : Nat) : Int) by omega, Int.tmod_eq_emod_of_nonneg (by omega)]
    omega
  have hi0 : ((t % k : Nat) : Int) < (k : Int) := by omega
  have hi1 : (((t + 1) % k : Nat) : Int) < (k : Int) := by omega
  have hi0p : (0 : Int) ≤ ((t % k : Nat) : Int) := by omega
  have hi1p : (0 : Int) ≤ (((t + 1) % k : Nat) : Int) := by omega
  clear hc hbyt
  generalize hz0 : z (t % k) = v0 at *
  generalize hz1 : z ((t + 1) % k) = v1 at *
  generalize t % k = i0 at *
  generalize (t + 1) % k = i1 at *
  generalize t / k = q at *
  have hwt : IntKind.i64.wrap ((t : Int) + 1) = (t : Int) + 1 := by rw [IntKind.wrap_i64]; omega
  have hwq : IntKind.i64.wrap ((q : Int) * 37) = (q : Int) * 37 := by rw [IntKind.wrap_i64]; omega
  have hwv : IntKind.i64.wrap (v0 + (q : Int) * 37) = v0 + (q : Int) * 37 := by rw [IntKind.wrap_i64]; omega
  have hwc0 : IntKind.i64.wrap v0 = v0 := by rw [IntKind.wrap_i64]; omega
  have hwc1 : IntKind.i64.wrap v1 = v1 := by rw [IntKind.wrap_i64]; omega
  have hwm : IntKind.i64.wrap (v1 * 13) = v1 * 13 := by rw [IntKind.wrap_i64]; omega
  clear hz0 hz1 hlt0 hlt1
  go_upto_region 8 with fail
  go_region
  all_goals
    by_cases h200 : 200 < n
    · have hx1 : IntKind.i64.wrap ((v0 + (q : Int) * 37) * 251) = (v0 + (q : Int) * 37) * 251 := by rw [IntKind.wrap_i64]; omega
      have hx2 : IntKind.i64.wrap ((v0 + (q : Int) * 37) * 251 + v1 * 13) = (v0 + (q : Int) * 37) * 251 + v1 * 13 := by rw [IntKind.wrap_i64]; omega
      have hx3 : IntKind.i64.wrap ((v0 + (q : Int) * 37) * 251 + v1 * 13 + t) = (v0 + (q : Int) * 37) * 251 + v1 * 13 + t := by rw [IntKind.wrap_i64]; omega
      have HV : Hid (∀ y : Int, y = (v0 + (q : Int) * 37) * 251 + v1 * 13 + t → NxA n (y % n) ∧ NxA n (y.tmod n)) := by
        rintro y rfl
        have hr := rem_pos (x := (v0 + (q : Int) * 37) * 251 + v1 * 13 + t) (by omega) h1'
        exact ⟨⟨Int.emod_nonneg _ hnz2, fun _ => Int.emod_lt_of_pos _ (by omega), fun h => by omega⟩, hr.1, fun _ => hr.2, fun h => by omega⟩
      go_upto_region 10 with fail
      go_region
      all_goals
        obtain ⟨y, hy⟩ : ∃ y : Int, y = (v0 + (q : Int) * 37) * 251 + v1 * 13 + t := ⟨_, rfl⟩
        have HY := HV.out y hy
        have hy0 : 0 ≤ y := by omega
        rw [← hy]
        clear hy hx1 hx2 hx3
        go_wp2_with fail
        go_ret
        first
          | exact ⟨_, rfl, HY.1, HNXd.out 2⟩
          | exact ⟨_, rfl, HY.2, HNXd.out 2⟩
    · have HV : Hid (NxA n ((v0 + (q : Int) * 37) % n) ∧ NxA n ((v0 + (q : Int) * 37).tmod n)) := by
        have hr := rem_pos (x := v0 + (q : Int) * 37) (by omega) h1'
        exact ⟨⟨Int.emod_nonneg _ hnz2, fun _ => Int.emod_lt_of_pos _ (by omega), fun h => by omega⟩, hr.1, fun _ => hr.2, fun h => by omega⟩
      go_wp2_with fail
      go_ret
      first
        | exact ⟨_, rfl, HV.out.1, HNXd.out 1⟩
        | exact ⟨_, rfl, HV.out.2, HNXd.out 1⟩
end Go.Proofs.YtiflheclfgloaaaDoor
