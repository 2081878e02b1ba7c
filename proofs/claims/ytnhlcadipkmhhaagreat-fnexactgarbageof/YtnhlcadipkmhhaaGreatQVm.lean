/- What a view meets first: spec.l5Seen, impl.placeSeen. -/
import Derived.Test.YtnhlcadipkmhhaaGreatQVk
namespace Go.Proofs.YtnhlcadipkmhhaaGreat
open Go.RowKit Go.Deep
set_option linter.unusedVariables false
set_option maxRecDepth 20000

/-- The first place from i on, among m, at which the view meets something; behind all if there is none. -/
def psn (R : Nat → Vr) (x o : Int) : Nat → Nat → Nat
  | 0, i => i
  | m + 1, i => if kd (R i) x o = 0 then psn R x o m (i + 1) else i
theorem psn_at {R : Nat → Vr} {x o : Int} {n k : Nat} (h : k < n) : psn R x o (n - k) k = if kd (R k) x o = 0 then psn R x o (n - (k + 1)) (k + 1) else k := by
  obtain ⟨m, hm⟩ : ∃ m, n - k = m + 1 := ⟨n - k - 1, by omega⟩
  rw [hm, psn, show n - (k + 1) = m by omega]
theorem psn_le (R : Nat → Vr) (x o : Int) : ∀ m i, psn R x o m i ≤ i + m ∧ (psn R x o m i < i + m → kd (R (psn R x o m i)) x o ≠ 0)
  | 0, i => ⟨Nat.le_refl _, fun h => absurd h (Nat.lt_irrefl _)⟩
  | m + 1, i => by
    rw [psn]
    split
    · have := psn_le R x o m (i + 1)
      exact ⟨by omega, fun h => this.2 (by omega)⟩
    · rename_i h; exact ⟨by omega, fun _ => h⟩
def pS (n : Nat) (R : Nat → Vr) (x o : Int) : Nat := psn R x o n 0
theorem pS_le (n : Nat) (R : Nat → Vr) (x o : Int) : pS n R x o ≤ n := by have := (psn_le R x o n 0).1; unfold pS; omega
/-- What spec.l5Seen answers. -/
def sS (n : Nat) (R : Nat → Vr) (x o : Int) : Int := if pS n R x o < n ∧ (R (pS n R x o)).g = false then (pS n R x o : Int) else -1
set_option maxHeartbeats 4000000 in
theorem placeSeen_any (n : Nat) (R : Nat → Vr) (a : Option Addr) (cap : Nat) (x o : Int) (w : World) (hn : n ≤ 12) (h : VersAt w a n R) :
    Calls Tryz.prog 133 #[.slice a n cap, .agg #[.int .i64 x, .int .i64 o]] w fun e w' => e = .returned (.int .i64 (pS n R x o : Int)) ∧ Below w.heap.size w w' := by
  have HA : Hid (VersAt w a n R) := h
  clear h
  go_enter Tryz.func133, Tryz.ntmps133
  go_wp2_with fail
  go_loopw [5] (fun i wr => ∃ k : Nat, k ≤ n ∧ i = .int .i64 k ∧ Hid (pS n R x o = psn R x o (n - k) k) ∧ Hid (Box2 wr w.heap.size (.int .i64 x) (.int .i64 o)) ∧ Hid (Below w.heap.size w wr)) (fun i _ => n - (intOf i).toNat)
  case atStart => exact ⟨0, Nat.zero_le _, rfl, rfl, Box2.new w _ _ 59, below_new _ _⟩
  case round =>
    obtain ⟨k, hk0, rfl, HE, HX, HB⟩ := hrel
    obtain ⟨q0, q1⟩ := HX.out
    by_cases hlt : k < n
    · have HE2 : Hid (pS n R x o = _) := HE.out.trans (psn_at hlt)
      obtain ⟨b, off, rfl, hl, hcc⟩ : ∃ b off, a = some ⟨b, off, none⟩ ∧ b < w.heap.size ∧ C4 wr b (off + k * 4) (R k) := by
        rcases HA.out with h | ⟨b, off, ha, hl, hc⟩
        · omega
        · exact ⟨b, off, ha, hl, (hc k hlt).block (HB.out.block _ hl)⟩
      have hlt' : (k : Int) < (n : Int) := by omega
      have hk1 : (0 : Int) ≤ (k : Int) := by omega
      obtain ⟨x0, x1, x2, x3⟩ := hcc
      clear HE HA
      by_cases hk : kd (R k) x o = 0
      · have HE : Hid (pS n R x o = psn R x o (n - (k + 1)) (k + 1)) := HE2.out.trans (if_pos hk)
        clear HE2
        generalize R k = r at *
        go_wp2_with fail
        have hb0 : Below wr.heap.size wr wr.drew := (Below.refl _ _).drew
        go_region_held3 (fun w' => Below wr.heap.size wr w' ∧ w'.cell? ⟨b, off + k * 4, none⟩ = some (.int .i64 r.t) ∧ w'.cell? ⟨b, off + k * 4 + 1, none⟩ = some (.int .i64 r.a) ∧ w'.cell? ⟨b, off + k * 4 + 2, none⟩ = some (.bool r.g) ∧ w'.cell? ⟨b, off + k * 4 + 3, none⟩ = some (.int .i64 r.v) ∧ w'.cell? ⟨w.heap.size, 0, none⟩ = some (.int .i64 x) ∧ w'.cell? ⟨w.heap.size, 1, none⟩ = some (.int .i64 o)) (go_keep)
          (first | (go_at_call 127; refine (kindIn_any r x o _).mono ?_; rintro e wq ⟨rfl, hbq⟩; rw [hk]; have hU := below_then (w := wr) (by simp [*]) hbq; have hU0 := cell_below (B := b) (o := off + k * 4) (v := .int .i64 r.t) (by simp [*]) hbq; have hU1 := cell_below (B := b) (o := off + k * 4 + 1) (v := .int .i64 r.a) (by simp [*]) hbq; have hU2 := cell_below (B := b) (o := off + k * 4 + 2) (v := .bool r.g) (by simp [*]) hbq; have hU3 := cell_below (B := b) (o := off + k * 4 + 3) (v := .int .i64 r.v) (by simp [*]) hbq; have hU4 := cell_below (B := w.heap.size) (o := 0) (v := .int .i64 x) (by simp [*]) hbq; have hU5 := cell_below (B := w.heap.size) (o := 1) (v := .int .i64 o) (by simp [*]) hbq))
        go_wp2_with fail
        go_roundw
        case rel => exact ⟨k + 1, hlt, by go_num, HE, HX.out.below (by assumption), below_then HB.out (by assumption)⟩
        case measure => simp [intOf]; omega
      · have HE : Hid (k = pS n R x o) := (HE2.out.trans (if_neg hk)).symm
        clear HE2
        generalize R k = r at *
        generalize hk2 : kd r x o = kk at *
        have hk3 : (kk == 0) = false := by simp [hk]
        go_wp2_with fail
        have hb0 : Below wr.heap.size wr wr.drew := (Below.refl _ _).drew
        go_region_held3 (fun w' => Below wr.heap.size wr w' ∧ w'.cell? ⟨b, off + k * 4, none⟩ = some (.int .i64 r.t) ∧ w'.cell? ⟨b, off + k * 4 + 1, none⟩ = some (.int .i64 r.a) ∧ w'.cell? ⟨b, off + k * 4 + 2, none⟩ = some (.bool r.g) ∧ w'.cell? ⟨b, off + k * 4 + 3, none⟩ = some (.int .i64 r.v) ∧ w'.cell? ⟨w.heap.size, 0, none⟩ = some (.int .i64 x) ∧ w'.cell? ⟨w.heap.size, 1, none⟩ = some (.int .i64 o)) (go_keep)
          (first | (go_at_call 127; refine (kindIn_any r x o _).mono ?_; rintro e wq ⟨rfl, hbq⟩; rw [hk2]; have hU := below_then (w := wr) (by simp [*]) hbq; have hU0 := cell_below (B := b) (o := off + k * 4) (v := .int .i64 r.t) (by simp [*]) hbq; have hU1 := cell_below (B := b) (o := off + k * 4 + 1) (v := .int .i64 r.a) (by simp [*]) hbq; have hU2 := cell_below (B := b) (o := off + k * 4 + 2) (v := .bool r.g) (by simp [*]) hbq; have hU3 := cell_below (B := b) (o := off + k * 4 + 3) (v := .int .i64 r.v) (by simp [*]) hbq; have hU4 := cell_below (B := w.heap.size) (o := 0) (v := .int .i64 x) (by simp [*]) hbq; have hU5 := cell_below (B := w.heap.size) (o := 1) (v := .int .i64 o) (by simp [*]) hbq))
        go_wp2_with fail
        go_ret
        exact ⟨ret_int (by rw [← HE.out]), below_then HB.out (by assumption)⟩
    · have hkn : n = k := by omega
      have HE2 : Hid (pS n R x o = k) := by
        refine HE.out.trans ?_
        rw [show n - k = 0 by omega, psn]
      have hnl : ¬ ((k : Int) < (k : Int)) := by omega
      clear HE HA
      subst hkn
      go_wp2_with fail
      refine wp_region_any (by kernel_rfl) ?_
      change wpAny _ _ _ _ _ _ _ (World.drew _)
      refine wpAny_take (i := 0) (v := .int .i64 (n : Int)) rfl (by kernel_rfl) (by kernel_rfl) (by kernel_rfl) (fun _ _ _ h => h) (Or.inl ⟨by kernel_rfl, by intro w; go_simp⟩) ?_
      refine wpAny_take (i := 1) (v := .slice a n cap) rfl (by kernel_rfl) (by kernel_rfl) (by kernel_rfl) (fun _ _ _ h => h) (Or.inl ⟨by kernel_rfl, by intro w; go_simp⟩) ?_
      refine wpAny_take (i := 2) (v := .int .i64 (n : Int)) rfl (by kernel_rfl) (by kernel_rfl) (by kernel_rfl) (fun _ _ _ h => h) (Or.inl ⟨by kernel_rfl, by intro w; go_simp⟩) ?_
      refine wpAny_take (i := 3) (v := .bool false) rfl (by kernel_rfl) (by kernel_rfl) (by kernel_rfl) (fun _ _ _ h => h) (Or.inl ⟨by kernel_rfl, by intro w; go_simp⟩) ?_
      refine wpAny_take (i := 4) (v := .bool false) rfl (by kernel_rfl) (by kernel_rfl) (by kernel_rfl) (fun _ _ _ h => h) (Or.inl ⟨by kernel_rfl, by intro w; go_simp⟩) ?_
      refine any_skip 5 (some 11) (by kernel_rfl) (by kernel_rfl) (by kernel_rfl) (by kernel_rfl) (by kernel_rfl) (fun _ _ _ h => h) ?_
      refine any_skip 6 (some 12) (by kernel_rfl) (by kernel_rfl) (by kernel_rfl) (by kernel_rfl) (by kernel_rfl) (fun _ _ _ h => h) ?_
      refine any_skip 7 (some 13) (by kernel_rfl) (by kernel_rfl) (by kernel_rfl) (by kernel_rfl) (by kernel_rfl) (fun _ _ _ h => h) ?_
      refine any_skip 8 (some 14) (by kernel_rfl) (by kernel_rfl) (by kernel_rfl) (by kernel_rfl) (by kernel_rfl) (fun _ _ _ h => h) ?_
      refine any_skip 9 (some 15) (by kernel_rfl) (by kernel_rfl) (by kernel_rfl) (by kernel_rfl) (by kernel_rfl) (fun _ _ _ h => h) ?_
      refine any_skip 10 (some 16) (by kernel_rfl) (by kernel_rfl) (by kernel_rfl) (by kernel_rfl) (by kernel_rfl) (fun _ _ _ h => h) ?_
      refine any_skip 11 (some 17) (by kernel_rfl) (by kernel_rfl) (by kernel_rfl) (by kernel_rfl) (by kernel_rfl) (fun _ _ _ h => h) ?_
      refine wpAny_take (i := 12) (v := .bool false) rfl (by kernel_rfl) (by kernel_rfl) (by kernel_rfl) (fun _ _ _ h => h) (Or.inl ⟨by kernel_rfl, by intro w; go_simp⟩) ?_
      refine wpAny_done (by kernel_rfl) ?_ _
      go_simp
      go_wp2_with fail
      go_ret
      exact ⟨ret_int (by rw [HE2.out]), HB.out.drew⟩
set_option maxHeartbeats 4000000 in
theorem l5Seen_any (n : Nat) (R : Nat → Vr) (a : Option Addr) (cap : Nat) (x o : Int) (w : World) (hn : n ≤ 12) (h : VersAt w a n R) :
    Calls Tryz.prog 114 #[.slice a n cap, .agg #[.int .i64 x, .int .i64 o]] w fun e w' => e = .returned (.int .i64 (sS n R x o)) ∧ Below w.heap.size w w' := by
  have HA : Hid (VersAt w a n R) := h
  clear h
  go_enter Tryz.func114, Tryz.ntmps114
  go_wp2_with fail
  go_loopw [5, 6] (fun i _ wr => ∃ k : Nat, k ≤ n ∧ i = .int .i64 k ∧ Hid (pS n R x o = psn R x o (n - k) k) ∧ Hid (Box2 wr w.heap.size (.int .i64 x) (.int .i64 o)) ∧ Hid (Below w.heap.size w wr)) (fun i _ _ => n - (intOf i).toNat)
  case atStart => exact ⟨0, Nat.zero_le _, rfl, rfl, Box2.new w _ _ 59, below_new _ _⟩
  case round =>
    obtain ⟨k, hk0, rfl, HE, HX, HB⟩ := hrel
    obtain ⟨q0, q1⟩ := HX.out
    have hsw : w.heap.size < wr.heap.size := Go.block_lt_of_cell q0
    have hne : ¬ w.heap.size = wr.heap.size := by omega
    by_cases hlt : k < n
    · have HE2 : Hid (pS n R x o = _) := HE.out.trans (psn_at hlt)
      obtain ⟨b, off, rfl, hl, hcc⟩ : ∃ b off, a = some ⟨b, off, none⟩ ∧ b < w.heap.size ∧ C4 wr b (off + k * 4) (R k) := by
        rcases HA.out with h | ⟨b, off, ha, hl, hc⟩
        · omega
        · exact ⟨b, off, ha, hl, (hc k hlt).block (HB.out.block _ hl)⟩
      have hlt' : (k : Int) < (n : Int) := by omega
      have hk1 : (0 : Int) ≤ (k : Int) := by omega
      have p0 := fun ob : Obj => cell_alloc q0 ob
      have p1 := fun ob : Obj => cell_alloc q1 ob
      clear HE HA
      by_cases hk : kd (R k) x o = 0
      · have HE : Hid (pS n R x o = psn R x o (n - (k + 1)) (k + 1)) := HE2.out.trans (if_pos hk)
        clear HE2
        obtain ⟨x0, x1, x2, x3⟩ := hcc
        generalize R k = r at *
        obtain ⟨t, ra, g, v⟩ := r
        simp only at x0 x1 x2 x3
        have hk2 : ¬ ((ra ≠ 0 ∧ ra ≤ x) ∨ (t = o ∧ ra = 0)) := by
          intro hh
          simp only [kd] at hk
          rw [if_pos hh] at hk
          cases g <;> simp at hk
        clear hk
        by_cases hz : ra = 0
        · subst hz
          have ht : (t == o) = false := by simp; exact fun e => hk2 (.inr ⟨e, rfl⟩)
          clear hk2
          go_wp2_with fail
          go_roundw
          case rel => exact ⟨k + 1, hlt, by go_num, HE, HX.out.below (below_new _ _), below_then HB.out (below_new _ _)⟩
          case measure => simp [intOf]; omega
        · have hz1 : (ra == 0) = false := by simp [hz]
          have hz2 : (ra != 0) = true := by simp [hz]
          have ha : decide (ra ≤ x) = false := by simp; exact Int.not_le.1 fun e => hk2 (.inl ⟨hz, e⟩)
          clear hk2
          go_wp2_with fail
          go_roundw
          case rel => exact ⟨k + 1, hlt, by go_num, HE, HX.out.below (below_new _ _), below_then HB.out (below_new _ _)⟩
          case measure => simp [intOf]; omega
      · have hE : pS n R x o = k := HE2.out.trans (if_neg hk)
        have HV : Hid (sS n R x o = if (R k).g = false then (k : Int) else -1) := by
          show sS n R x o = _
          unfold sS
          rw [hE]
          simp only [hlt, true_and]
        clear HE2 hE
        obtain ⟨x0, x1, x2, x3⟩ := hcc
        generalize R k = r at *
        obtain ⟨t, ra, g, v⟩ := r
        simp only at x0 x1 x2 x3
        have hk2 : (ra ≠ 0 ∧ ra ≤ x) ∨ (t = o ∧ ra = 0) := by
          apply Classical.byContradiction
          intro hh
          exact hk (if_neg hh)
        clear hk
        cases g
        · have HC : Hid (sS n R x o = k) := HV.out.trans (if_pos rfl)
          clear HV
          rcases hk2 with ⟨hz, ha⟩ | ⟨ht, hz⟩
          · have hz1 : (ra == 0) = false := by simp [hz]
            have hz2 : (ra != 0) = true := by simp [hz]
            go_wp2_with fail
            go_ret
            exact ⟨ret_int HC.out.symm, below_then HB.out (below_new _ _)⟩
          · subst ht hz
            go_wp2_with fail
            go_ret
            exact ⟨ret_int HC.out.symm, below_then HB.out (below_new _ _)⟩
        · have HC : Hid (sS n R x o = -1) := HV.out.trans (if_neg (by simp))
          clear HV
          rcases hk2 with ⟨hz, ha⟩ | ⟨ht, hz⟩
          · have hz1 : (ra == 0) = false := by simp [hz]
            have hz2 : (ra != 0) = true := by simp [hz]
            go_wp2_with fail
            go_ret
            exact ⟨ret_int HC.out.symm, below_then HB.out (below_new _ _)⟩
          · subst ht hz
            go_wp2_with fail
            go_ret
            exact ⟨ret_int HC.out.symm, below_then HB.out (below_new _ _)⟩
    · have HV : Hid (sS n R x o = -1) := by
        show sS n R x o = -1
        unfold sS
        have : pS n R x o = k := by
          refine HE.out.trans ?_
          rw [show n - k = 0 by omega, psn]
        exact if_neg (by omega)
      have hnl : ¬ ((k : Int) < (n : Int)) := by omega
      clear HE HA
      go_wp2_with fail
      go_ret
      exact ⟨ret_int HV.out.symm, HB.out⟩
end Go.Proofs.YtnhlcadipkmhhaaGreat
