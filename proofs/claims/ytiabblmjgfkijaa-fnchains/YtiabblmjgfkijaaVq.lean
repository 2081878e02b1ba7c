/- spec.l5Purge: the walk. -/
import Derived.Test.YtiabblmjgfkijaaVo
import Derived.Test.YtiabblmjgfkijaaVn
import Derived.Deep.DeepCutAuto
namespace Go.Proofs.Ytiabblmjgfkijaa
open Go.RowKit Go.Deep
set_option linter.unusedVariables false
set_option maxRecDepth 20000

/-- How many versions a purge at f leaves. -/
def puN (n : Nat) (R : Nat → Vr) (f : Int) : Nat := if told n R f 0 = true then pS n R f 0 + 1 else pS n R f 0
/-- A good chain, met by nobody's view: what is committed at the floor or ahead of it. -/
theorem kd_nobody {n : Nat} {R : Nat → Vr} {f : Int} {i : Nat} (hc : chF n R = 0) (hi : i < n) : kd (R i) f 0 = 0 ↔ ¬ ((R i).a ≠ 0 ∧ (R i).a ≤ f) := by
  have hg := ((chF_good hc).2 i hi).1
  have ht : inB (R i).t 1 999 = true := by
    simp only [vR, Bool.and_eq_true] at hg
    exact hg.1.1
  rw [inB_iff] at ht
  unfold kd
  by_cases h : (R i).a ≠ 0 ∧ (R i).a ≤ f
  · rw [if_pos (.inl h)]
    constructor
    · intro h9; cases hgg : (R i).g <;> simp [hgg] at h9
    · intro h9; exact absurd h h9
  · rw [if_neg (by intro h9; rcases h9 with h9 | h9; exact h h9; omega)]
    exact ⟨fun _ => h, fun _ => rfl⟩
set_option maxHeartbeats 4000000 in
theorem l5Purge_any (n : Nat) (R : Nat → Vr) (a : Option Addr) (cap : Nat) (f : Int) (w : World) (hc0 : chF n R = 0) (h : VersAt w a n R) :
    Calls Try.prog 29 #[.slice a n cap, .int .i64 f] w (VAns (puN n R f) R w) := by
  have hn := (chF_good hc0).1
  have HC0 : Hid (chF n R = 0) := hc0
  have HA : Hid (VersAt w a n R) := h
  clear h hc0
  have HO0 : Hid ((w.alloc (.cells #[] 51)).ownsRow w.heap.size 51 4 (.slice (some ⟨w.heap.size, 0, none⟩) 0 0) 0 []) := World.ownsRow_made w #[] 0 (Nat.le_refl _) (by unfold maxLen; omega) rfl
  go_enter Try.func29, Try.ntmps29
  go_wp2_with fail
  go_loopw [5, 6] (fun v i wr => ∃ k : Nat, k ≤ n ∧ i = .int .i64 k ∧ Hid (pS n R f 0 = psn R f 0 (n - k) k) ∧ Hid (Below w.heap.size w wr) ∧ Hid (∀ j, j < k → kd (R j) f 0 = 0) ∧ ∃ ra rc, v = .slice ra k rc ∧ Hid (wr.ownsRow w.heap.size 51 4 (.slice ra k rc) k (vb (vL R k)))) (fun _ i _ => n - (intOf i).toNat)
  case atStart => exact ⟨0, Nat.zero_le _, rfl, rfl, below_new _ _, fun j hj => absurd hj (Nat.not_lt_zero _), _, _, rfl, HO0⟩
  case round =>
    obtain ⟨k, hk0, rfl, HE, HB, HKZ, ra, rc, rfl, HO⟩ := hrel
    by_cases hlt : k < n
    · have HE2 : Hid (pS n R f 0 = _) := HE.out.trans (psn_at hlt)
      obtain ⟨b, off, rfl, hl, hcc⟩ : ∃ b off, a = some ⟨b, off, none⟩ ∧ b < w.heap.size ∧ C4 wr b (off + k * 4) (R k) := by
        rcases HA.out with h | ⟨b, off, ha, hl, hc⟩
        · omega
        · exact ⟨b, off, ha, hl, (hc k hlt).block (HB.out.block _ hl)⟩
      have hlt' : (k : Int) < (n : Int) := by omega
      have hk1 : (0 : Int) ≤ (k : Int) := by omega
      have hkd := kd_nobody (f := f) HC0.out hlt
      have HOA : Hid (∀ o : Obj, (wr.alloc o).ownsRow w.heap.size 51 4 (.slice ra k rc) (vL R k).length (vb (vL R k))) := fun o => by rw [vL_len]; exact HO.out.alloc o
      have HVN : Hid (VersAt (wr.alloc (.cells #[.int .i64 (R k).t, .int .i64 (R k).a, .bool (R k).g, .int .i64 (R k).v] 51)) (some ⟨wr.heap.size, 0, none⟩) 1 (fun _ => R k)) := .inr ⟨wr.heap.size, 0, rfl, by simp, fun i hi => by
        obtain rfl : i = 0 := by omega
        simp [C4]⟩
      have HLE : Hid ((vL R k).length + 1 ≤ 100000) := by show (vL R k).length + 1 ≤ 100000; rw [vL_len]; omega
      have HSZ : Hid (∀ o : Obj, w.heap.size ≤ (wr.alloc o).heap.size) := fun o => by rw [World.size_alloc]; have := HB.out.size; omega
      obtain ⟨x0, x1, x2, x3⟩ := hcc
      go_wp2_with (at_builtin; refine wpList_appV _ rfl (.tmp 15) (.tmp 20) rfl w.heap.size _ (vL R k) rfl (HOA.out _) (some ⟨wr.heap.size, 0, none⟩) 1 1 (fun _ => R k) rfl HVN.out HLE.out (HSZ.out _) ?_)
      intro v1 w1 ho1 hg1
      have e1 : vL R k ++ vL (fun _ => R k) 1 = vL R (k + 1) := by simp [vL, List.range_succ]
      have e2 : (vL R (k + 1)).length = k + 1 := vL_len _ _
      rw [← List.length_append, e1, e2] at ho1
      obtain ⟨rb, rd, rfl, hrd⟩ := row_slice ho1
      have HB1 : Hid (Below w.heap.size w w1) := ((HB.out.alloc (by have := HB.out.size; omega) _).grown hg1 (HSZ.out _) (fun q hq => (HO.out.lt q hq).1))
      have HO1 : Hid (w1.ownsRow w.heap.size 51 4 (.slice rb (k + 1) rd) (k + 1) (vb (vL R (k + 1)))) := ho1
      have HW1 := (own4_of_row (vL_len R (k + 1)) ho1).congr (S := R) (fun i hi => vL_getD hi)
      obtain ⟨z0, z1, z2, z3⟩ : C4 w1 b (off + k * 4) (R k) := by
        rcases HA.out with h | ⟨b', off', ha, hl', hc⟩
        · omega
        · simp only [Option.some.injEq, Addr.mk.injEq] at ha
          obtain ⟨rfl, rfl, -⟩ := ha
          exact (hc k hlt).block (HB1.out.block _ hl')
      clear ho1 hg1 x0 x1 x2 x3 HOA HVN HLE HSZ HE e1 e2 HO
      by_cases hz : (R k).a ≠ 0 ∧ (R k).a ≤ f
      · have hne : ¬ kd (R k) f 0 = 0 := fun h9 => (hkd.1 h9) hz
        have hpS : pS n R f 0 = k := HE2.out.trans (if_neg hne)
        obtain ⟨hz1, hz2⟩ := hz
        have hz3 : ((R k).a != 0) = true := by simp [hz1]
        obtain ⟨ob, oo, rfl, hlo, hhi, hsz, hrow⟩ := own4_some HW1 (by omega)
        obtain ⟨y0, y1, y2, y3⟩ := hrow.1 k (by omega)
        have hrd1 : (k : Int) + 1 ≤ (rd : Int) := by omega
        have hwk : IntKind.i64.wrap (k : Int) = (k : Int) := by rw [IntKind.wrap_i64]; omega
        have hkr : (k : Int) ≤ (rd : Int) := by omega
        cases hgg : (R k).g
        · have hpu : puN n R f = k + 1 := by
            unfold puN
            rw [if_pos (told_iff.2 (by rw [hpS]; exact ⟨hlt, hgg⟩)), hpS]
          have HF : Hid (VAns (puN n R f) R w (.returned (.slice (some ⟨ob, oo, none⟩) (k + 1) rd)) w1) := by rw [hpu]; exact ⟨_, _, rfl, HB1.out, HW1⟩
          rw [hgg] at y2
          clear hpu hpS HE2 HW1 hrow hgg HC0 hkd hne HA HO1
          generalize (R k).a = ka at *
          generalize (R k).t = kt at *
          generalize (R k).v = kv at *
          go_wp2_with fail
          go_ret
          exact HF.out
        · have hpu : puN n R f = k := by
            unfold puN
            rw [if_neg (fun h9 => by have h8 := (told_iff.1 h9).2; rw [hpS, hgg] at h8; cases h8), hpS]
          have HF : Hid (VAns (puN n R f) R w (.returned (.slice (some ⟨ob, oo, none⟩) k rd)) w1) := by
            rw [hpu]
            exact ⟨_, _, rfl, HB1.out, Nat.le_refl _, .inr ⟨ob, oo, rfl, hlo, hhi, fun i hi => hrow.1 i (by omega), hrow.2⟩⟩
          rw [hgg] at y2
          clear hpu hpS HE2 HW1 hrow hgg HC0 hkd hne HA HO1
          generalize (R k).a = ka at *
          generalize (R k).t = kt at *
          generalize (R k).v = kv at *
          go_wp2_with fail
          go_ret
          exact HF.out
      · have hk00 : kd (R k) f 0 = 0 := hkd.2 hz
        have HE : Hid (pS n R f 0 = psn R f 0 (n - (k + 1)) (k + 1)) := HE2.out.trans (if_pos hk00)
        have HKZ1 : Hid (∀ j, j < k + 1 → kd (R j) f 0 = 0) := fun j hj => by
          by_cases e : j = k
          · subst e; exact hk00
          · exact HKZ.out j (by omega)
        by_cases ha : (R k).a = 0
        · rw [ha] at z1
          clear hz hkd hk00 HW1 HE2 z0 z2 z3 ha
          go_wp2_with fail
          go_roundw
          case rel => exact ⟨k + 1, hlt, by go_num, HE, HB1, HKZ1, _, _, rfl, HO1⟩
          case measure => simp [intOf]; omega
        · have ha1 : ((R k).a != 0) = true := by simp [ha]
          have ha2 : decide ((R k).a ≤ f) = false := by simp; exact Int.not_le.1 fun h9 => hz ⟨ha, h9⟩
          clear hz hkd hk00 HW1 HE2 z0 z2 z3
          generalize (R k).a = ka at *
          go_wp2_with fail
          go_roundw
          case rel => exact ⟨k + 1, hlt, by go_num, HE, HB1, HKZ1, _, _, rfl, HO1⟩
          case measure => simp [intOf]; omega
    · have hkn : k = n := by omega
      have hpS : pS n R f 0 = n := by
        refine HE.out.trans ?_
        rw [show n - k = 0 by omega, psn, hkn]
      have hpu : puN n R f = k := by
        unfold puN
        rw [if_neg (fun h9 => by have h8 := (told_iff.1 h9).1; omega), hpS, hkn]
      have hnl : ¬ ((k : Int) < (n : Int)) := by omega
      have HW1 := (own4_of_row (vL_len R k) HO.out).congr (S := R) (fun i hi => vL_getD hi)
      have HF : Hid (VAns (puN n R f) R w (.returned (.slice ra k rc)) wr) := by rw [hpu]; exact ⟨_, _, rfl, HB.out, HW1⟩
      rcases Nat.eq_zero_or_pos k with hk9 | hpos
      · subst hk9
        clear HW1 HO HE hpu hpS HKZ HA HC0 hkn hlt hk0
        go_wp2_with fail
        go_ret
        exact HF.out
      · obtain ⟨j, rfl⟩ : ∃ j, k = j + 1 := ⟨k - 1, by omega⟩
        obtain ⟨ob, oo, rfl, hlo, hhi, hsz, hrow⟩ := own4_some HW1 (by omega)
        obtain ⟨y0, y1, y2, y3⟩ := hrow.1 j (by omega)
        have hwk : IntKind.i64.wrap (j : Int) = (j : Int) := by rw [IntKind.wrap_i64]; omega
        have hj0 : (0 : Int) < (j : Int) + 1 := by omega
        have hkz := (kd_nobody (f := f) HC0.out (i := j) (by omega)).1 (HKZ.out j (by omega))
        clear HW1 HO HE hpu hpS HKZ HA HC0 hrow y0 y3 hkn hlt
        cases hgg : (R j).g
        · rw [hgg] at y2
          clear hgg hkz
          go_wp2_with fail
          go_ret
          exact HF.out
        · rw [hgg] at y2
          clear hgg
          by_cases ha : (R j).a = 0
          · rw [ha] at y1
            clear hkz ha
            go_wp2_with fail
            go_ret
            exact HF.out
          · have ha1 : ((R j).a != 0) = true := by simp [ha]
            have ha2 : decide ((R j).a ≤ f) = false := by simp; exact Int.not_le.1 fun h9 => hkz ⟨ha, h9⟩
            clear hkz
            generalize (R j).a = ka at *
            go_wp2_with fail
            go_ret
            exact HF.out
end Go.Proofs.Ytiabblmjgfkijaa
