/- DirtyReads: the program's side. -/
import Derived.Test.YtbmjlahiggollaaDya
namespace Go.Proofs.Ytbmjlahiggollaa
open Go.RowKit Go.Deep
set_option linter.unusedVariables false
set_option maxRecDepth 20000

def isD (R : Nat → Hp) (n i : Nat) (r : Hp) : Bool := r.o != r.t && decide (0 ≤ plc R 1 r.o n) && decide (plc R 4 r.o i < 0)
theorem not_le0 (x : Int) : (!decide (0 ≤ x)) = decide (x < 0) := by
  by_cases h : 0 ≤ x
  · simp [h]
  · simp [h]; omega
set_option maxHeartbeats 4000000 in
theorem isDirty_any (n : Nat) (R : Nat → Hp) (a : Option Addr) (i c : Nat) (r : Hp) (w : World) (hn : n ≤ 1048576) (hi : i ≤ n) (hhi : hiF R n = 0) (h : HopsAt w a n R) :
    Calls Try.prog 34 #[.agg #[.int .i64 r.k, .int .i64 r.t, .int .i64 r.y, .int .i64 r.o], .slice a n n, .slice a i c] w fun e w' => e = .returned (.bool (isD R n i r)) ∧ Below w.heap.size w w' := by
  have HX : Hid (HopsAt w a n R) := h
  have HQ : Hid (∀ z1 z2 z3 : Bool, (r.o != r.t) = z1 → decide (0 ≤ hopAt R ⟨1, r.o, 0, 0⟩ n) = z2 → (!decide (0 ≤ hopAt R ⟨4, r.o, 0, 0⟩ i)) = z3 → isD R n i r = (z1 && z2 && z3)) := fun z1 z2 z3 h1 h2 h3 => by
    rw [plc_hop hhi (Nat.le_refl _) (.inl rfl)] at h2
    rw [plc_hop hhi hi (.inr rfl), not_le0] at h3
    rw [isD, h1, h2, h3]
  have BX := Box4.new w (.int .i64 r.k) (.int .i64 r.t) (.int .i64 r.y) (.int .i64 r.o) 38
  clear h hhi
  obtain ⟨y0, y1, y2, y3⟩ := BX
  obtain h1 | h1 := boolor (r.o != r.t)
  · obtain h2 | h2 := boolor (decide (0 ≤ hopAt R ⟨1, r.o, 0, 0⟩ n)) <;> obtain h3 | h3 := boolor (!decide (0 ≤ hopAt R ⟨4, r.o, 0, 0⟩ i))
    all_goals
      have HE : Hid (isD R n i r = _) := HQ.out _ _ _ h1 h2 h3
      clear HQ
      have HX1 := HX.out.below (below_new w (.cells #[.int .i64 r.k, .int .i64 r.t, .int .i64 r.y, .int .i64 r.o] 38))
      go_enter Try.func34, Try.ntmps34
      go_wp2_with fail
      refine (contains_any n R a n ⟨1, r.o, 0, 0⟩ _ hn HX1).mono ?_
      rintro e w1 ⟨rfl, hb1⟩
      rw [h2]
      have hB := below_then (below_new w _) hb1
      have HX2 : Hid (HopsAt w1 a i R) := (HX.out.below hB).take hi
      replace y0 := cell_below y0 hb1
      replace y1 := cell_below y1 hb1
      replace y2 := cell_below y2 hb1
      replace y3 := cell_below y3 hb1
      clear hb1 HX1 h2
      go_wp2_with (first | (go_at_call 39; refine (contains_any i R a c ⟨4, r.o, 0, 0⟩ _ (by omega) HX2.out).mono ?_; rintro e w2 ⟨rfl, hb2⟩; replace hB := below_then hB hb2; clear hb2))
      go_ret
      exact ⟨ret_bool (by rw [HE.out]; first | rfl | (rw [h3]; rfl)), hB⟩
  · have HE : Hid (isD R n i r = false) := by show isD R n i r = false; simp only [isD, h1, Bool.false_and]
    clear HQ
    go_enter Try.func34, Try.ntmps34
    go_wp2_with fail
    go_ret
    exact ⟨ret_bool HE.out.symm, below_new _ _⟩
theorem drH_is (R : Nat → Hp) (n k : Nat) : drH R n k = ((R k).k == 2 && isD R n k (R k)) := by
  simp only [drH, isD, Bool.and_assoc]
set_option maxHeartbeats 4000000 in
theorem readsDirty_any (n : Nat) (R : Nat → Hp) (a : Option Addr) (t : Int) (w : World) (hn : n ≤ 400) (hhi : hiF R n = 0) (h : HopsAt w a n R) :
    Calls Try.prog 22 #[.slice a n n, .int .i64 t] w fun e w' => e = .returned (.bool (drT R n t n)) ∧ Below w.heap.size w w' := by
  have HX : Hid (HopsAt w a n R) := h
  have HD : Hid (∀ i c r wv, i ≤ n → HopsAt wv a n R → Calls Try.prog 34 #[.agg #[.int .i64 (Hp.k r), .int .i64 (Hp.t r), .int .i64 (Hp.y r), .int .i64 (Hp.o r)], .slice a n n, .slice a i c] wv fun e w' => e = .returned (.bool (isD R n i r)) ∧ Below wv.heap.size wv w') := fun i c r wv hi h => isDirty_any n R a i c r wv (by omega) hi hhi h
  clear h hhi
  go_enter Try.func22, Try.ntmps22
  go_wp2_with fail
  go_loopw [5, 6, 9] (fun _ _ i wr => ∃ k : Nat, k ≤ n ∧ i = .int .i64 k ∧ Hid (Below w.heap.size w wr) ∧ Hid (drT R n t k = false)) (fun _ _ i _ => n - (intOf i).toNat)
  case atStart => exact ⟨0, Nat.zero_le _, rfl, Below.refl _ _, rfl⟩
  case round =>
    obtain ⟨k, hk, rfl, HB, HN⟩ := hrel
    by_cases hlt : k < n
    · have hlt' : (k : Int) < (n : Int) := by omega
      have hk0 : (0 : Int) ≤ (k : Int) := by omega
      have hkn' : (k : Int) ≤ (n : Int) := by omega
      have HXW : Hid (HopsAt wr a n R) := HX.out.below HB.out
      rcases HXW.out with h | ⟨bb, off, rfl, hl, hcc⟩
      · omega
      obtain ⟨x0, x1, x2, x3⟩ := hcc k hlt
      clear hcc
      have HY : Hid (∀ z1 z2 z3 : Bool, ((R k).k == 2) = z1 → ((R k).t == t) = z2 → isD R n k (R k) = z3 → (z1 && z2 && z3) = true → drT R n t n = true) := fun z1 z2 z3 e1 e2 e3 e => by
        refine drT_iff.2 ⟨k, hlt, ?_, ?_⟩
        · rw [drH_is, e1, e3]; cases z1 <;> cases z2 <;> cases z3 <;> simp_all
        · have : ((R k).t == t) = true := by rw [e2]; cases z1 <;> cases z2 <;> cases z3 <;> simp_all
          simpa using this
      have HM : Hid (∀ z1 z2 z3 : Bool, ((R k).k == 2) = z1 → ((R k).t == t) = z2 → isD R n k (R k) = z3 → (z1 && z2 && z3) = false → drT R n t (k + 1) = false) := fun z1 z2 z3 e1 e2 e3 e => by
        simp only [drT, HN.out, drH_is, e1, e2, e3, Bool.false_or]
        cases z1 <;> cases z2 <;> cases z3 <;> simp_all
      have HDK : Hid (∀ c wv, HopsAt wv (some ⟨bb, off, none⟩) n R → Calls Try.prog 34 #[.agg #[.int .i64 (R k).k, .int .i64 (R k).t, .int .i64 (R k).y, .int .i64 (R k).o], .slice (some ⟨bb, off, none⟩) n n, .slice (some ⟨bb, off, none⟩) k c] wv fun e w' => e = .returned (.bool (isD R n k (R k))) ∧ Below wv.heap.size wv w') := fun c wv h => HD.out k c (R k) wv hk h
      generalize hr : R k = r at *
      generalize isD R n k r = dd at *
      have BX := Box4.new wr (.int .i64 r.k) (.int .i64 r.t) (.int .i64 r.y) (.int .i64 r.o) 38
      obtain ⟨y0, y1, y2, y3⟩ := BX
      obtain h1 | h1 := boolor (r.k == 2)
      · obtain h2 | h2 := boolor (r.t == t)
        · have HW0 : Hid (∀ o, Below wr.heap.size wr (wr.alloc o).drew) := fun o => (below_new wr o).drew
          go_wp2_with fail
          go_region_law (first | (go_simp; go_at_call 34; refine (HDK.out _ _ (HXW.out.below (HW0.out _))).mono ?_; rintro e w4 ⟨rfl, hb4⟩) | fail)
          all_goals
            have HB4 : Hid (Below w.heap.size w w4) := below_then (below_then HB.out (HW0.out _)) hb4
            clear hb4 HW0 y0 y1 y2 y3 x0 x1 x2 x3 HXW HDK
            obtain h3 | h3 := boolor dd
            · have HE : Hid (drT R n t n = true) := HY.out _ _ _ h1 h2 h3 rfl
              rw [h3]
              clear HY HM
              go_wp2_with fail
              go_ret
              exact ⟨ret_bool HE.out.symm, HB4.out⟩
            · have HE : Hid (drT R n t (k + 1) = false) := HM.out _ _ _ h1 h2 h3 rfl
              rw [h3]
              clear HY HM
              go_wp2_with fail
              go_roundw
              case rel => exact ⟨k + 1, hlt, by go_num, HB4, HE⟩
              case measure => simp [intOf]; omega
        · have HE : Hid (drT R n t (k + 1) = false) := HM.out _ _ _ h1 h2 rfl (by simp)
          clear HY HM HDK
          go_wp2_with fail
          go_quiet (fail)
          go_wp2_with fail
          go_roundw
          case rel => exact ⟨k + 1, hlt, by go_num, below_drewN (below_then HB.out (below_new _ _)) _, HE⟩
          case measure => simp [intOf]; omega
      · have HE : Hid (drT R n t (k + 1) = false) := HM.out _ _ _ h1 rfl rfl (by simp)
        clear HY HM HDK
        go_wp2_with fail
        go_quiet (fail)
        go_wp2_with fail
        go_roundw
        case rel => exact ⟨k + 1, hlt, by go_num, below_drewN (below_then HB.out (below_new _ _)) _, HE⟩
        case measure => simp [intOf]; omega
    · have hkn : k = n := by omega
      have hnl : ¬ ((k : Int) < (n : Int)) := by omega
      have HE : Hid (drT R n t n = false) := by have h := HN.out; rw [hkn] at h; exact h
      go_wp2_with fail
      go_ret
      exact ⟨ret_bool HE.out.symm, HB.out⟩
end Go.Proofs.Ytbmjlahiggollaa
