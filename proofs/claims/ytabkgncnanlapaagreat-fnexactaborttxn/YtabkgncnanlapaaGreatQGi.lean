/- The fault of an engine, by the program: the whole. -/
import Derived.Test.YtabkgncnanlapaaGreatQGh
import Derived.Test.YtabkgncnanlapaaGreatQEe
namespace Go.Proofs.YtabkgncnanlapaaGreat
open Go.RowKit Go.Deep
set_option linter.unusedVariables false
set_option maxRecDepth 20000

theorem rF_good {ck : Int} {p : Nat} {T : Nat → Tx} {R : Nat → Rw} {i : Nat} (h : rF ck p T R i = 0) : inB (R i).key 0 31 = true ∧ rB1 R i = false ∧ chF (R i).n (R i).U = 0 ∧ (rB2 ck (R i) || !opB p T (R i)) = false := by
  unfold rF at h
  split at h
  · omega
  · rename_i h1
    split at h
    · omega
    · rename_i h2
      split at h
      · rename_i h3
        split at h
        · omega
        · rename_i h4
          exact ⟨by simpa using h1, by simpa using h2, h3, by simpa using h4⟩
      · rename_i h3; exact absurd h h3
theorem keys_rise {ck : Int} {p q : Nat} {T : Nat → Tx} {R : Nat → Rw} (h : ∀ i, i < q → rF ck p T R i = 0) : ∀ j, j < q → ∀ i, i < j → (R i).key < (R j).key
  | 0, _, i, hi => by omega
  | j + 1, hj, i, hi => by
    have h1 := (rF_good (h (j + 1) hj)).2.1
    have h2 : (R j).key < (R (j + 1)).key := by
      unfold rB1 at h1
      simp at h1
      omega
    by_cases e : i = j
    · subst e; exact h2
    · have := keys_rise h j (by omega) i (by omega)
      omega
theorem eF_3j {E : En} (h : inB E.nx 1 999 = false ∨ inB E.ck 0 1000000 = false) : eF E = 3 := if_pos h
theorem eF_2j {E : En} (h1 : inB E.nx 1 999 = true) (h2 : inB E.ck 0 1000000 = true) (h : 20 < E.p ∨ 32 < E.q) : eF E = 2 := by
  unfold eF; rw [if_neg (by simp [h1, h2]), if_pos h]
theorem eF_tj {E : En} (h1 : inB E.nx 1 999 = true) (h2 : inB E.ck 0 1000000 = true) (h3 : E.p ≤ 20) (h4 : E.q ≤ 32) (h : ffz (tF E.nx E.ck E.T) E.p 0 ≠ 0) : eF E = ffz (tF E.nx E.ck E.T) E.p 0 := by
  unfold eF; rw [if_neg (by simp [h1, h2]), if_neg (by omega), if_neg h]
theorem eF_rj {E : En} (h1 : inB E.nx 1 999 = true) (h2 : inB E.ck 0 1000000 = true) (h3 : E.p ≤ 20) (h4 : E.q ≤ 32) (h5 : ffz (tF E.nx E.ck E.T) E.p 0 = 0) (h : ffz (rF E.ck E.p E.T E.R) E.q 0 ≠ 0) : eF E = ffz (rF E.ck E.p E.T E.R) E.q 0 := by
  unfold eF; rw [if_neg (by simp [h1, h2]), if_neg (by omega), if_pos h5, if_neg h]
theorem eF_oj {E : En} (h1 : inB E.nx 1 999 = true) (h2 : inB E.ck 0 1000000 = true) (h3 : E.p ≤ 20) (h4 : E.q ≤ 32) (h5 : ffz (tF E.nx E.ck E.T) E.p 0 = 0) (h6 : ffz (rF E.ck E.p E.T E.R) E.q 0 = 0) : eF E = if allb (fun i => owB E.q E.R (E.T i)) E.p = true then 0 else 1 := by
  unfold eF; rw [if_neg (by simp [h1, h2]), if_neg (by omega), if_pos h5, if_pos h6]
set_option maxHeartbeats 16000000 in
theorem implEf_any (E : En) (a : Option Addr) (cap : Nat) (a' : Option Addr) (cap' : Nat) (w : World) (hs : SmallE E) (h : EngAt w a a' E) :
    Calls Tryz.prog 54 #[.agg #[.int .i64 E.nx, .int .i64 E.ck, .slice a E.p cap, .slice a' E.q cap']] w fun e w' => e = .returned (.int .i64 (eF E)) ∧ Below w.heap.size w w' := by
  have HX : Hid (EngAt w a a' E) := h
  have HS : Hid (SmallE E) := hs
  have hp0 := hs.p
  have hq0 := hs.q
  clear h hs
  obtain h1 | h1 := bool_or2 (inB E.nx 1 999)
  case inr =>
    have HE : Hid (eF E = 3) := eF_3j (.inl h1)
    clear HX HS
    go_enter Tryz.func54, Tryz.ntmps54
    go_wp2_with (first | (go_at_call 85; refine (isTxn_any _ _).mono ?_; rintro e w' ⟨rfl, rfl⟩) | (go_at_call 86; refine (isAt_any _ _).mono ?_; rintro e w' ⟨rfl, rfl⟩))
    go_ret
    exact ⟨ret_int HE.out.symm, below_new _ _⟩
  obtain h2 | h2 := bool_or2 (inB E.ck 0 1000000)
  case inr =>
    have HE : Hid (eF E = 3) := eF_3j (.inr h2)
    clear HX HS
    go_enter Tryz.func54, Tryz.ntmps54
    go_wp2_with (first | (go_at_call 85; refine (isTxn_any _ _).mono ?_; rintro e w' ⟨rfl, rfl⟩) | (go_at_call 86; refine (isAt_any _ _).mono ?_; rintro e w' ⟨rfl, rfl⟩))
    go_ret
    exact ⟨ret_int HE.out.symm, below_new _ _⟩
  by_cases h3 : 20 < E.p
  · have HE : Hid (eF E = 2) := eF_2j h1 h2 (.inl h3)
    have h3' : (20 : Int) < (E.p : Int) := by omega
    clear HX HS
    go_enter Tryz.func54, Tryz.ntmps54
    go_wp2_with (first | (go_at_call 85; refine (isTxn_any _ _).mono ?_; rintro e w' ⟨rfl, rfl⟩) | (go_at_call 86; refine (isAt_any _ _).mono ?_; rintro e w' ⟨rfl, rfl⟩))
    go_ret
    exact ⟨ret_int HE.out.symm, below_new _ _⟩
  have h3' : ¬ ((20 : Int) < (E.p : Int)) := by omega
  by_cases h4 : 32 < E.q
  · have HE : Hid (eF E = 2) := eF_2j h1 h2 (.inr h4)
    have h4' : (32 : Int) < (E.q : Int) := by omega
    clear HX HS
    go_enter Tryz.func54, Tryz.ntmps54
    go_wp2_with (first | (go_at_call 85; refine (isTxn_any _ _).mono ?_; rintro e w' ⟨rfl, rfl⟩) | (go_at_call 86; refine (isAt_any _ _).mono ?_; rintro e w' ⟨rfl, rfl⟩))
    go_ret
    exact ⟨ret_int HE.out.symm, below_new _ _⟩
  have h4' : ¬ ((32 : Int) < (E.q : Int)) := by omega
  have h5 : E.p ≤ 20 := by omega
  have h6 : E.q ≤ 32 := by omega
  have HN : Hid (1 ≤ E.nx ∧ E.nx ≤ 999) := inB_iff.1 h1
  have HTH : Hid (ffz (tF E.nx E.ck E.T) E.p 0 ≠ 0 → eF E = ffz (tF E.nx E.ck E.T) E.p 0) := fun h => eF_tj h1 h2 h5 h6 h
  have HRH : Hid (ffz (tF E.nx E.ck E.T) E.p 0 = 0 → ffz (rF E.ck E.p E.T E.R) E.q 0 ≠ 0 → eF E = ffz (rF E.ck E.p E.T E.R) E.q 0) := fun a h => eF_rj h1 h2 h5 h6 a h
  have HOH : Hid (ffz (tF E.nx E.ck E.T) E.p 0 = 0 → ffz (rF E.ck E.p E.T E.R) E.q 0 = 0 → eF E = if allb (fun i => owB E.q E.R (E.T i)) E.p = true then 0 else 1) := fun a b => eF_oj h1 h2 h5 h6 a b
  have HBX : Hid (∀ o1 : Obj, o1 = .cells #[.int .i64 E.nx, .int .i64 E.ck, .slice a E.p cap, .slice a' E.q cap'] 30 → Box4 (w.alloc o1) w.heap.size (.int .i64 E.nx) (.int .i64 E.ck) (.slice a E.p cap) (.slice a' E.q cap') ∧ Below w.heap.size w (w.alloc o1)) := by
    rintro o1 rfl
    exact ⟨Box4.new w _ _ _ _ _, below_new _ _⟩
  go_enter Tryz.func54, Tryz.ntmps54
  go_upto_region 5 with (first | (go_at_call 85; refine (isTxn_any _ _).mono ?_; rintro e w' ⟨rfl, hw'⟩; rw [hw']; clear hw') | (go_at_call 86; refine (isAt_any _ _).mono ?_; rintro e w' ⟨rfl, hw'⟩; rw [hw']; clear hw'))
  obtain ⟨hb4, hbw⟩ := HBX.out _ rfl
  generalize w.alloc (.cells #[.int .i64 E.nx, .int .i64 E.ck, .slice a E.p cap, .slice a' E.q cap'] 30) = W at *
  have HB4 : Hid (Box4 W w.heap.size (.int .i64 E.nx) (.int .i64 E.ck) (.slice a E.p cap) (.slice a' E.q cap')) := hb4
  have HBW : Hid (Below w.heap.size w W) := hbw
  clear hb4 hbw HBX h1 h2 h3 h4 h3' h4'
  generalize hEB : w.heap.size = EB at *
  have HEX : Hid (∀ wr, Below W.heap.size W wr → EngAt wr a a' E ∧ Below EB w wr) := by
    intro wr hb
    have hsz : EB ≤ W.heap.size := by have := HBW.out.size; omega
    have h := HBW.out.trans (hb.mono hsz)
    refine ⟨?_, h⟩
    rw [← hEB] at h
    exact HX.out.below h
  clear HX HBW
  obtain ⟨b0, b1, b2, b3⟩ := HB4.out
  go_wp2_with fail
  clear b0 b1 b2 b3
  generalize hC1 : ffz (tF E.nx E.ck E.T) E.p 0 = C1 at *
  go_loopw [3, 4, 32] (fun _ _ i wr => ∃ k : Nat, k ≤ E.p ∧ i = .int .i64 k ∧ Hid (C1 = ffz (tF E.nx E.ck E.T) (E.p - k) k) ∧ Hid (Below W.heap.size W wr)) (fun _ _ i _ => E.p - (intOf i).toNat)
  case atStart => exact ⟨0, Nat.zero_le _, rfl, hC1.symm, Below.refl _ _⟩
  case round =>
    obtain ⟨k, hk, rfl, HC, HB⟩ := hrel
    obtain ⟨b0, b1, b2, b3⟩ := HB4.out.below HB.out
    have HEW : Hid (EngAt wr a a' E ∧ Below EB w wr) := HEX.out wr HB.out
    by_cases hlt : k < E.p
    · have hlt' : (k : Int) < (E.p : Int) := by omega
      have hk0 : (0 : Int) ≤ (k : Int) := by omega
      have HE0 : Hid (C1 = _) := HC.out.trans (ffz_at _ hlt)
      clear HC hC1
      go_wp2_with fail
      refine (txnFault_any E a cap a' cap' k wr h5 hlt HS.out.t HN.out HEW.out.1).mono ?_
      rintro e w1 ⟨rfl, hb1⟩
      have HB1 : Hid (Below W.heap.size W w1) := below_then HB.out hb1
      have HBE : Hid (Below EB w w1) := (HEX.out w1 HB1.out).2
      clear hb1 b0 b1 b2 b3
      by_cases hu : tF E.nx E.ck E.T k = 0
      · have HE : Hid (C1 = ffz (tF E.nx E.ck E.T) (E.p - (k + 1)) (k + 1)) := by
          have h := HE0.out
          rw [if_pos hu] at h
          exact h
        rw [hu]
        clear HE0 hu
        go_wp2_with fail
        go_roundw
        case rel => exact ⟨k + 1, hlt, by go_num, HE, HB1⟩
        case measure => simp [intOf]; omega
      · have HE : Hid (C1 = tF E.nx E.ck E.T k) := by
          have h := HE0.out
          rw [if_neg hu] at h
          exact h
        have HE2 : Hid (eF E = tF E.nx E.ck E.T k) := by
          have := HTH.out (by rw [HE.out]; exact hu)
          exact this.trans HE.out
        have hu2 : (tF E.nx E.ck E.T k != 0) = true := by simp [hu]
        clear HE0 hu HTH HRH HOH HE
        generalize tF E.nx E.ck E.T k = uu at *
        go_wp2_with fail
        go_ret
        first | exact ⟨ret_int HE2.out.symm, HBE.out⟩ | exact ⟨ret_int HE2.out.symm, by rw [hEB]; exact HBE.out⟩
    · have HE : C1 = 0 := by
        have h := HC.out
        rw [show E.p - k = 0 by omega] at h
        exact h
      have hnl : ¬ ((k : Int) < (E.p : Int)) := by omega
      have HT0 : Hid (∀ i, i < E.p → tF E.nx E.ck E.T i = 0) := fun i hi => ffz_zero (hC1.trans HE) i hi
      have HR2 : Hid (ffz (rF E.ck E.p E.T E.R) E.q 0 ≠ 0 → eF E = ffz (rF E.ck E.p E.T E.R) E.q 0) := fun h => HRH.out HE h
      have HO2 : Hid (ffz (rF E.ck E.p E.T E.R) E.q 0 = 0 → eF E = if allb (fun i => owB E.q E.R (E.T i)) E.p = true then 0 else 1) := fun h => HOH.out HE h
      clear HC hC1 HE HTH HRH HOH
      go_wp2_with fail
      clear b0 b1 b2 b3 hnl hk
      generalize hC2 : ffz (rF E.ck E.p E.T E.R) E.q 0 = C2 at *
      go_loopw [5, 6, 45] (fun _ _ i wy => ∃ k : Nat, k ≤ E.q ∧ i = .int .i64 k ∧ Hid (C2 = ffz (rF E.ck E.p E.T E.R) (E.q - k) k) ∧ Hid (Below W.heap.size W wy)) (fun _ _ i _ => E.q - (intOf i).toNat)
      case atStart => exact ⟨0, Nat.zero_le _, rfl, hC2.symm, HB⟩
      case round =>
        obtain ⟨k2, hk2, rfl, HC, HBY⟩ := hrel
        obtain ⟨wy, rfl⟩ : ∃ x, x = wr := ⟨wr, rfl⟩
        obtain ⟨b0, b1, b2, b3⟩ := HB4.out.below HBY.out
        have HEY : Hid (EngAt wy a a' E ∧ Below EB w wy) := HEX.out wy HBY.out
        by_cases hlt : k2 < E.q
        · have hlt' : (k2 : Int) < (E.q : Int) := by omega
          have hk0 : (0 : Int) ≤ (k2 : Int) := by omega
          have HE0 : Hid (C2 = _) := HC.out.trans (ffz_at _ hlt)
          clear HC hC2
          go_wp2_with fail
          refine (rowFault_any E a cap a' cap' k2 wy h5 h6 hlt HS.out.t HS.out.r HT0.out HEY.out.1).mono ?_
          rintro e w1 ⟨rfl, hb1⟩
          have HB1 : Hid (Below W.heap.size W w1) := below_then HBY.out hb1
          have HBE : Hid (Below EB w w1) := (HEX.out w1 HB1.out).2
          clear hb1 b0 b1 b2 b3
          by_cases hu : rF E.ck E.p E.T E.R k2 = 0
          · have HE : Hid (C2 = ffz (rF E.ck E.p E.T E.R) (E.q - (k2 + 1)) (k2 + 1)) := by
              have h := HE0.out
              rw [if_pos hu] at h
              exact h
            rw [hu]
            clear HE0 hu
            go_wp2_with fail
            go_roundw
            case rel => exact ⟨k2 + 1, hlt, by go_num, HE, HB1⟩
            case measure => simp [intOf]; omega
          · have HE : Hid (C2 = rF E.ck E.p E.T E.R k2) := by
              have h := HE0.out
              rw [if_neg hu] at h
              exact h
            have HE2 : Hid (eF E = rF E.ck E.p E.T E.R k2) := by
              have := HR2.out (by rw [HE.out]; exact hu)
              exact this.trans HE.out
            have hu2 : (rF E.ck E.p E.T E.R k2 != 0) = true := by simp [hu]
            clear HE0 hu HR2 HO2 HE
            generalize rF E.ck E.p E.T E.R k2 = uu at *
            go_wp2_with fail
            go_ret
            first | exact ⟨ret_int HE2.out.symm, HBE.out⟩ | exact ⟨ret_int HE2.out.symm, by rw [hEB]; exact HBE.out⟩
        · have HE : C2 = 0 := by
            have h := HC.out
            rw [show E.q - k2 = 0 by omega] at h
            exact h
          have hnl : ¬ ((k2 : Int) < (E.q : Int)) := by omega
          have HSO : Hid (∀ j, j < E.q → ∀ i, i < j → (E.R i).key < (E.R j).key) := keys_rise (fun i hi => ffz_zero (hC2.trans HE) i hi)
          have HO3 : Hid (eF E = if allb (fun i => owB E.q E.R (E.T i)) E.p = true then 0 else 1) := HO2.out HE
          clear HC hC2 HE HR2 HO2
          go_wp2_with fail
          clear b0 b1 b2 b3 hnl hk2
          go_loopw [8, 58] (fun _ i wz => ∃ k : Nat, k ≤ E.p ∧ i = .int .i64 k ∧ Hid (allb (fun i => owB E.q E.R (E.T i)) k = true) ∧ Hid (Below W.heap.size W wz)) (fun _ i _ => E.p - (intOf i).toNat)
          case atStart => exact ⟨0, Nat.zero_le _, rfl, rfl, HBY⟩
          case round =>
            obtain ⟨k3, hk3, rfl, HC, HBZ⟩ := hrel
            obtain ⟨wz, rfl⟩ : ∃ x, x = wr := ⟨wr, rfl⟩
            obtain ⟨b0, b1, b2, b3⟩ := HB4.out.below HBZ.out
            have HEZ : Hid (EngAt wz a a' E ∧ Below EB w wz) := HEX.out wz HBZ.out
            by_cases hlt : k3 < E.p
            · have hlt' : (k3 : Int) < (E.p : Int) := by omega
              have hk0 : (0 : Int) ≤ (k3 : Int) := by omega
              rcases HEZ.out.1.1 with h | ⟨bb, off, rfl, hl, hcc⟩
              · omega
              obtain ⟨ti, tc, ⟨x0, x1, x2, x3, x4⟩, hun, hcap⟩ := hcc k3 hlt
              have HUN : Hid (UndsAt wz ti (E.T k3).n (E.T k3).U) := hun
              have HTG := tF_good (HT0.out k3 hlt)
              have HU60 : Hid ((E.T k3).n ≤ 60) := usF_le HTG.2.2.2.2
              have HIDP : Hid ((E.T k3).id ≠ 0) := by have := id_pos (HT0.out k3 hlt); show (E.T k3).id ≠ 0; omega
              have HCAP : Hid ((E.T k3).n ≤ tc) := hcap
              have d0 := fun o : Obj => cell_alloc b0 o
              have d1 := fun o : Obj => cell_alloc b1 o
              have d2 := fun o : Obj => cell_alloc b2 o
              have d3 := fun o : Obj => cell_alloc b3 o
              have HBA : Hid (∀ o : Obj, Below W.heap.size W (wz.alloc o)) := fun o => below_then HBZ.out (below_new _ _)
              clear hcc hun HTG hcap
              go_wp2_with fail
              refine (undosFit_any E _ cap a' cap' (E.T k3) ti tc _ h6 HU60.out HCAP.out HIDP.out HSO.out (HEX.out _ (HBA.out _)).1 (HUN.out.below (below_new _ _))).mono ?_
              rintro e w1 ⟨rfl, hb1⟩
              have HB1 : Hid (Below W.heap.size W w1) := below_then (HBA.out _) hb1
              have HBE : Hid (Below EB w w1) := (HEX.out w1 HB1.out).2
              clear hb1 b0 b1 b2 b3 d0 d1 d2 d3 x0 x1 x2 x3 x4
              obtain ho | ho := bool_or2 (owB E.q E.R (E.T k3))
              · have HE : Hid (allb (fun i => owB E.q E.R (E.T i)) (k3 + 1) = true) := by
                  show _ = _
                  simp only [allb]
                  rw [HC.out, ho]; rfl
                rw [ho]
                clear HC ho
                go_wp2_with fail
                go_roundw
                case rel => exact ⟨k3 + 1, hlt, by go_num, HE, HB1⟩
                case measure => simp [intOf]; omega
              · have HE : Hid (eF E = 1) := HO3.out.trans (if_neg (by rw [allb_not hlt ho]; decide))
                rw [ho]
                clear HC ho HO3
                go_wp2_with fail
                go_ret
                first | exact ⟨ret_int HE.out.symm, HBE.out⟩ | exact ⟨ret_int HE.out.symm, by rw [hEB]; exact HBE.out⟩
            · have hkn : k3 = E.p := by omega
              have HE : Hid (eF E = 0) := HO3.out.trans (if_pos (by rw [hkn] at HC; exact HC.out))
              have hnl : ¬ ((k3 : Int) < (E.p : Int)) := by omega
              have HBE : Hid (Below EB w wz) := HEZ.out.2
              clear HC HO3
              go_wp2_with fail
              go_ret
              first | exact ⟨ret_int HE.out.symm, HBE.out⟩ | exact ⟨ret_int HE.out.symm, by rw [hEB]; exact HBE.out⟩
end Go.Proofs.YtabkgncnanlapaaGreat
