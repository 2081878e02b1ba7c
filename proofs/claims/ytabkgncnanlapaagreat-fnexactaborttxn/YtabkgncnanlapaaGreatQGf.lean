/- The fault of an engine, by the program: rows. -/
import Derived.Test.YtabkgncnanlapaaGreatQGe
namespace Go.Proofs.YtabkgncnanlapaaGreat
open Go.RowKit Go.Deep
set_option linter.unusedVariables false
set_option maxRecDepth 20000

theorem rF_3i {ck : Int} {p : Nat} {T : Nat → Tx} {R : Nat → Rw} {i : Nat} (h : inB (R i).key 0 31 = false) : rF ck p T R i = 3 := if_pos h
theorem rF_1i {ck : Int} {p : Nat} {T : Nat → Tx} {R : Nat → Rw} {i : Nat} (h : inB (R i).key 0 31 = true) (h1 : rB1 R i = true) : rF ck p T R i = 1 := by
  unfold rF; rw [if_neg (by simp [h]), if_pos h1]
theorem rF_ci {ck : Int} {p : Nat} {T : Nat → Tx} {R : Nat → Rw} {i : Nat} (h : inB (R i).key 0 31 = true) (h1 : rB1 R i = false) (hc : chF (R i).n (R i).U ≠ 0) : rF ck p T R i = chF (R i).n (R i).U := by
  unfold rF; rw [if_neg (by simp [h]), if_neg (by simp [h1]), if_neg hc]
theorem rF_bi {ck : Int} {p : Nat} {T : Nat → Tx} {R : Nat → Rw} {i : Nat} (h : inB (R i).key 0 31 = true) (h1 : rB1 R i = false) (hc : chF (R i).n (R i).U = 0) : rF ck p T R i = if (rB2 ck (R i) || !opB p T (R i)) = true then 1 else 0 := by
  unfold rF; rw [if_neg (by simp [h]), if_neg (by simp [h1]), if_pos hc]
theorem rB1_ni {R : Nat → Rw} {i : Nat} (h : rB1 R i = false) : 0 < (R i).n := by
  unfold rB1 at h
  have : ((R i).n == 0) = false := by
    cases e : ((R i).n == 0) with
    | false => rfl
    | true => rw [e, Bool.or_true] at h; cases h
  have : (R i).n ≠ 0 := by simpa using this
  omega
set_option maxHeartbeats 8000000 in
theorem rowFault_any (E : En) (a : Option Addr) (cap : Nat) (a' : Option Addr) (cap' : Nat) (k : Nat) (w : World) (hp : E.p ≤ 20) (hq : E.q ≤ 32) (hlt : k < E.q) (hsm : ∀ i, i < E.p → (E.T i).n ≤ 1048576) (hsr : ∀ i, i < E.q → (E.R i).n ≤ 1048576) (ht : ∀ i, i < E.p → tF E.nx E.ck E.T i = 0) (h : EngAt w a a' E) :
    Calls Tryz.prog 88 #[.agg #[.int .i64 E.nx, .int .i64 E.ck, .slice a E.p cap, .slice a' E.q cap'], .int .i64 k] w fun e w' => e = .returned (.int .i64 (rF E.ck E.p E.T E.R k)) ∧ Below w.heap.size w w' := by
  have HX : Hid (EngAt w a a' E) := h
  obtain ⟨nx, ck, p, T, q, R⟩ := E
  dsimp only at *
  obtain ⟨-, hRA⟩ := h
  dsimp only at hRA
  have HSM : Hid (∀ i, i < p → (T i).n ≤ 1048576) := hsm
  have HSK : Hid ((R k).n ≤ 1048576) := hsr k hlt
  have HTT : Hid (∀ i, i < p → tF nx ck T i = 0) := ht
  have HP : Hid (p ≤ 20) := hp
  have hlt' : (k : Int) < (q : Int) := by omega
  have hk0 : (0 : Int) ≤ (k : Int) := by omega
  rcases hRA with h | ⟨bb, off, rfl, hl, hcc⟩
  · omega
  obtain ⟨ai, ci, hCT, hun, -⟩ := hcc k hlt
  have HUN : Hid (VersAt w ai (R k).n (R k).U) := hun
  have HCC : Hid (∀ i, i < q → w.cell? ⟨bb, off + i * 2, none⟩ = some (.int .i64 (R i).key)) := fun i hi => by obtain ⟨_, _, ⟨h, _⟩, _⟩ := hcc i hi; exact h
  obtain ⟨x0, x1⟩ := hCT
  have hbne : ¬ bb = w.heap.size := by omega
  have y0 := fun o : Obj => cell_alloc x0 o
  have y1 := fun o : Obj => cell_alloc x1 o
  clear hcc hun hsm hsr ht hp x0 x1
  generalize hC : rF ck p T R k = C
  have HBX : Hid (∀ o1 o2 : Obj, o1 = .cells #[.int .i64 nx, .int .i64 ck, .slice a p cap, .slice (some ⟨bb, off, none⟩) q cap'] 30 → o2 = .cells #[.int .i64 (R k).key, .slice ai (R k).n ci] 87 →
      Box4 ((w.alloc o1).alloc o2) w.heap.size (.int .i64 nx) (.int .i64 ck) (.slice a p cap) (.slice (some ⟨bb, off, none⟩) q cap') ∧ Box2 ((w.alloc o1).alloc o2) (w.heap.size + 1) (.int .i64 (R k).key) (.slice ai (R k).n ci)) := by
    rintro o1 o2 rfl rfl
    exact ⟨(Box4.new w _ _ _ _ _).alloc _, by simp [Box2, go_sem]⟩
  have HW : Hid (∀ o1 o2 : Obj, Below w.heap.size w ((w.alloc o1).alloc o2)) := fun o1 o2 => (((Below.refl _ _).alloc (Nat.le_refl _) _).alloc (by simp) _)
  go_enter Tryz.func88, Tryz.ntmps88
  go_wp2_with fail
  refine (isKey_any (R k).key _).mono ?_
  rintro e w1 ⟨rfl, hw1⟩
  have HB4 : Hid (Box4 w1 w.heap.size (.int .i64 nx) (.int .i64 ck) (.slice a p cap) (.slice (some ⟨bb, off, none⟩) q cap')) := by rw [hw1]; exact (HBX.out _ _ rfl rfl).1
  have HB2 : Hid (Box2 w1 (w.heap.size + 1) (.int .i64 (R k).key) (.slice ai (R k).n ci)) := by rw [hw1]; exact (HBX.out _ _ rfl rfl).2
  have HB1 : Hid (Below w.heap.size w w1) := by rw [hw1]; exact HW.out _ _
  have HXR : Hid (EngAt w1 a (some ⟨bb, off, none⟩) ⟨nx, ck, p, T, q, R⟩) := HX.out.below HB1.out
  have HUN1 : Hid (VersAt w1 ai (R k).n (R k).U) := HUN.out.below HB1.out
  have HCC1 : Hid (∀ i, i < q → w1.cell? ⟨bb, off + i * 2, none⟩ = some (.int .i64 (R i).key)) := fun i hi => cell_below (HCC.out i hi) HB1.out
  clear hw1 HBX HW y0 y1 HX HUN HCC
  obtain hk1 | hk1 := bool_or2 (inB (R k).key 0 31)
  case inr =>
    have HE : Hid (C = 3) := hC.symm.trans (rF_3i hk1)
    rw [hk1]
    clear hC
    go_wp2_with fail
    go_ret
    exact ⟨ret_int HE.out.symm, HB1.out⟩
  rw [hk1]
  have HC : Hid (rF ck p T R k = C) := hC
  have HK1 : Hid (inB (R k).key 0 31 = true) := hk1
  clear hC hk1
  obtain ⟨b0, b1, b2, b3⟩ := HB4.out
  obtain ⟨g0, g1⟩ := HB2.out
  go_upto_region 4 with fail
  go_cut [35] (fun cc wx => cc = .bool (rB1 R k) ∧ ∃ m, wx = w1.drewN m)
  case first =>
    have h1B : Hid (rB1 R k = ((decide (0 < k) && decide ((R k).key ≤ (R (k - 1)).key)) || (R k).n == 0)) := rfl
    have hn0 : Hid (((R k).n == 0) = (((R k).n : Int) == 0)) := by
      show _ = _
      rcases Nat.eq_zero_or_pos (R k).n with e | e
      · simp [e]
      · rw [show ((R k).n == 0) = false by simp; omega, show (((R k).n : Int) == 0) = false by simp; omega]
    clear HC
    rcases Nat.eq_zero_or_pos k with e | e
    · have hd : decide (0 < k) = false := by simp; omega
      have HV : Hid (rB1 R k = ((R k).n == 0)) := by show _ = _; rw [h1B.out, hd]; rfl
      clear h1B e
      go_quiet (fail)
      go_wp2_with fail
      go_meet
      refine ⟨?_, _, rfl⟩
      rw [HV.out]
      first | rfl | rw [hn0.out]
    · obtain ⟨j, rfl⟩ : ∃ j, k = j + 1 := ⟨k - 1, by omega⟩
      have y3 := HCC1.out j (by omega)
      have hj1 : (j : Int) < (q : Int) := by omega
      have hj2 : j < q := by omega
      have hj8 : (j : Int) + 1 < (q : Int) := by omega
      have hj7 : (0 : Int) ≤ (j : Int) + 1 := by omega
      have hwj : IntKind.i64.wrap (j : Int) = (j : Int) := by rw [IntKind.wrap_i64]; omega
      obtain hx1 | hx1 := bool_or2 (decide ((R (j + 1)).key ≤ (R j).key))
      · have HV : Hid (rB1 R (j + 1) = true) := by show _ = _; rw [h1B.out, show decide (0 < j + 1) = true by simp, Nat.add_sub_cancel, hx1]; rfl
        clear h1B e
        go_quiet (fail)
        go_wp2_with fail
        go_meet
        refine ⟨?_, _, rfl⟩
        rw [HV.out]
      · have HV : Hid (rB1 R (j + 1) = ((R (j + 1)).n == 0)) := by show _ = _; rw [h1B.out, show decide (0 < j + 1) = true by simp, Nat.add_sub_cancel, hx1]; rfl
        clear h1B e
        go_quiet (fail)
        go_wp2_with fail
        go_meet
        refine ⟨?_, _, rfl⟩
        rw [HV.out]
        first | rfl | rw [hn0.out]
  case rest =>
    obtain ⟨rfl, m5, rfl⟩ := hcut
    have HBD : Hid (Below w1.heap.size w1 (w1.drewN m5)) := below_drewN (Below.refl _ _) _
    have HB2' : Hid (Below w.heap.size w (w1.drewN m5)) := below_then HB1.out HBD.out
    have HUN2 : Hid (VersAt (w1.drewN m5) ai (R k).n (R k).U) := HUN1.out.below HBD.out
    have HXR2 : Hid (EngAt (w1.drewN m5) a (some ⟨bb, off, none⟩) ⟨nx, ck, p, T, q, R⟩) := HXR.out.below HBD.out
    have HB42 := HB4.out.below HBD.out
    have HB22 := HB2.out.below HBD.out
    clear b0 b1 b2 b3 g0 g1 HBD HB1 HUN1 HXR HB4 HB2 HCC1 hl
    generalize w1.drewN m5 = w5 at *
    obtain ⟨b0, b1, b2, b3⟩ := HB42
    obtain ⟨g0, g1⟩ := HB22
    obtain h1 | h1 := bool_or2 (rB1 R k)
    · have HE : Hid (C = 1) := HC.out.symm.trans (rF_1i HK1.out h1)
      rw [h1]
      clear HC h1
      go_wp2_with fail
      go_ret
      exact ⟨ret_int HE.out.symm, HB2'.out⟩
    rw [h1]
    have hn0 := rB1_ni h1
    go_wp2_with fail
    refine (implChF_any (R k).n (R k).U ai ci w5 (by have := HSK.out; omega) HUN2.out).mono ?_
    rintro e w8 ⟨rfl, hb8⟩
    have HB8 : Hid (Below w.heap.size w w8) := below_then HB2'.out hb8
    have HUN3 : Hid (VersAt w8 ai (R k).n (R k).U) := HUN2.out.below hb8
    have HXR3 : Hid (EngAt w8 a (some ⟨bb, off, none⟩) ⟨nx, ck, p, T, q, R⟩) := HXR2.out.below hb8
    replace b0 := cell_below b0 hb8
    replace b1 := cell_below b1 hb8
    replace b2 := cell_below b2 hb8
    replace b3 := cell_below b3 hb8
    replace g0 := cell_below g0 hb8
    replace g1 := cell_below g1 hb8
    clear hb8 HUN2 HXR2 HB2'
    by_cases hc : chF (R k).n (R k).U = 0
    case neg =>
      have HE : Hid (C = chF (R k).n (R k).U) := HC.out.symm.trans (rF_ci HK1.out h1 hc)
      have hc2 : (chF (R k).n (R k).U != 0) = true := by simp [hc]
      clear HC hc
      generalize chF (R k).n (R k).U = uu at *
      go_wp2_with fail
      go_ret
      exact ⟨ret_int HE.out.symm, HB8.out⟩
    have HE1 : Hid (C = if (rB2 ck (R k) || !opB p T (R k)) = true then 1 else 0) := HC.out.symm.trans (rF_bi HK1.out h1 hc)
    have HE2 : Hid (vfB ck p T (R k) = !(rB2 ck (R k) || !opB p T (R k))) := vfB_eq HTT.out hc hn0
    have hn12 := (chF_good hc).1
    rw [hc]
    clear hc h1 HC
    go_wp2_with fail
    refine (versionsFit_any ⟨nx, ck, p, T, q, R⟩ a cap (some ⟨bb, off, none⟩) cap' (R k) ai ci w8 HP.out HSM.out hn0 hn12 HXR3.out HUN3.out).mono ?_
    rintro e w9 ⟨rfl, hb9⟩
    have HB9 : Hid (Below w.heap.size w w9) := below_then HB8.out hb9
    clear hb9 b0 b1 b2 b3 g0 g1
    rw [show vfB (En.mk nx ck p T q R).ck (En.mk nx ck p T q R).p (En.mk nx ck p T q R).T (R k) = vfB ck p T (R k) from rfl, HE2.out]
    obtain hb | hb := bool_or2 (rB2 ck (R k) || !opB p T (R k))
    · have HE : Hid (C = 1) := HE1.out.trans (if_pos hb)
      rw [hb]
      clear HE1 HE2 hb
      go_wp2_with fail
      go_ret
      exact ⟨ret_int HE.out.symm, HB9.out⟩
    · have HE : Hid (C = 0) := HE1.out.trans (if_neg (by simp [hb]))
      rw [hb]
      clear HE1 HE2 hb
      go_wp2_with fail
      go_ret
      exact ⟨ret_int HE.out.symm, HB9.out⟩
end Go.Proofs.YtabkgncnanlapaaGreat
