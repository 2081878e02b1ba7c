/- FnTails: the walk. -/
import Derived.Test.YtapggckfacmklaaQFtc
namespace Go.Proofs.Ytapggckfacmklaa
open Go.RowKit Go.Deep
set_option linter.unusedVariables false
set_option linter.unusedSimpArgs false
set_option maxRecDepth 20000

theorem lwBig_any (a : Option Addr) (k cap : Nat) (w : World) : Calls Try.prog 5 #[.slice a k cap] w fun e w' => e = .returned (.bool (decide ((1048576 : Int) < (k : Int)))) ∧ w' = w := by
  go_enter Try.func5, Try.ntmps5
  go_wp2
  go_ret
  exact ⟨rfl, rfl⟩
set_option maxHeartbeats 16000000 in
theorem fnTails_small (kk : Nat) (z : Nat → Int) (a : Option Addr) (cap : Nat) (w : World) (hbig : kk ≤ 1048576) (hz : Byt kk z) (HA0 : BytesAt w a kk z) :
    Calls Try.prog 3 #[.slice a kk cap] w fun e w' => e = .returned (.bool true) ∧ Below w.heap.size w w' := by
  have HDC : Hid (Calls Try.prog 6 #[.slice a kk cap] w (DrawClA w)) := drawCl_any a kk cap z w hbig hz HA0
  have hbg : decide ((1048576 : Int) < (kk : Int)) = false := by simp; omega
  clear hz HA0
  go_enter Try.func3, Try.ntmps3
  go_wp2_with (go_at_call 5; refine (lwBig_any _ _ _ _).mono ?_; rintro e w' ⟨rfl, hw⟩; have hw1 := hw.symm; clear hw; subst hw1; rw [hbg])
  refine Calls.mono HDC.out ?_
  rintro e w1 ⟨a1, a2, n1, c1, n2, c2, z1, z2, x, rfl, k1, k2, b1, b2, m1, m2, A1, A2, hb1⟩
  obtain ⟨L, hL⟩ : ∃ L : Lo, L = ⟨n1, z1, n2, z2⟩ := ⟨_, rfl⟩
  have HB1 : Hid (Below w.heap.size w w1) := hb1
  have HL1 : Hid (LogAt w1 a1 a2 L) := by rw [hL]; exact ⟨A1, A2⟩
  have hby : LogByt L := by rw [hL]; exact ⟨b1, b2⟩
  have BL := Box2.new w1 (.slice a1 n1 c1) (.slice a2 n2 c2) 25
  have q1 : L.n1 = n1 := by rw [hL]
  have q2 : L.n2 = n2 := by rw [hL]
  have hp1 : L.n1 ≤ 1048576 := by omega
  have hp2 : L.n2 ≤ 1048576 := by omega
  have hp3 : L.n2 ≤ c2 := by omega
  have hz1 : L.z1 = z1 := by rw [hL]
  clear HDC hbg hbig hb1 A1 A2 b1 b2 hL
  by_cases hC : clC L x = 0
  · obtain ⟨hg, k, rfl, hk⟩ := clC_zero hC
    obtain ⟨f1, f2, f3, f4, f5, f6⟩ := tail_facts hg hk
    obtain ⟨g1, g2⟩ := lgC_zero hg
    have hmt := clM_le L k
    have HCL : Hid (∀ u, LogAt u a1 a2 L → Calls Try.prog 7 #[.agg #[.slice a1 n1 c1, .slice a2 n2 c2], .int .i64 (k : Int)] u (fun e w' => ∃ r1 d1 r2 d2, e = .returned (.agg #[.int .i64 0, .int .i64 (clM L k : Int), .slice r1 (13 * clM L k) d1, .slice r2 0 d2]) ∧ Below u.heap.size u w' ∧ LogAt w' r1 r2 ⟨13 * clM L k, aZ (cutL L k), 0, fun _ => 0⟩)) := fun u h => by rw [← q1, ← q2]; exact crash_ok_i hg hk a1 a2 c1 c2 u hp1 hp2 hp3 hby h
    obtain ⟨A, hA⟩ : ∃ A, A = cnt (aZ L) (L.n1 + L.n2) := ⟨_, rfl⟩
    obtain ⟨s, hs⟩ : ∃ s, s = cnt L.z1 L.n1 := ⟨_, rfl⟩
    have HRA : Hid (∀ u, LogAt u a1 a2 L → Calls Try.prog 9 #[.agg #[.slice a1 n1 c1, .slice a2 n2 c2]] u (fun e w' => ∃ us sa sc, e = .returned (.agg #[.int .i64 0, .int .i64 us, .slice sa A sc]) ∧ Below u.heap.size u w' ∧ RecsAt w' sa (A) (zRs (aZ L)))) := fun u h => by rw [← q1, ← q2]; exact recs_ok_i hg hA.symm (R := zRs (aZ L)) (fun i _ => rfl) a1 a2 c1 c2 u hp1 hp2 hby h
    have HSR : Hid (∀ u, LogAt u a1 a2 L → Calls Try.prog 11 #[.agg #[.slice a1 n1 c1, .slice a2 n2 c2]] u (fun e w' => ∃ us sa sc, e = .returned (.agg #[.int .i64 0, .int .i64 us, .slice sa A sc]) ∧ Below u.heap.size u w' ∧ RecsAt w' sa (A) (zRs (aZ L)))) := fun u h => by rw [← q1, ← q2]; exact recs_ok_s hg hA.symm (R := zRs (aZ L)) (fun i _ => rfl) a1 a2 c1 c2 u hp1 hp2 hby h
    have HRN : Hid (∀ r1 r2 d1 d2 u, LogAt u r1 r2 ⟨13 * clM L k, aZ (cutL L k), 0, fun _ => 0⟩ → Calls Try.prog 9 #[.agg #[.slice r1 (13 * clM L k) d1, .slice r2 0 d2]] u (fun e w' => ∃ us sa sc, e = .returned (.agg #[.int .i64 0, .int .i64 us, .slice sa (clM L k) sc]) ∧ Below u.heap.size u w' ∧ RecsAt w' sa ((clM L k)) (zRs (aZ L)))) := fun r1 r2 d1 d2 u h => recs_ok_i f1 f2 (R := zRs (aZ L)) f5 r1 r2 d1 d2 u (by show 13 * clM L k ≤ _; omega) (Nat.zero_le _) (tail_byt hk hby) h
    have HUR : Hid (∀ u, LogAt u a1 a2 L → Calls Try.prog 10 #[.slice a1 n1 c1] u (fun e w' => ∃ ra rc us, e = .returned (.agg #[.int .i64 0, .int .i64 us, .slice ra s rc]) ∧ Below u.heap.size u w')) := fun u h => by
      have h9 := implUr_B L.n1 L.z1 a1 c1 u (by omega) (by omega) hby.p h.1
      rw [← hs] at h9
      rw [← q1]
      refine h9.mono ?_
      rintro e w' ⟨ra, rcp, rfl, hb, -⟩
      exact ⟨ra, rcp, _, rfl, hb⟩
    rw [← hA] at f4 f6
    rw [← hs] at f3
    rw [q2] at hk f6
    have HK : Hid (k ≤ n2) := hk
    have hmb : clM L k ≤ 4000 := by omega
    have HF6 : Hid (k < n2 ∨ clM L k = A) := f6
    clear hC hby hp1 hp2 hp3 f1 f2 f5 f6 hA hs g1 g2 hmt hg q1 q2 hz1 m1 m2 k1 k2 hk
    generalize 13 * clM L k = tN at *
    generalize clM L k = m at *
    have hs1 : ¬ ((m : Int) < (s : Int)) := by omega
    have hA1 : ¬ ((A : Int) < (m : Int)) := by omega
    have HMA : Hid (m ≤ A) := f4
    clear f3 f4
    go_wp2_with fail
    refine (HCL.out _ (HL1.out.below (below_new _ _))).mono ?_
    rintro e w2 ⟨r1, d1, r2, d2, rfl, hb2, hlr⟩
    have HB2 : Hid (Below w.heap.size w w2) := below_then (below_then HB1.out (below_new _ _)) hb2
    have HL2 : Hid (LogAt w2 a1 a2 L) := (HL1.out.below (below_new _ _)).below hb2
    have HT2 : Hid (LogAt w2 r1 r2 ⟨tN, aZ (cutL L k), 0, fun _ => 0⟩) := hlr
    replace BL := BL.below hb2
    obtain ⟨P, hP⟩ : ∃ P, P = w1.heap.size := ⟨_, rfl⟩
    rw [← hP] at BL ⊢
    have BR := Box4.new w2 (.int .i64 0) (.int .i64 (m : Int)) (.slice r1 tN d1) (.slice r2 0 d2) 29
    clear hb2 hlr HB1 HL1 HCL hP
    obtain ⟨P0, P1⟩ := BL.alloc (.cells #[.int .i64 0, .int .i64 (m : Int), .slice r1 tN d1, .slice r2 0 d2] 29)
    go_wp2_with fail
    refine (HRA.out _ (HL2.out.below (below_new _ _))).mono ?_
    rintro e w3 ⟨uA, ra, ca, rfl, hb3, hra⟩
    have HB3 : Hid (Below w.heap.size w w3) := below_then (below_then HB2.out (below_new _ _)) hb3
    have HL3 : Hid (LogAt w3 a1 a2 L) := (HL2.out.below (below_new _ _)).below hb3
    have HT3 : Hid (LogAt w3 r1 r2 ⟨tN, aZ (cutL L k), 0, fun _ => 0⟩) := (HT2.out.below (below_new _ _)).below hb3
    have HRA3 : Hid (RecsAt w3 ra A (zRs (aZ L))) := hra
    replace BR := BR.below hb3
    clear P0 P1
    replace BL := (BL.alloc _).below hb3
    obtain ⟨Q, hQ⟩ : ∃ Q, Q = w2.heap.size := ⟨_, rfl⟩
    rw [← hQ] at BR ⊢
    clear hb3 hra HB2 HL2 HT2 HRA hQ
    obtain ⟨D0, D1, D2, D3⟩ := BR
    have hf : ∀ y, (Instr.field 33 (.agg #[.int .i64 0, .int .i64 uA, .slice ra A ca]) 2).run Try.prog y = .ok (.slice ra A ca) y := fun y => by kernel_rfl
    go_wp2_with fail
    clear hf
    refine (HRN.out r1 r2 d1 d2 _ HT3.out).mono ?_
    rintro e w4 ⟨uN, rn, cn, rfl, hb4, hrn⟩
    have HB4 : Hid (Below w.heap.size w w4) := below_then HB3.out hb4
    have HL4 : Hid (LogAt w4 a1 a2 L) := HL3.out.below hb4
    have HRA4 : Hid (RecsAt w4 ra A (zRs (aZ L))) := HRA3.out.below hb4
    have HRN4 : Hid (RecsAt w4 rn m (zRs (aZ L))) := hrn
    have BR : Box4 w4 Q (.int .i64 0) (.int .i64 (m : Int)) (.slice r1 tN d1) (.slice r2 0 d2) := Box4.below ⟨D0, D1, D2, D3⟩ hb4
    replace BL := BL.below hb4
    clear D0 D1 D2 D3 hb4 hrn HB3 HL3 HT3 HRA3 HRN
    have BN := Box3.new w4 (.int .i64 0) (.int .i64 uN) (.slice rn m cn) 33
    obtain ⟨P0, P1⟩ := BL.alloc (.cells #[.int .i64 0, .int .i64 uN, .slice rn m cn] 33)
    go_wp2_with fail
    refine (HUR.out _ (HL4.out.below (below_new _ _))).mono ?_
    rintro e w5 ⟨rs, cs, us, rfl, hb5⟩
    have HB5 : Hid (Below w.heap.size w w5) := below_then (below_then HB4.out (below_new _ _)) hb5
    have HL5 : Hid (LogAt w5 a1 a2 L) := (HL4.out.below (below_new _ _)).below hb5
    have HRA5 : Hid (RecsAt w5 ra A (zRs (aZ L))) := (HRA4.out.below (below_new _ _)).below hb5
    have HRN5 : Hid (RecsAt w5 rn m (zRs (aZ L))) := (HRN4.out.below (below_new _ _)).below hb5
    replace BN := BN.below hb5
    clear P0 P1
    replace BL := (BL.alloc _).below hb5
    replace BR := (BR.alloc _).below hb5
    obtain ⟨V, hV⟩ : ∃ V, V = w4.heap.size := ⟨_, rfl⟩
    rw [← hV] at BN ⊢
    clear hb5 HB4 HL4 HRA4 HRN4 HUR hV
    generalize zRs (aZ L) = R at *
    have HBL : Hid (Box2 w5 P (.slice a1 n1 c1) (.slice a2 n2 c2)) := BL
    have HBN : Hid (Box3 w5 V (.int .i64 0) (.int .i64 uN) (.slice rn m cn)) := BN
    obtain ⟨D0, D1, D2, D3⟩ := BR
    obtain ⟨N0, N1, N2⟩ := BN
    clear BL
    have hf : ∀ y, (Instr.field 33 (.agg #[.int .i64 0, .int .i64 us, .slice rs s cs]) 2).run Try.prog y = .ok (.slice rs s cs) y := fun y => by kernel_rfl
    go_wp2_with fail
    clear hf
    clear D0 D1 D2 D3 N0 N1 N2 hs1 hA1
    go_loopw [9] (fun i wr => ∃ j : Nat, j ≤ m ∧ i = .int .i64 j ∧ Hid (Below w5.heap.size w5 wr)) (fun i _ => m - (intOf i).toNat)
    case atStart => exact ⟨0, Nat.zero_le _, rfl, Below.refl _ _⟩
    case round =>
      obtain ⟨j, hj, rfl, HB⟩ := hrel
      obtain ⟨N0, N1, N2⟩ := HBN.out.below HB.out
      by_cases hlt : j < m
      · have hlt' : (j : Int) < (m : Int) := by omega
        have hlA : (j : Int) < (A : Int) := by have := HMA.out; omega
        have hj0 : (0 : Int) ≤ (j : Int) := by omega
        obtain ⟨xb, xo, hx, -, hxc⟩ := (HRN5.out.below HB.out).resolve_left (by omega)
        obtain ⟨yb, yo, hy, -, hyc⟩ := (HRA5.out.below HB.out).resolve_left (by have := HMA.out; omega)
        obtain ⟨x0, x1, x2, x3, x4, x5, x6, x7⟩ := hxc j hlt
        obtain ⟨y0, y1, y2, y3, y4, y5, y6, y7⟩ := hyc j (by have := HMA.out; omega)
        rw [hx] at N2
        rw [hy]
        clear hxc hyc hx hy
        generalize R j = rr at *
        obtain ⟨v0, v1, v2, v3, v4, v5, v6, v7⟩ := rr
        dsimp only at x0 x1 x2 x3 x4 x5 x6 x7 y0 y1 y2 y3 y4 y5 y6 y7
        go_wp2_with fail
        go_quiet (fail)
        go_wp2_with fail
        go_roundw
        case rel => exact ⟨j + 1, hlt, by go_num, below_drewN HB.out _⟩
        case measure => simp [intOf]; omega
      · have hje : j = m := by omega
        subst hje
        have hnl : ¬ ((j : Int) < (j : Int)) := by omega
        obtain ⟨P0, P1⟩ := HBL.out.below HB.out
        clear hlt hj
        have HLr : Hid (LogAt wr a1 a2 L) := HL5.out.below HB.out
        by_cases hkn : k < n2
        · have hki : (k : Int) < (n2 : Int) := by omega
          go_wp2_with fail
          refine (HSR.out _ HLr.out).mono ?_
          rintro e w6 ⟨uS, rS, cS, rfl, hb6, -⟩
          have HF : Hid (Below w.heap.size w w6) := below_then (below_then HB5.out HB.out) hb6
          have hAA : ((A : Int) == (A : Int)) = true := by simp
          clear hb6
          have hf : ∀ y, (Instr.field 33 (.agg #[.int .i64 0, .int .i64 uS, .slice rS A cS]) 2).run Try.prog y = .ok (.slice rS A cS) y := fun y => by kernel_rfl
          go_wp2_with fail
          go_ret
          exact ⟨rfl, HF.out⟩
        · have hki : ¬ ((k : Int) < (n2 : Int)) := by omega
          have hjA : j = A := HF6.out.resolve_left hkn
          subst hjA
          have hAA : ((j : Int) == (j : Int)) = true := by simp
          go_wp2_with fail
          refine (HSR.out _ HLr.out).mono ?_
          rintro e w6 ⟨uS, rS, cS, rfl, hb6, -⟩
          have HF : Hid (Below w.heap.size w w6) := below_then (below_then HB5.out HB.out) hb6
          clear hb6
          have hf : ∀ y, (Instr.field 33 (.agg #[.int .i64 0, .int .i64 uS, .slice rS j cS]) 2).run Try.prog y = .ok (.slice rS j cS) y := fun y => by kernel_rfl
          go_wp2_with fail
          go_ret
          exact ⟨rfl, HF.out⟩
  · have HCL : Hid (∀ u, LogAt u a1 a2 L → Calls Try.prog 7 #[.agg #[.slice a1 n1 c1, .slice a2 n2 c2], .int .i64 x] u (fun e w' => ∃ r1 d1 r2 d2, e = .returned (.agg #[.int .i64 (clC L x), .int .i64 0, .slice r1 0 d1, .slice r2 0 d2]) ∧ Below u.heap.size u w')) := fun u h => by rw [← q1, ← q2]; exact crash_bad_i hC a1 a2 c1 c2 u hp1 hp2 hp3 hby h
    have HSC : Hid (∀ u, LogAt u a1 a2 L → Calls Try.prog 8 #[.agg #[.slice a1 n1 c1, .slice a2 n2 c2], .int .i64 x] u (fun e w' => ∃ r1 d1 r2 d2, e = .returned (.agg #[.int .i64 (clC L x), .int .i64 0, .slice r1 0 d1, .slice r2 0 d2]) ∧ Below u.heap.size u w')) := fun u h => by rw [← q1, ← q2]; exact crash_bad_s hC a1 a2 c1 c2 u hp1 hp2 hp3 hby h
    have hC1 : (clC L x != 0) = true := by simp [hC]
    clear hC hby hp1 hp2 hp3 q1 q2 hz1 m1 m2 k1 k2
    generalize clC L x = C at *
    go_wp2_with fail
    refine (HCL.out _ (HL1.out.below (below_new _ _))).mono ?_
    rintro e w2 ⟨r1, d1, r2, d2, rfl, hb2⟩
    have HB2 : Hid (Below w.heap.size w w2) := below_then (below_then HB1.out (below_new _ _)) hb2
    have HL2 : Hid (LogAt w2 a1 a2 L) := (HL1.out.below (below_new _ _)).below hb2
    replace BL := BL.below hb2
    clear hb2 HB1 HL1 HCL
    go_upto_region 6 with fail
    obtain ⟨W3, hW3⟩ : ∃ y, y = w2.alloc (.cells #[.int .i64 C, .int .i64 0, .slice r1 0 d1, .slice r2 0 d2] 29) := ⟨_, rfl⟩
    have hb3 : Below w2.heap.size w2 W3 := by rw [hW3]; exact below_new _ _
    have D0 : W3.cell? ⟨w2.heap.size, 0, none⟩ = some (.int .i64 C) := by rw [hW3]; simp [go_sem]
    obtain ⟨P0, P1⟩ := BL.below hb3
    have HB3 : Hid (Below w.heap.size w W3) := below_then HB2.out hb3
    have HL3 : Hid (LogAt W3 a1 a2 L) := HL2.out.below hb3
    rw [← hW3]
    generalize w2.heap.size = Q at *
    generalize w1.heap.size = P at *
    clear hW3 hb3 BL HB2 HL2 hC1
    refine wp_region_E 999 (S := fun u => Below W3.heap.size W3 u) (by kernel_rfl) ((Below.refl _ _).drew) (fun hS => ?_)
    obtain ⟨u0, hu0⟩ : ∃ y, y = W3.drew := ⟨_, rfl⟩
    rw [← hu0] at hS ⊢
    clear hu0
    refine wpAnyE_takeD (L := 999) (i := 0) (v := .agg #[.slice a1 n1 c1, .slice a2 n2 c2]) (some 23) rfl rfl (by kernel_rfl) (by kernel_rfl) (by kernel_rfl) (by kernel_rfl) (fun _ _ _ h => h) (Or.inl ⟨by kernel_rfl, by intro u hSu; have h0 := cell_below P0 hSu; have h1 := cell_below P1 hSu; go_simp⟩) hS ?_
    try simp only [Act.put, List.setIfInBounds_toArray, List.set_cons_zero, List.set_cons_succ]
    refine wpAnyE_takeD (L := 999) (i := 1) (v := .int .i64 x) (some 24) rfl rfl (by kernel_rfl) (by kernel_rfl) (by kernel_rfl) (by kernel_rfl) (fun _ _ _ h => h) (Or.inl ⟨by kernel_rfl, by intro u hSu; go_simp⟩) hS ?_
    try simp only [Act.put, List.setIfInBounds_toArray, List.set_cons_zero, List.set_cons_succ]
    refine wpAnyE_takeD (L := 999) (i := 4) (v := .pointer (some ⟨Q, 0, none⟩)) (some 27) rfl rfl (by kernel_rfl) (by kernel_rfl) (by kernel_rfl) (by kernel_rfl) (fun _ _ _ h => h) (Or.inl ⟨by kernel_rfl, by intro u hSu; go_simp⟩) hS ?_
    try simp only [Act.put, List.setIfInBounds_toArray, List.set_cons_zero, List.set_cons_succ]
    refine wpAnyE_takeD (L := 999) (i := 5) (v := .int .i64 C) (some 28) rfl rfl (by kernel_rfl) (by kernel_rfl) (by kernel_rfl) (by kernel_rfl) (fun _ _ _ h => h) (Or.inl ⟨by kernel_rfl, by intro u hSu; have h0 := cell_below D0 hSu; go_simp⟩) hS ?_
    try simp only [Act.put, List.setIfInBounds_toArray, List.set_cons_zero, List.set_cons_succ]
    refine wpAnyE_ready (rs := [2]) (by kernel_rfl) (by simp) ?_
    refine AllReadyE.cons rfl (fun K9 hK => ?_) AllReadyE.nil
    go_simp
    refine (HSC.out _ (HL3.out.below hS)).mono ?_
    rintro e u1 ⟨s1, e1, s2, e2, rfl, hbu⟩
    refine hK.out _ _ (below_then hS hbu) (fun hS9 => ?_)
    try simp only [Act.put, List.setIfInBounds_toArray, List.set_cons_zero, List.set_cons_succ]
    clear hK K9 hS hbu
    have hS := hS9
    clear hS9
    refine wpAnyE_takeD (L := 999) (i := 3) (v := .int .i64 C) (some 26) rfl rfl (by kernel_rfl) (by kernel_rfl) (by kernel_rfl) (by kernel_rfl) (fun _ _ _ h => h) (Or.inl ⟨by kernel_rfl, by intro u hSu; have hf : (Instr.field 29 (.agg #[.int .i64 C, .int .i64 0, .slice s1 0 e1, .slice s2 0 e2]) 0).run Try.prog u = .ok (.int .i64 C) u := (by kernel_rfl); go_simp⟩) hS ?_
    try simp only [Act.put, List.setIfInBounds_toArray, List.set_cons_zero, List.set_cons_succ]
    refine wpAnyE_takeD (L := 999) (i := 6) (v := .bool (C == C)) (some 29) rfl rfl (by kernel_rfl) (by kernel_rfl) (by kernel_rfl) (by kernel_rfl) (fun _ _ _ h => h) (Or.inl ⟨by kernel_rfl, by intro u hSu; go_simp⟩) hS ?_
    try simp only [Act.put, List.setIfInBounds_toArray, List.set_cons_zero, List.set_cons_succ]
    refine wpAnyE_takeD (L := 999) (i := 7) (v := .bool (C == C)) (some 2) rfl rfl (by kernel_rfl) (by kernel_rfl) (by kernel_rfl) (by kernel_rfl) (fun _ _ _ h => h) (Or.inl ⟨by kernel_rfl, by intro u hSu; go_simp⟩) hS ?_
    try simp only [Act.put, List.setIfInBounds_toArray, List.set_cons_zero, List.set_cons_succ]
    refine wpAnyE_done (by kernel_rfl) ?_ _
    go_simp
    go_wp2_with fail
    go_ret
    exact ⟨ret_bool (by simp), below_then HB3.out hS⟩
end Go.Proofs.Ytapggckfacmklaa
