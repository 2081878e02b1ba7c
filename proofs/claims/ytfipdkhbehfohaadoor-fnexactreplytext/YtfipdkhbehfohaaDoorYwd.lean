/- The law FnExactReplyText, walked. -/
import Derived.Test.YtfipdkhbehfohaaDoorYwc
import Derived.Test.YtfipdkhbehfohaaDoorYic
namespace Go.Proofs.YtfipdkhbehfohaaDoor
open Go.RowKit Go.Deep
set_option linter.unusedVariables false
set_option maxRecDepth 20000

theorem szRp_le {t : Rp} {r : Int} (h0 : 0 ≤ r) (h : r = 1048576 - szRp t) : t.cn ≤ 1048576 := by unfold szRp at h; omega
set_option maxHeartbeats 8000000 in
theorem ryLaw (t : Rp) (a0 : Option Addr) (c0 : Nat) (w : World) (hB : BigRp t) (hw : RpW t) (h : InRp w a0 t) (hP : PowAt w) :
    Calls Tryd.prog 3 #[.agg #[.int .i64 t.cd, .int .i64 t.vl, .slice a0 t.cn c0]] w fun e w' => e = .returned (.bool true) ∧ Below w.heap.size w w' := by
  have HP : Hid (PowAt w) := hP
  have HA0 : Hid (InRp w a0 t) := h
  have HS : Hid (t.cn ≤ 1048576 → ∀ (a : Option Addr) (c : Nat) (w : World), InRp w a t → Calls Tryd.prog 5 #[.agg #[.int .i64 t.cd, .int .i64 t.vl, .slice a t.cn c]] w fun e w' => e = .returned (.agg #[.int .i64 (ryC t), .string (ryT t)]) ∧ Below w.heap.size w w') := fun hn a c w h => specReply_any t a c w hn hw h
  have HI : Hid (t.cn ≤ 1048576 → ∀ (a : Option Addr) (c : Nat) (w : World), InRp w a t → PowAt w → Calls Tryd.prog 7 #[.agg #[.int .i64 t.cd, .int .i64 t.vl, .slice a t.cn c]] w fun e w' => e = .returned (.agg #[.int .i64 (ryC t), .string (ryT t)]) ∧ Below w.heap.size w w') := fun hn a c w h hp => implReply_any t a c w hn hw h hp
  generalize ryC t = c at *
  generalize ryT t = s at *
  have hmo : Tryd.prog.follows .mixedOrders = true := by kernel_rfl
  clear hP h hw
  go_enter Tryd.func3, Tryd.ntmps3
  go_upto_region 1 with fail
  have SA := Box3.new w (.int .i64 t.cd) (.int .i64 t.vl) (.slice a0 t.cn c0) 24
  have HB0 : Hid (Below w.heap.size w (w.alloc (.cells #[.int .i64 t.cd, .int .i64 t.vl, .slice a0 t.cn c0] 24))) := below_new _ _
  generalize (w.alloc (.cells #[.int .i64 t.cd, .int .i64 t.vl, .slice a0 t.cn c0] 24)) = w0 at *
  obtain ⟨a1, a2, a3⟩ := SA
  go_wp2_with fail
  refine (szReply_any t a0 c0 1048576 w0 hB (by omega) (by omega) (HA0.out.below HB0.out)).mono ?_
  rintro e w1 ⟨hb, r, rfl, hr⟩
  have HB1 : Hid (Below w.heap.size w w1) := below_then HB0.out hb
  replace a1 := cell_below a1 hb
  replace a2 := cell_below a2 hb
  replace a3 := cell_below a3 hb
  clear hb HB0
  rcases hr with rfl | ⟨hr0, hr1⟩
  · go_wp2_with fail
    go_ret
    exact ⟨rfl, HB1.out⟩
  have hn : t.cn ≤ 1048576 := szRp_le hr0 hr1
  have HSm : Hid (SmRp t) := ⟨hn, trivial⟩
  have hng : ¬ r < 0 := by omega
  have HSS := HS.out hn
  have HII := HI.out hn
  have HS2 : Hid (∀ (a : Option Addr) (c : Nat) (w : World), _) := HSS
  have HI2 : Hid (∀ (a : Option Addr) (c : Nat) (w : World), _) := HII
  clear hr1 HSS HII HS HI hB
  go_wp2_with fail
  refine (toReply_any t a0 c0 _ HSm.out (HA0.out.below HB1.out)).mono ?_
  rintro e w2 ⟨bt, rfl, hb, OT⟩
  have HB2 : Hid (Below w.heap.size w w2) := below_then HB1.out hb
  replace a1 := cell_below a1 hb
  replace a2 := cell_below a2 hb
  replace a3 := cell_below a3 hb
  clear hb HB1
  go_wp2_with fail
  refine (HS2.out _ _ _ OT.at).mono ?_
  rintro e w3 ⟨rfl, hb⟩
  have HB3 : Hid (Below w.heap.size w w3) := below_then HB2.out hb
  replace a1 := cell_below a1 hb
  replace a2 := cell_below a2 hb
  replace a3 := cell_below a3 hb
  clear hb HB2 OT
  go_upto_region 6 with fail
  have S4 := Box2.new w3 (.int .i64 c) (.string s) 27
  have HB4 : Hid (Below w.heap.size w (w3.alloc (.cells #[.int .i64 c, .string s] 27))) := HB3.out.alloc HB3.out.size _
  replace a1 := cell_alloc a1 (.cells #[.int .i64 c, .string s] 27)
  replace a2 := cell_alloc a2 (.cells #[.int .i64 c, .string s] 27)
  replace a3 := cell_alloc a3 (.cells #[.int .i64 c, .string s] 27)
  obtain ⟨B4, hB4⟩ : ∃ B, B = w3.heap.size := ⟨_, rfl⟩
  rw [← hB4] at S4 ⊢
  generalize (w3.alloc (.cells #[.int .i64 c, .string s] 27)) = w4 at *
  clear hB4 HB3
  go_wp2_with fail
  refine (toReply_any t a0 c0 _ HSm.out (HA0.out.below HB4.out)).mono ?_
  rintro e w5 ⟨bx, rfl, hb, OX⟩
  have HB5 : Hid (Below w.heap.size w w5) := below_then HB4.out hb
  replace a1 := cell_below a1 hb
  replace a2 := cell_below a2 hb
  replace a3 := cell_below a3 hb
  replace S4 := S4.below hb
  clear hb HB4
  go_upto_region 7 with fail
  have S6 := Box3.new w5 (.int .i64 t.cd) (.int .i64 t.vl) (.slice (some ⟨bx, 0, none⟩) t.cn t.cn) 31
  have hnew := below_new w5 (.cells #[.int .i64 t.cd, .int .i64 t.vl, .slice (some ⟨bx, 0, none⟩) t.cn t.cn] 31)
  have HB6 : Hid (Below w.heap.size w (w5.alloc (.cells #[.int .i64 t.cd, .int .i64 t.vl, .slice (some ⟨bx, 0, none⟩) t.cn t.cn] 31))) := below_then HB5.out hnew
  replace a1 := cell_below a1 hnew
  replace a2 := cell_below a2 hnew
  replace a3 := cell_below a3 hnew
  replace S4 := S4.below hnew
  replace OX := OX.at.below hnew
  obtain ⟨B6, hB6⟩ : ∃ B, B = w5.heap.size := ⟨_, rfl⟩
  rw [← hB6] at S6 ⊢
  clear hnew
  generalize (w5.alloc (.cells #[.int .i64 t.cd, .int .i64 t.vl, .slice (some ⟨bx, 0, none⟩) t.cn t.cn] 31)) = w6 at *
  clear hB6 HB5
  obtain ⟨s0, s1, s2⟩ := S6
  go_wp2_with fail
  refine (HI2.out _ _ _ OX (HP.out.below HB6.out)).mono ?_
  rintro e w7 ⟨rfl, hb⟩
  have HB7 : Hid (Below w.heap.size w w7) := below_then HB6.out hb
  replace a1 := cell_below a1 hb
  replace a2 := cell_below a2 hb
  replace a3 := cell_below a3 hb
  replace s0 := cell_below s0 hb
  replace s1 := cell_below s1 hb
  replace s2 := cell_below s2 hb
  replace S4 := S4.below hb
  replace OX := OX.below hb
  clear hb HB6
  go_upto_region 8 with fail
  have S8 := Box2.new w7 (.int .i64 c) (.string s) 27
  have hnew := below_new w7 (.cells #[.int .i64 c, .string s] 27)
  have HB8 : Hid (Below w.heap.size w (w7.alloc (.cells #[.int .i64 c, .string s] 27))) := below_then HB7.out hnew
  replace a1 := cell_below a1 hnew
  replace a2 := cell_below a2 hnew
  replace a3 := cell_below a3 hnew
  replace s0 := cell_below s0 hnew
  replace s1 := cell_below s1 hnew
  replace s2 := cell_below s2 hnew
  replace S4 := S4.below hnew
  replace OX := OX.below hnew
  obtain ⟨B8, hB8⟩ : ∃ B, B = w7.heap.size := ⟨_, rfl⟩
  rw [← hB8] at S8 ⊢
  clear hnew
  generalize (w7.alloc (.cells #[.int .i64 c, .string s] 27)) = w8 at *
  clear hB8 HB7
  obtain ⟨u0, u1⟩ := S4
  obtain ⟨g0, g1⟩ := S8
  go_wp2_with fail
  refine (eqTextResult_same c s _).mono ?_
  rintro e w9 ⟨rfl, hb⟩
  have HB9 : Hid (Below w.heap.size w w9) := below_then HB8.out hb
  replace a1 := cell_below a1 hb
  replace a2 := cell_below a2 hb
  replace a3 := cell_below a3 hb
  replace s0 := cell_below s0 hb
  replace s1 := cell_below s1 hb
  replace s2 := cell_below s2 hb
  replace OX := OX.below hb
  clear hb u0 u1 g0 g1 HB8
  have HX : Hid (InRp w9 (some ⟨bx, 0, none⟩) t) := OX
  clear OX
  go_upto_region 10 with fail
  refine wp_region_E 999 (S := fun u => Below w9.heap.size w9 u ∧ Box3 u w.heap.size (.int .i64 t.cd) (.int .i64 t.vl) (.slice a0 t.cn c0) ∧ Box3 u B6 (.int .i64 t.cd) (.int .i64 t.vl) (.slice (some ⟨bx, 0, none⟩) t.cn t.cn)) hmo ⟨(Below.refl _ _).drew, Box3.below ⟨a1, a2, a3⟩ (Below.refl _ _).drew, Box3.below ⟨s0, s1, s2⟩ (Below.refl _ _).drew⟩ (fun hS => ?_)
  refine wpAnyE_takeD (L := 999) (i := 0) (v := .agg #[.int .i64 t.cd, .int .i64 t.vl, .slice (some ⟨bx, 0, none⟩) t.cn t.cn]) (some 23) rfl rfl (by kernel_rfl) (by kernel_rfl) (by kernel_rfl) (by kernel_rfl) (fun _ _ _ h => h) (Or.inl ⟨by kernel_rfl, by intro u hSu; obtain ⟨-, ⟨p0, p1, p2⟩, q0, q1, q2⟩ := hSu; go_simp⟩) hS ?_
  try simp only [Act.put, List.setIfInBounds_toArray, List.set_cons_zero, List.set_cons_succ]
  refine wpAnyE_takeD (L := 999) (i := 1) (v := .agg #[.int .i64 t.cd, .int .i64 t.vl, .slice a0 t.cn c0]) (some 24) rfl rfl (by kernel_rfl) (by kernel_rfl) (by kernel_rfl) (by kernel_rfl) (fun _ _ _ h => h) (Or.inl ⟨by kernel_rfl, by intro u hSu; obtain ⟨-, ⟨p0, p1, p2⟩, q0, q1, q2⟩ := hSu; go_simp⟩) hS ?_
  try simp only [Act.put, List.setIfInBounds_toArray, List.set_cons_zero, List.set_cons_succ]
  refine wpAnyE_ready (rs := [2]) (by kernel_rfl) (by simp) ?_
  refine AllReadyE.cons rfl (fun K9 hK => ?_) AllReadyE.nil
  go_simp
  refine (toReply_any t a0 c0 _ HSm.out (HA0.out.below (below_then HB9.out hS.1))).mono ?_
  rintro e w10 ⟨bq, rfl, hb, OQ⟩
  have HQ : Hid (InRp w10 (some ⟨bq, 0, none⟩) t) := OQ.at
  clear OQ
  refine hK.out _ _ (⟨below_then hS.1 hb, hS.2.1.below hb, hS.2.2.below hb⟩) (fun hS9 => ?_)
  try simp only [Act.put, List.setIfInBounds_toArray, List.set_cons_zero, List.set_cons_succ]
  clear hK K9 hS
  have hS := hS9
  clear hS9
  clear hb
  refine wpAnyE_ready (rs := [3]) (by kernel_rfl) (by simp) ?_
  refine AllReadyE.cons rfl (fun K9 hK => ?_) AllReadyE.nil
  go_simp
  refine (eqReply_same t _ _ _ _ _ HSm.out (HX.out.below hS.1) HQ.out).mono ?_
  rintro e w11 ⟨rfl, hb⟩
  refine hK.out _ _ (⟨below_then hS.1 hb, hS.2.1.below hb, hS.2.2.below hb⟩) (fun hS9 => ?_)
  try simp only [Act.put, List.setIfInBounds_toArray, List.set_cons_zero, List.set_cons_succ]
  clear hK K9 hS
  have hS := hS9
  clear hS9
  clear hb
  refine wpAnyE_takeD (L := 999) (i := 4) (v := .bool false) (some 27) rfl rfl (by kernel_rfl) (by kernel_rfl) (by kernel_rfl) (by kernel_rfl) (fun _ _ _ h => h) (Or.inl ⟨by kernel_rfl, by intro u hSu; go_simp⟩) hS ?_
  try simp only [Act.put, List.setIfInBounds_toArray, List.set_cons_zero, List.set_cons_succ]
  have HBE : Hid (Below w.heap.size w w11) := below_then HB9.out hS.1
  refine wpAnyE_done (by kernel_rfl) ?_ _
  go_simp
  go_wp2_with fail
  go_ret
  exact ⟨rfl, HBE.out⟩
end Go.Proofs.YtfipdkhbehfohaaDoor
