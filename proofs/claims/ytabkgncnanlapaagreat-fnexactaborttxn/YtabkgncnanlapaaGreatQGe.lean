/- The fault of an engine, by the program: rows. -/
import Derived.Test.YtabkgncnanlapaaGreatQGd
namespace Go.Proofs.YtabkgncnanlapaaGreat
open Go.RowKit Go.Deep
set_option linter.unusedVariables false
set_option maxRecDepth 20000

set_option maxHeartbeats 2000000 in
theorem idxTxn_any (n : Nat) (T : Nat → Tx) (a : Option Addr) (cap : Nat) (r : Rw) (B vb vo ci : Nat) (w : World) (hp : n ≤ 1048576) (hn : 0 < r.n) (hsm : ∀ i, i < n → (T i).n ≤ 1048576) (c0 : w.cell? ⟨B, 0, none⟩ = some (.int .i64 r.key)) (c1 : w.cell? ⟨B, 1, none⟩ = some (.slice (some ⟨vb, vo, none⟩) r.n ci)) (c2 : w.cell? ⟨vb, vo, none⟩ = some (.int .i64 (r.U 0).t)) (h : TxsAt w a n T) :
    Calls Tryz.prog 55 #[.slice a n cap, .func (.func 133) #[] #[.pointer (some ⟨B, 0, none⟩)]] w fun e w' => e = .returned (.int .i64 (fi (vQ T r) n 0)) ∧ Below w.heap.size w w' := by
  have HA : Hid (TxsAt w a n T) := h
  have HS : Hid (∀ i, i < n → (T i).n ≤ 1048576) := hsm
  have HC0 : Hid (w.cell? ⟨B, 0, none⟩ = some (.int .i64 r.key) ∧ w.cell? ⟨B, 1, none⟩ = some (.slice (some ⟨vb, vo, none⟩) r.n ci) ∧ w.cell? ⟨vb, vo, none⟩ = some (.int .i64 (r.U 0).t)) := ⟨c0, c1, c2⟩
  generalize hC : fi (vQ T r) n 0 = C
  clear h c0 c1 c2 hsm
  go_enter Tryz.func55, Tryz.ntmps55
  go_wp2_with fail
  go_loopw [5, 8] (fun _ i wr => ∃ k : Nat, k ≤ n ∧ i = .int .i64 k ∧ Hid (C = fi (vQ T r) (n - k) k) ∧ Hid (Below w.heap.size w wr)) (fun _ i _ => n - (intOf i).toNat)
  case atStart => exact ⟨0, Nat.zero_le _, rfl, hC.symm, Below.refl _ _⟩
  case round =>
    obtain ⟨k, hk, rfl, HC, HB⟩ := hrel
    by_cases hlt : k < n
    · have hlt' : (k : Int) < (n : Int) := by omega
      have hk0 : (0 : Int) ≤ (k : Int) := by omega
      rcases HA.out.below HB.out with h | ⟨bb, off, rfl, hl, hcc⟩
      · omega
      obtain ⟨ti, tc, ⟨x0, x1, x2, x3, x4⟩, hun, -⟩ := hcc k hlt
      have HUN : Hid (UndsAt wr ti (T k).n (T k).U) := hun
      have HE0 := HC.out.trans (fi_at _ hlt)
      have HQ : Hid (vQ T r k = ((T k).id == (r.U 0).t && hasU (T k).U r.key (T k).n)) := rfl
      have HSK : Hid ((T k).n ≤ 1048576) := HS.out k hlt
      clear hcc HC hC hun
      go_wp2_with fail
      refine (vf1_any (T k) ti tc r B vb vo ci wr hn HSK.out (cell_below HC0.out.1 HB.out) (cell_below HC0.out.2.1 HB.out) (cell_below HC0.out.2.2 HB.out) HUN.out).mono ?_
      rintro e w1 ⟨rfl, hb1⟩
      have HB1 : Hid (Below w.heap.size w w1) := below_then HB.out hb1
      rw [← HQ.out]
      clear hb1 x0 x1 x2 x3 x4 HUN HQ
      obtain hq | hq := bool_or2 (vQ T r k)
      · have HE : Hid (C = k) := by rw [if_pos hq] at HE0; exact HE0
        clear HE0
        rw [hq]
        go_wp2_with fail
        go_ret
        exact ⟨ret_int HE.out.symm, HB1.out⟩
      · have HE : Hid (C = fi (vQ T r) (n - (k + 1)) (k + 1)) := by rw [if_neg (by simpa using hq)] at HE0; exact HE0
        clear HE0
        rw [hq]
        go_wp2_with fail
        go_roundw
        case rel => exact ⟨k + 1, hlt, by go_num, HE, HB1⟩
        case measure => simp [intOf]; omega
    · have HE : Hid (C = -1) := by
        have h := HC.out
        rw [show n - k = 0 by omega] at h
        exact h
      clear HC hC
      have hnl : ¬ ((k : Int) < (n : Int)) := by omega
      go_wp2_with fail
      go_ret
      exact ⟨ret_int HE.out.symm, HB.out⟩
theorem hasTxn_any (n : Nat) (T : Nat → Tx) (a : Option Addr) (cap : Nat) (r : Rw) (B vb vo ci : Nat) (w : World) (hp : n ≤ 1048576) (hn : 0 < r.n) (hsm : ∀ i, i < n → (T i).n ≤ 1048576) (c0 : w.cell? ⟨B, 0, none⟩ = some (.int .i64 r.key)) (c1 : w.cell? ⟨B, 1, none⟩ = some (.slice (some ⟨vb, vo, none⟩) r.n ci)) (c2 : w.cell? ⟨vb, vo, none⟩ = some (.int .i64 (r.U 0).t)) (h : TxsAt w a n T) :
    Calls Tryz.prog 132 #[.slice a n cap, .func (.func 133) #[] #[.pointer (some ⟨B, 0, none⟩)]] w fun e w' => e = .returned (.bool (vI n T r)) ∧ Below w.heap.size w w' := by
  have HA : Hid (TxsAt w a n T) := h
  have HQ : Hid (vI n T r = decide (0 ≤ fi (vQ T r) n 0)) := rfl
  have HS : Hid (∀ i, i < n → (T i).n ≤ 1048576) := hsm
  clear h hsm
  go_enter Tryz.func132, Tryz.ntmps132
  go_wp2_with fail
  refine (idxTxn_any n T a cap r B vb vo ci w hp hn HS.out c0 c1 c2 HA.out).mono ?_
  rintro e w1 ⟨rfl, hb1⟩
  have HB1 : Hid (Below w.heap.size w w1) := hb1
  clear hb1 c0 c1 c2
  generalize fi (vQ T r) n 0 = C at *
  go_wp2_with fail
  go_ret
  exact ⟨ret_bool HQ.out.symm, HB1.out⟩
set_option maxHeartbeats 4000000 in
theorem versionsFit_any (E : En) (a : Option Addr) (cap : Nat) (a' : Option Addr) (cap' : Nat) (r : Rw) (ai : Option Addr) (ci : Nat) (w : World) (hp : E.p ≤ 20) (hsm : ∀ i, i < E.p → (E.T i).n ≤ 1048576) (hn : 0 < r.n) (hn2 : r.n ≤ 12) (h : EngAt w a a' E) (hv : VersAt w ai r.n r.U) :
    Calls Tryz.prog 114 #[.agg #[.int .i64 E.nx, .int .i64 E.ck, .slice a E.p cap, .slice a' E.q cap'], .agg #[.int .i64 r.key, .slice ai r.n ci]] w fun e w' => e = .returned (.bool (vfB E.ck E.p E.T r)) ∧ Below w.heap.size w w' := by
  obtain ⟨nx, ck, p, T, q, R⟩ := E
  dsimp only at *
  have HTA : Hid (TxsAt w a p T) := h.1
  have HS : Hid (∀ i, i < p → (T i).n ≤ 1048576) := hsm
  have HV : Hid (VersAt w ai r.n r.U) := hv
  have HF : Hid (vfB ck p T r = (allb (fun i => !decide (ck < (r.U i).a)) r.n && (!fop r.n r.U || vI p T r))) := rfl
  have hmf : ∀ (fn : Fn) (first cap : Array Value) (w : World), (Instr.makeFunc fn first cap).run Tryz.prog w = .ok (.func fn first cap) w := fun _ _ _ _ => rfl
  clear h hsm hv
  have HW : Hid (∀ o1 o2 : Obj, Below w.heap.size w ((w.alloc o1).alloc o2)) := fun o1 o2 => (((Below.refl _ _).alloc (Nat.le_refl _) _).alloc (by simp) _)
  have HBX : Hid (∀ o1 o2 : Obj, o1 = .cells #[.int .i64 nx, .int .i64 ck, .slice a p cap, .slice a' q cap'] 30 → o2 = .cells #[.int .i64 r.key, .slice ai r.n ci] 87 →
      Box4 ((w.alloc o1).alloc o2) w.heap.size (.int .i64 nx) (.int .i64 ck) (.slice a p cap) (.slice a' q cap') ∧ Box2 ((w.alloc o1).alloc o2) (w.heap.size + 1) (.int .i64 r.key) (.slice ai r.n ci)) := by
    rintro o1 o2 rfl rfl
    exact ⟨(Box4.new w _ _ _ _ _).alloc _, by simp [Box2, go_sem]⟩
  go_enter Tryz.func114, Tryz.ntmps114
  go_wp2_with fail
  obtain ⟨HB4, HB2⟩ := HBX.out _ _ rfl rfl
  have HWW := HW.out (.cells #[.int .i64 nx, .int .i64 ck, .slice a p cap, .slice a' q cap'] 30) (.cells #[.int .i64 r.key, .slice ai r.n ci] 87)
  have HB4H : Hid (Box4 ((w.alloc (.cells #[.int .i64 nx, .int .i64 ck, .slice a p cap, .slice a' q cap'] 30)).alloc (.cells #[.int .i64 r.key, .slice ai r.n ci] 87)) w.heap.size (.int .i64 nx) (.int .i64 ck) (.slice a p cap) (.slice a' q cap')) := HB4
  have HB2H : Hid (Box2 ((w.alloc (.cells #[.int .i64 nx, .int .i64 ck, .slice a p cap, .slice a' q cap'] 30)).alloc (.cells #[.int .i64 r.key, .slice ai r.n ci] 87)) (w.heap.size + 1) (.int .i64 r.key) (.slice ai r.n ci)) := HB2
  have HVW : Hid (VersAt ((w.alloc (.cells #[.int .i64 nx, .int .i64 ck, .slice a p cap, .slice a' q cap'] 30)).alloc (.cells #[.int .i64 r.key, .slice ai r.n ci] 87)) ai r.n r.U) := HV.out.below HWW
  have HTW : Hid (TxsAt ((w.alloc (.cells #[.int .i64 nx, .int .i64 ck, .slice a p cap, .slice a' q cap'] 30)).alloc (.cells #[.int .i64 r.key, .slice ai r.n ci] 87)) a p T) := HTA.out.below HWW
  have HWH : Hid (Below w.heap.size w ((w.alloc (.cells #[.int .i64 nx, .int .i64 ck, .slice a p cap, .slice a' q cap'] 30)).alloc (.cells #[.int .i64 r.key, .slice ai r.n ci] 87))) := HWW
  clear HBX HW HB4 HB2 HWW HV HTA
  generalize (w.alloc (.cells #[.int .i64 nx, .int .i64 ck, .slice a p cap, .slice a' q cap'] 30)).alloc (.cells #[.int .i64 r.key, .slice ai r.n ci] 87) = W at *
  have hsz : Hid (w.heap.size ≤ W.heap.size) := HWH.out.size
  generalize hEB : w.heap.size = EB at *
  generalize hRB : EB + 1 = RB at *
  go_loopw [6, 10] (fun _ i wr => ∃ k : Nat, k ≤ r.n ∧ i = .int .i64 k ∧ Hid (allb (fun i => !decide (ck < (r.U i).a)) k = true) ∧ Hid (Below W.heap.size W wr)) (fun _ i _ => r.n - (intOf i).toNat)
  case atStart => exact ⟨0, Nat.zero_le _, rfl, rfl, Below.refl _ _⟩
  case round =>
    obtain ⟨k, hk, rfl, HC, HB⟩ := hrel
    have HBE : Hid (Below EB w wr) := HWH.out.trans (HB.out.mono hsz.out)
    obtain ⟨b0, b1, b2, b3⟩ := HB4H.out.below HB.out
    obtain ⟨g0, g1⟩ := HB2H.out.below HB.out
    by_cases hlt : k < r.n
    · have hlt' : (k : Int) < (r.n : Int) := by omega
      have hk0 : (0 : Int) ≤ (k : Int) := by omega
      rcases HVW.out.below HB.out with h | ⟨vb, vo, rfl, hvl, hvc⟩
      · omega
      obtain ⟨v0, v1, v2, v3⟩ := hvc k hlt
      have d1 := fun o : Obj => cell_alloc b1 o
      have HBN : Hid (∀ o : Obj, Below W.heap.size W (wr.alloc o)) := fun o => below_then HB.out (below_new _ _)
      have HBN2 : Hid (∀ o : Obj, Below EB w (wr.alloc o)) := fun o => HWH.out.trans ((HBN.out o).mono hsz.out)
      clear hvc
      obtain hx | hx := bool_or2 (decide (ck < (r.U k).a))
      · have HE : Hid (vfB ck p T r = false) := by
          show _ = _
          rw [HF.out, allb_not hlt (by rw [hx]; rfl)]; rfl
        clear HF HC
        go_wp2_with fail
        go_ret
        first | exact ⟨ret_bool HE.out.symm, HBN2.out _⟩ | exact ⟨ret_bool HE.out.symm, by rw [hEB]; exact HBN2.out _⟩
      · have HE : Hid (allb (fun i => !decide (ck < (r.U i).a)) (k + 1) = true) := by
          show _ = _
          simp only [allb]
          rw [HC.out, hx]; rfl
        clear HF HC
        go_wp2_with fail
        go_roundw
        case rel => exact ⟨k + 1, hlt, by go_num, HE, HBN.out _⟩
        case measure => simp [intOf]; omega
    · have hkn : k = r.n := by omega
      have HE1 : Hid (vfB ck p T r = (!fop r.n r.U || vI p T r)) := by
        show _ = _
        rw [hkn] at HC
        rw [HF.out, HC.out]; rfl
      have hnl : ¬ ((k : Int) < (r.n : Int)) := by omega
      have HVR : Hid (VersAt wr ai r.n r.U) := HVW.out.below HB.out
      have HTR : Hid (TxsAt wr a p T) := HTW.out.below HB.out
      clear HF HC b0 b1 b3
      go_wp2_with fail
      refine (firstIsOpen_any r.n r.U ai ci wr HVR.out).mono ?_
      rintro e w1 ⟨rfl, hb1⟩
      have HBE1 : Hid (Below EB w w1) := HBE.out.trans (hb1.mono (Nat.le_trans hsz.out HB.out.size))
      replace b2 := cell_below b2 hb1
      replace g0 := cell_below g0 hb1
      replace g1 := cell_below g1 hb1
      have HVR1 := HVR.out.below hb1
      have HTR1 : Hid (TxsAt w1 a p T) := HTR.out.below hb1
      have hsz1 : Hid (EB ≤ w1.heap.size) := Nat.le_trans hsz.out (Nat.le_trans HB.out.size hb1.size)
      clear hb1 HVR HTR
      obtain hf | hf := bool_or2 (fop r.n r.U)
      · rw [hf] at HE1 ⊢
        rcases HVR1 with h | ⟨vb, vo, rfl, hvl, hvc⟩
        · omega
        obtain ⟨v0, -⟩ := hvc 0 hn
        rw [Nat.zero_mul, Nat.add_zero] at v0
        clear hvc hf
        go_wp2_with fail
        refine (hasTxn_any p T a cap r RB vb vo ci w1 (by omega) hn HS.out g0 g1 v0 HTR1.out).mono ?_
        rintro e w2 ⟨rfl, hb2⟩
        have HBE2 : Hid (Below EB w w2) := HBE1.out.trans (hb2.mono hsz1.out)
        clear hb2
        go_wp2_with fail
        go_ret
        first | exact ⟨ret_bool (by rw [HE1.out]; rfl), HBE2.out⟩ | exact ⟨ret_bool (by rw [HE1.out]; rfl), by rw [hEB]; exact HBE2.out⟩
      · rw [hf] at HE1 ⊢
        clear HVR1 hf
        go_wp2_with fail
        go_ret
        first | exact ⟨ret_bool (by rw [HE1.out]; rfl), HBE1.out⟩ | exact ⟨ret_bool (by rw [HE1.out]; rfl), by rw [hEB]; exact HBE1.out⟩
end Go.Proofs.YtabkgncnanlapaaGreat
