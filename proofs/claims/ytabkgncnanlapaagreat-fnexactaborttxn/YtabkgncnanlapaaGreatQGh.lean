/- The fault of an engine, by the program: what transactions own; the whole. -/
import Derived.Test.YtabkgncnanlapaaGreatQGg
import Derived.Test.YtabkgncnanlapaaGreatQVg
namespace Go.Proofs.YtabkgncnanlapaaGreat
open Go.RowKit Go.Deep
set_option linter.unusedVariables false
set_option maxRecDepth 20000

theorem UndsAt.take {w : World} {a : Option Addr} {n k : Nat} {U : Nat → Ud} (h : UndsAt w a n U) (hk : k ≤ n) : UndsAt w a k U := by
  rcases h with h | ⟨b, off, ha, hl, hc⟩
  · exact .inl (by omega)
  · exact .inr ⟨b, off, ha, hl, fun i hi => hc i (by omega)⟩
theorem fob_wrt {n : Nat} {R : Nat → Vr} {x : Int} (hx : x ≠ 0) : fob n R x = (wrt n R == x) := by
  unfold fob wrt
  by_cases h : 0 < n ∧ (R 0).a = 0
  · rw [if_pos h]
    simp [h.1, h.2]
  · rw [if_neg h]
    have e : (0 == x) = false := by simp; omega
    rw [e]
    by_cases h1 : 0 < n
    · have h2 : ¬ (R 0).a = 0 := fun h2 => h ⟨h1, h2⟩
      simp [h2]
    · simp [h1]
theorem oB_i0 {q : Nat} {R : Nat → Rw} {t : Tx} {j : Nat} (h : fR q R (t.U j).k = -1) : oB q R t j = false := by simp [oB, h]
theorem oB_i1 {q : Nat} {R : Nat → Rw} {t : Tx} {j i : Nat} (h : fR q R (t.U j).k = (i : Int)) : oB q R t j = (wrt (R i).n (R i).U == t.id && (t.U j).h == hasU t.U (t.U j).k j) := by
  simp only [oB, h, Int.toNat_natCast]
  rw [show decide ((0 : Int) ≤ (i : Int)) = true by simp]
  rfl
/-- What firstIsOpenBy tells of the chain that was found. -/
theorem oB_fob {q : Nat} {R : Nat → Rw} {t : Tx} {j n : Nat} {U : Nat → Vr} (hx : t.id ≠ 0) (h : (fR q R (t.U j).k = -1 ∧ n = 0) ∨ ∃ i, i < q ∧ fR q R (t.U j).k = (i : Int) ∧ n = (R i).n ∧ U = (R i).U) :
    oB q R t j = (fob n U t.id && (t.U j).h == hasU t.U (t.U j).k j) := by
  rcases h with ⟨h1, rfl⟩ | ⟨i, _, h2, rfl, rfl⟩
  · rw [oB_i0 h1]; rfl
  · rw [oB_i1 h2, fob_wrt hx]
set_option maxHeartbeats 8000000 in
theorem undosFit_any (E : En) (a : Option Addr) (cap : Nat) (a' : Option Addr) (cap' : Nat) (t : Tx) (ti : Option Addr) (tc : Nat) (w : World) (hq : E.q ≤ 32) (hn : t.n ≤ 60) (htc : t.n ≤ tc) (hid : t.id ≠ 0) (hs : ∀ j, j < E.q → ∀ i, i < j → (E.R i).key < (E.R j).key) (h : EngAt w a a' E) (hu : UndsAt w ti t.n t.U) :
    Calls Tryz.prog 89 #[.agg #[.int .i64 E.nx, .int .i64 E.ck, .slice a E.p cap, .slice a' E.q cap'], .agg #[.int .i64 t.id, .int .i64 t.am, .int .i64 t.st, .int .i64 t.dn, .slice ti t.n tc]] w fun e w' => e = .returned (.bool (owB E.q E.R t)) ∧ Below w.heap.size w w' := by
  have HX : Hid (EngAt w a a' E) := h
  have HS : Hid (∀ j, j < E.q → ∀ i, i < j → (E.R i).key < (E.R j).key) := hs
  have HU : Hid (UndsAt w ti t.n t.U) := hu
  have HQ : Hid (E.q ≤ 32) := hq
  have HID : Hid (t.id ≠ 0) := hid
  have htc' : (t.n : Int) ≤ (tc : Int) := by omega
  clear h hs hu hid hq
  have HW : Hid (∀ o1 o2 : Obj, Below w.heap.size w ((w.alloc o1).alloc o2)) := fun o1 o2 => (((Below.refl _ _).alloc (Nat.le_refl _) _).alloc (by simp) _)
  have HBX : Hid (∀ o1 o2 : Obj, o1 = .cells #[.int .i64 E.nx, .int .i64 E.ck, .slice a E.p cap, .slice a' E.q cap'] 30 → o2 = .cells #[.int .i64 t.id, .int .i64 t.am, .int .i64 t.st, .int .i64 t.dn, .slice ti t.n tc] 54 →
      Box4 ((w.alloc o1).alloc o2) w.heap.size (.int .i64 E.nx) (.int .i64 E.ck) (.slice a E.p cap) (.slice a' E.q cap') ∧ ((w.alloc o1).alloc o2).cell? ⟨w.heap.size + 1, 0, none⟩ = some (.int .i64 t.id) ∧ ((w.alloc o1).alloc o2).cell? ⟨w.heap.size + 1, 4, none⟩ = some (.slice ti t.n tc)) := by
    rintro o1 o2 rfl rfl
    exact ⟨(Box4.new w _ _ _ _ _).alloc _, by simp [go_sem], by simp [go_sem]⟩
  go_enter Tryz.func89, Tryz.ntmps89
  go_wp2_with fail
  obtain ⟨HB4, ht0, ht4⟩ := HBX.out _ _ rfl rfl
  have HWW := HW.out (.cells #[.int .i64 E.nx, .int .i64 E.ck, .slice a E.p cap, .slice a' E.q cap'] 30) (.cells #[.int .i64 t.id, .int .i64 t.am, .int .i64 t.st, .int .i64 t.dn, .slice ti t.n tc] 54)
  generalize (w.alloc (.cells #[.int .i64 E.nx, .int .i64 E.ck, .slice a E.p cap, .slice a' E.q cap'] 30)).alloc (.cells #[.int .i64 t.id, .int .i64 t.am, .int .i64 t.st, .int .i64 t.dn, .slice ti t.n tc] 54) = W at *
  have HB4H : Hid (Box4 W w.heap.size (.int .i64 E.nx) (.int .i64 E.ck) (.slice a E.p cap) (.slice a' E.q cap')) := HB4
  have HTH : Hid (W.cell? ⟨w.heap.size + 1, 0, none⟩ = some (.int .i64 t.id) ∧ W.cell? ⟨w.heap.size + 1, 4, none⟩ = some (.slice ti t.n tc)) := ⟨ht0, ht4⟩
  have HWH : Hid (Below w.heap.size w W) := HWW
  have hsz : Hid (w.heap.size ≤ W.heap.size) := HWW.size
  clear HBX HW HB4 ht0 ht4 HWW
  generalize hEB : w.heap.size = EB at *
  generalize hTB : EB + 1 = TB at *
  go_loopw [5, 6, 10] (fun _ _ i wr => ∃ k : Nat, k ≤ t.n ∧ i = .int .i64 k ∧ Hid (allb (oB E.q E.R t) k = true) ∧ Hid (Below W.heap.size W wr)) (fun _ _ i _ => t.n - (intOf i).toNat)
  case atStart => exact ⟨0, Nat.zero_le _, rfl, rfl, Below.refl _ _⟩
  case round =>
    obtain ⟨k, hk, rfl, HC, HB⟩ := hrel
    have HBE : Hid (Below EB w wr) := HWH.out.trans (HB.out.mono hsz.out)
    have hszr : Hid (EB ≤ wr.heap.size) := Nat.le_trans hsz.out HB.out.size
    by_cases hlt : k < t.n
    · have hlt' : (k : Int) < (t.n : Int) := by omega
      have hk0 : (0 : Int) ≤ (k : Int) := by omega
      have hk2 : (k : Int) ≤ (tc : Int) := by omega
      have HUR : Hid (UndsAt wr ti t.n t.U) := by
        have h := HU.out
        rw [← hEB] at HBE
        exact h.below HBE.out
      rcases HUR.out with h | ⟨ub, uo, rfl, hul, huc⟩
      · omega
      obtain ⟨u0, u1, u2, u3⟩ := huc k hlt
      clear huc
      go_wp2_with fail
      have hbx : CU (wr.alloc (.cells #[.int .i64 (t.U k).k, .bool (t.U k).h, .bool (t.U k).g, .int .i64 (t.U k).v] 90)) wr.heap.size 0 (t.U k) := ⟨by simp [go_sem], by simp [go_sem], by simp [go_sem], by simp [go_sem]⟩
      have HBN : Hid (Below wr.heap.size wr (wr.alloc (.cells #[.int .i64 (t.U k).k, .bool (t.U k).h, .bool (t.U k).g, .int .i64 (t.U k).v] 90))) := below_new _ _
      generalize wr.alloc (.cells #[.int .i64 (t.U k).k, .bool (t.U k).h, .bool (t.U k).g, .int .i64 (t.U k).v] 90) = wx at *
      have hszx : Hid (EB ≤ wx.heap.size) := Nat.le_trans hszr.out HBN.out.size
      have HBX : Hid (Below W.heap.size W wx) := below_then HB.out HBN.out
      have HBEX : Hid (Below EB w wx) := HWH.out.trans (HBX.out.mono hsz.out)
      have HEX : Hid (EngAt wx a a' E) := by
        have h := HX.out
        rw [← hEB] at HBEX
        exact h.below HBEX.out
      have HUX : Hid (UndsAt wx (some ⟨ub, uo, none⟩) t.n t.U) := HUR.out.below HBN.out
      obtain ⟨q0, q1, -, -⟩ := hbx
      rw [Nat.zero_add] at q1
      obtain ⟨b0, b1, b2, b3⟩ := HB4H.out.below HBX.out
      obtain ⟨t0, t4⟩ := HTH.out
      replace t0 := cell_below t0 HBX.out
      replace t4 := cell_below t4 HBX.out
      clear u0 u1 u2 u3 hul HUR
      generalize wr.heap.size = UB at *
      have hb0 : Below wx.heap.size wx wx.drew := (Below.refl _ _).drew
      go_upto_region 4 with fail
      go_cut [22] (fun cc wy => (∃ vn vU, cc = .bool (!fob vn vU t.id) ∧ Hid ((fR E.q E.R (t.U k).k = -1 ∧ vn = 0) ∨ ∃ i, i < E.q ∧ fR E.q E.R (t.U k).k = (i : Int) ∧ vn = (E.R i).n ∧ vU = (E.R i).U)) ∧ Hid (Below wx.heap.size wx wy))
      case first =>
        go_region_held3 (fun w' => Below wx.heap.size wx w' ∧ w'.cell? ⟨EB, 0, none⟩ = some (.int .i64 E.nx) ∧ w'.cell? ⟨EB, 1, none⟩ = some (.int .i64 E.ck) ∧ w'.cell? ⟨EB, 2, none⟩ = some (.slice a E.p cap) ∧ w'.cell? ⟨EB, 3, none⟩ = some (.slice a' E.q cap') ∧ w'.cell? ⟨UB, 0, none⟩ = some (.int .i64 (t.U k).k) ∧ w'.cell? ⟨TB, 0, none⟩ = some (.int .i64 t.id)) (go_keep)
          (first | (go_at_call 98; refine (chainOfKey_any E a cap a' cap' (t.U k).k _ HQ.out HS.out (HEX.out.below (by simp [*]))).mono ?_; rintro e wq ⟨va, vn, vc, vU, rfl, hbq, hvq, hcq⟩; have HVQ : Hid (VersAt wq va vn vU) := hvq.below hbq; have HCQ : Hid ((fR E.q E.R (t.U k).k = -1 ∧ vn = 0) ∨ ∃ i, i < E.q ∧ fR E.q E.R (t.U k).k = (i : Int) ∧ vn = (E.R i).n ∧ vU = (E.R i).U) := hcq; clear hvq hcq; have hU := below_then (w := wx) (by simp [*]) hbq; have hU0 := cell_below (B := EB) (o := 0) (v := .int .i64 E.nx) (by simp [*]) hbq; have hU1 := cell_below (B := EB) (o := 1) (v := .int .i64 E.ck) (by simp [*]) hbq; have hU2 := cell_below (B := EB) (o := 2) (v := .slice a E.p cap) (by simp [*]) hbq; have hU3 := cell_below (B := EB) (o := 3) (v := .slice a' E.q cap') (by simp [*]) hbq; have hU4 := cell_below (B := UB) (o := 0) (v := .int .i64 (t.U k).k) (by simp [*]) hbq; have hU5 := cell_below (B := TB) (o := 0) (v := .int .i64 t.id) (by simp [*]) hbq) | (go_at_call 115; refine (firstIsOpenBy_any vn vU va vc t.id _ HVQ.out).mono ?_; rintro e wz ⟨rfl, hbz⟩; have hZ := below_then (w := wx) (by simp [*]) hbz; have hZ0 := cell_below (B := EB) (o := 0) (v := .int .i64 E.nx) (by simp [*]) hbz; have hZ1 := cell_below (B := EB) (o := 1) (v := .int .i64 E.ck) (by simp [*]) hbz; have hZ2 := cell_below (B := EB) (o := 2) (v := .slice a E.p cap) (by simp [*]) hbz; have hZ3 := cell_below (B := EB) (o := 3) (v := .slice a' E.q cap') (by simp [*]) hbz; have hZ4 := cell_below (B := UB) (o := 0) (v := .int .i64 (t.U k).k) (by simp [*]) hbz; have hZ5 := cell_below (B := TB) (o := 0) (v := .int .i64 t.id) (by simp [*]) hbz))
        go_wp2_with fail
        go_meet
        exact ⟨⟨vn, vU, rfl, HCQ⟩, by assumption⟩
      case rest =>
        obtain ⟨⟨vn, vU, rfl, HCQ⟩, HBY⟩ := hcut
        obtain ⟨w4, rfl⟩ : ∃ x, x = wc := ⟨wc, rfl⟩
        have HO : Hid (oB E.q E.R t k = (fob vn vU t.id && (t.U k).h == hasU t.U (t.U k).k k)) := oB_fob HID.out HCQ.out
        have HBXC : Hid (Below W.heap.size W w4) := below_then HBX.out HBY.out
        have HBEC : Hid (Below EB w w4) := HWH.out.trans (HBXC.out.mono hsz.out)
        replace q0 := cell_below q0 HBY.out
        replace q1 := cell_below q1 HBY.out
        replace t4 := cell_below t4 HBY.out
        have HUC : Hid (UndsAt w4 (some ⟨ub, uo, none⟩) k t.U) := (HUX.out.below HBY.out).take (by omega)
        have hszc : Hid (EB ≤ w4.heap.size) := Nat.le_trans hszx.out HBY.out.size
        clear b0 b1 b2 b3 t0 HCQ HBY HBX HBEX HEX HUX HBN hb0
        obtain hf | hf := bool_or2 (fob vn vU t.id)
        case inr =>
          have HE : Hid (owB E.q E.R t = false) := allb_not hlt (by rw [HO.out, hf]; rfl)
          rw [hf]
          clear HO HC hf
          go_wp2_with fail
          go_ret
          first | exact ⟨ret_bool HE.out.symm, HBEC.out⟩ | exact ⟨ret_bool HE.out.symm, by rw [hEB]; exact HBEC.out⟩
        have HO2 : Hid (oB E.q E.R t k = ((t.U k).h == hasU t.U (t.U k).k k)) := by show _ = _; rw [HO.out, hf]; rfl
        rw [hf]
        clear HO hf
        have hb1 : Below w4.heap.size w4 w4.drew := (Below.refl _ _).drew
        go_upto_region 6 with fail
        go_cut [32] (fun cc wy => cc = .bool (!((t.U k).h == hasU t.U (t.U k).k k)) ∧ Hid (Below w4.heap.size w4 wy))
        case first =>
          go_region_held3 (fun w' => Below w4.heap.size w4 w' ∧ w'.cell? ⟨UB, 0, none⟩ = some (.int .i64 (t.U k).k) ∧ w'.cell? ⟨UB, 1, none⟩ = some (.bool (t.U k).h) ∧ w'.cell? ⟨TB, 4, none⟩ = some (.slice (some ⟨ub, uo, none⟩) t.n tc)) (go_keep)
            (first | (go_at_call 116; refine (hasUndo_any k t.U (some ⟨ub, uo, none⟩) tc (t.U k).k _ (by omega) (HUC.out.below (by simp [*]))).mono ?_; rintro e wq ⟨rfl, hbq⟩; have hU := below_then (w := w4) (by simp [*]) hbq; have hU0 := cell_below (B := UB) (o := 0) (v := .int .i64 (t.U k).k) (by simp [*]) hbq; have hU1 := cell_below (B := UB) (o := 1) (v := .bool (t.U k).h) (by simp [*]) hbq; have hU2 := cell_below (B := TB) (o := 4) (v := .slice (some ⟨ub, uo, none⟩) t.n tc) (by simp [*]) hbq))
          go_wp2_with fail
          go_meet
          exact ⟨by first | rfl | simp, by assumption⟩
        case rest =>
          obtain ⟨rfl, HBZ⟩ := hcut
          have HBXD : Hid (Below W.heap.size W wc) := below_then HBXC.out HBZ.out
          have HBED : Hid (Below EB w wc) := HWH.out.trans (HBXD.out.mono hsz.out)
          clear q0 q1 t4 HUC hb1
          obtain hh | hh := bool_or2 ((t.U k).h == hasU t.U (t.U k).k k)
          · have HE : Hid (allb (oB E.q E.R t) (k + 1) = true) := by
              show _ = _
              simp only [allb]
              rw [HC.out, HO2.out, hh]; rfl
            rw [hh]
            clear HO2 HC hh
            go_wp2_with fail
            go_roundw
            case rel => exact ⟨k + 1, hlt, by go_num, HE, HBXD⟩
            case measure => simp [intOf]; omega
          · have HE : Hid (owB E.q E.R t = false) := allb_not hlt (by rw [HO2.out, hh])
            rw [hh]
            clear HO2 HC hh
            go_wp2_with fail
            go_ret
            first | exact ⟨ret_bool HE.out.symm, HBED.out⟩ | exact ⟨ret_bool HE.out.symm, by rw [hEB]; exact HBED.out⟩
    · have hkn : k = t.n := by omega
      have HE : Hid (owB E.q E.R t = true) := by rw [hkn] at HC; exact HC
      have hnl : ¬ ((k : Int) < (t.n : Int)) := by omega
      clear HC
      go_wp2_with fail
      go_ret
      first | exact ⟨ret_bool HE.out.symm, HBE.out⟩ | exact ⟨ret_bool HE.out.symm, by rw [hEB]; exact HBE.out⟩
end Go.Proofs.YtabkgncnanlapaaGreat
