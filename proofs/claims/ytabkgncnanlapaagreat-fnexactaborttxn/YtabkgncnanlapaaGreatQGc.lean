/- The fault of an engine, by the program: transactions. -/
import Derived.Test.YtabkgncnanlapaaGreatQGb
import Derived.Test.YtabkgncnanlapaaGreatQVe
import Derived.Test.YtabkgncnanlapaaGreatQBase
import Derived.Deep.DeepCutAuto
import Derived.Deep.RegionHeld3
namespace Go.Proofs.YtabkgncnanlapaaGreat
open Go.RowKit Go.Deep
set_option linter.unusedVariables false
set_option maxRecDepth 20000

theorem tF_3i {nx ck : Int} {T : Nat → Tx} {i : Nat} (h : tIn nx ck (T i) = false) : tF nx ck T i = 3 := if_pos h
theorem tF_1i {nx ck : Int} {T : Nat → Tx} {i : Nat} (h : tIn nx ck (T i) = true) (h2 : (tB1 T i || (tB2 (T i) || tB3 (T i))) = true) : tF nx ck T i = 1 := by
  unfold tF; rw [if_neg (by simp [h]), if_pos (by rw [Bool.or_assoc]; exact h2)]
theorem tF_ui {nx ck : Int} {T : Nat → Tx} {i : Nat} (h : tIn nx ck (T i) = true) (h2 : (tB1 T i || (tB2 (T i) || tB3 (T i))) = false) : tF nx ck T i = usF (T i).n (T i).U := by
  unfold tF; rw [if_neg (by simp [h]), if_neg (by rw [Bool.or_assoc]; simp [h2])]
theorem tB1_first {T : Nat → Tx} {k : Nat} : (∃ j, k = j + 1 ∧ tB1 T k = decide ((T k).id ≤ (T j).id)) ∨ (decide (0 < k) = false ∧ tB1 T k = false) := by
  rcases Nat.eq_zero_or_pos k with e | e
  · exact .inr ⟨by simp; omega, by rw [tB1, show decide (0 < k) = false by simp; omega]; rfl⟩
  · refine .inl ⟨k - 1, by omega, ?_⟩
    rw [tB1, show decide (0 < k) = true by simp; omega]; rfl
set_option maxHeartbeats 8000000 in
theorem txnFault_any (E : En) (a : Option Addr) (cap : Nat) (a' : Option Addr) (cap' : Nat) (k : Nat) (w : World) (hp : E.p ≤ 20) (hlt : k < E.p) (hsm : ∀ i, i < E.p → (E.T i).n ≤ 1048576) (hN : 1 ≤ E.nx ∧ E.nx ≤ 999) (h : EngAt w a a' E) :
    Calls Tryz.prog 87 #[.agg #[.int .i64 E.nx, .int .i64 E.ck, .slice a E.p cap, .slice a' E.q cap'], .int .i64 k] w fun e w' => e = .returned (.int .i64 (tF E.nx E.ck E.T k)) ∧ Below w.heap.size w w' := by
  obtain ⟨nx, ck, p, T, q, R⟩ := E
  dsimp only at *
  obtain ⟨hTA, -⟩ := h
  dsimp only at hTA
  have HSK : Hid ((T k).n ≤ 1048576) := hsm k hlt
  have HN : Hid (1 ≤ nx ∧ nx ≤ 999) := hN
  have hlt' : (k : Int) < (p : Int) := by omega
  have hk0 : (0 : Int) ≤ (k : Int) := by omega
  rcases hTA with h | ⟨bb, off, rfl, hl, hcc⟩
  · omega
  obtain ⟨ai, ci, hCT, hun, -⟩ := hcc k hlt
  have HUN : Hid (UndsAt w ai (T k).n (T k).U) := hun
  have HCC : Hid (∀ i, i < p → w.cell? ⟨bb, off + i * 5, none⟩ = some (.int .i64 (T i).id)) := fun i hi => by obtain ⟨_, _, ⟨h, _⟩, _⟩ := hcc i hi; exact h
  obtain ⟨x0, x1, x2, x3, x4⟩ := hCT
  have hbne : ¬ bb = w.heap.size := by omega
  have y0 := fun o : Obj => cell_alloc x0 o
  have y1 := fun o : Obj => cell_alloc x1 o
  have y2 := fun o : Obj => cell_alloc x2 o
  have y3 := fun o : Obj => cell_alloc x3 o
  have y4 := fun o : Obj => cell_alloc x4 o
  clear hcc hun hsm hN x0 x1 x2 x3 x4
  generalize hC : tF nx ck T k = C
  go_enter Tryz.func87, Tryz.ntmps87
  go_wp2_with fail
  have hb0 : ∀ o1 o2, Below w.heap.size w ((w.alloc o1).alloc o2) := fun o1 o2 => (((Below.refl _ _).alloc (Nat.le_refl _) _).alloc (by simp) _)
  refine (txnInBounds_any nx ck (some ⟨bb, off, none⟩) a' ai p q cap cap' ci (T k) _ HN.out).mono ?_
  rintro e w1 ⟨rfl, hb1⟩
  obtain ⟨hcz, -⟩ := bcell2 hb1
  have e2 : w1.cell? ⟨w.heap.size, 2, none⟩ = some (.slice (some ⟨bb, off, none⟩) p cap) := by rw [hcz _ _ (by simp <;> omega)]; simp [go_sem]
  have t0 : w1.cell? ⟨w.heap.size + 1, 0, none⟩ = some (.int .i64 (T k).id) := by rw [hcz _ _ (by simp <;> omega)]; simp [go_sem]
  have t1 : w1.cell? ⟨w.heap.size + 1, 1, none⟩ = some (.int .i64 (T k).am) := by rw [hcz _ _ (by simp <;> omega)]; simp [go_sem]
  have t2 : w1.cell? ⟨w.heap.size + 1, 2, none⟩ = some (.int .i64 (T k).st) := by rw [hcz _ _ (by simp <;> omega)]; simp [go_sem]
  have t3 : w1.cell? ⟨w.heap.size + 1, 3, none⟩ = some (.int .i64 (T k).dn) := by rw [hcz _ _ (by simp <;> omega)]; simp [go_sem]
  have t4 : w1.cell? ⟨w.heap.size + 1, 4, none⟩ = some (.slice ai (T k).n ci) := by rw [hcz _ _ (by simp <;> omega)]; simp [go_sem]
  have HB1 : Hid (Below w.heap.size w w1) := below_then (hb0 _ _) hb1
  have HUN1 : Hid (UndsAt w1 ai (T k).n (T k).U) := HUN.out.below HB1.out
  have HCC1 : Hid (∀ i, i < p → w1.cell? ⟨bb, off + i * 5, none⟩ = some (.int .i64 (T i).id)) := fun i hi => cell_below (HCC.out i hi) HB1.out
  clear hcz hb1 hb0 y0 y1 y2 y3 y4 HUN HCC HN
  obtain ht | ht := bool_or2 (tIn nx ck (T k))
  case inr =>
    have HE : Hid (C = 3) := hC.symm.trans (tF_3i ht)
    rw [ht]
    clear hC
    go_wp2_with fail
    go_ret
    exact ⟨ret_int HE.out.symm, HB1.out⟩
  rw [ht]
  have HT : Hid (tIn nx ck (T k) = true) := ht
  have HC : Hid (tF nx ck T k = C) := hC
  clear ht hC
  generalize hEB : w.heap.size = EB at *
  generalize hTB : EB + 1 = TB at *
  go_upto_region 4 with fail
  go_cut [36] (fun cc wx => cc = .bool (tB1 T k || (tB2 (T k) || tB3 (T k))) ∧ Hid (Below w1.heap.size w1 wx))
  case first =>
    clear HC HT HSK HUN1
    rcases tB1_first (T := T) (k := k) with ⟨j, rfl, e1⟩ | ⟨hd, e1⟩
    · have y3 := HCC1.out j (by omega)
      have hj1 : (j : Int) < (p : Int) := by omega
      have hj2 : j < p := by omega
      have hj8 : (j : Int) + 1 < (p : Int) := by omega
      have hj7 : (0 : Int) ≤ (j : Int) + 1 := by omega
      have hwj : IntKind.i64.wrap (j : Int) = (j : Int) := by rw [IntKind.wrap_i64]; omega
      have hj9 : (0 : Int) < (j : Int) + 1 := by omega
      obtain hx1 | hx1 := bool_or2 (decide ((T (j + 1)).id ≤ (T j).id))
      · have HV : Hid ((tB1 T (j + 1) || (tB2 (T (j + 1)) || tB3 (T (j + 1)))) = true) := by show _ = _; rw [e1, hx1]; rfl
        clear e1
        go_quiet (fail)
        go_wp2_with fail
        go_meet
        refine ⟨by rw [HV.out], below_drewN (Below.refl _ _) _⟩
      · have HV : Hid ((tB1 T (j + 1) || (tB2 (T (j + 1)) || tB3 (T (j + 1)))) = (tB2 (T (j + 1)) || tB3 (T (j + 1)))) := by show _ = _; rw [e1, hx1]; rfl
        clear e1
        have hb0 : Below w1.heap.size w1 w1.drew := (Below.refl _ _).drew
        go_region_held3 (fun w' => Below w1.heap.size w1 w' ∧ w'.cell? ⟨TB, 0, none⟩ = some (.int .i64 (T (j + 1)).id) ∧ w'.cell? ⟨TB, 1, none⟩ = some (.int .i64 (T (j + 1)).am) ∧ w'.cell? ⟨TB, 2, none⟩ = some (.int .i64 (T (j + 1)).st) ∧ w'.cell? ⟨TB, 3, none⟩ = some (.int .i64 (T (j + 1)).dn) ∧ w'.cell? ⟨TB, 4, none⟩ = some (.slice ai (T (j + 1)).n ci) ∧ w'.cell? ⟨EB, 2, none⟩ = some (.slice (some ⟨bb, off, none⟩) p cap) ∧ w'.cell? ⟨bb, off + j * 5, none⟩ = some (.int .i64 (T j).id)) (go_keep)
          (first | (go_at_call 111; refine (txnHasForm_any ai ci (T (j + 1)) _).mono ?_; rintro e wq ⟨rfl, hbq⟩; have hU := below_then (w := w1) (by simp [*]) hbq; have hU0 := cell_below (B := TB) (o := 0) (v := .int .i64 (T (j + 1)).id) (by simp [*]) hbq; have hU1 := cell_below (B := TB) (o := 1) (v := .int .i64 (T (j + 1)).am) (by simp [*]) hbq; have hU2 := cell_below (B := TB) (o := 2) (v := .int .i64 (T (j + 1)).st) (by simp [*]) hbq; have hU3 := cell_below (B := TB) (o := 3) (v := .int .i64 (T (j + 1)).dn) (by simp [*]) hbq; have hU4 := cell_below (B := TB) (o := 4) (v := .slice ai (T (j + 1)).n ci) (by simp [*]) hbq; have hU5 := cell_below (B := EB) (o := 2) (v := .slice (some ⟨bb, off, none⟩) p cap) (by simp [*]) hbq; have hU6 := cell_below (B := bb) (o := off + j * 5) (v := .int .i64 (T j).id) (by simp [*]) hbq))
        go_wp2_with fail
        go_meet
        refine ⟨?_, by assumption⟩
        rw [HV.out]
        try simp
    · have HV : Hid ((tB1 T k || (tB2 (T k) || tB3 (T k))) = (tB2 (T k) || tB3 (T k))) := by show _ = _; rw [e1]; rfl
      clear e1
      refine wp_region_any (by kernel_rfl) ?_
      change wpAny _ _ _ _ _ _ _ (World.drew _)
      refine wpAny_take (i := 0) (v := .int .i64 (k : Int)) rfl (by kernel_rfl) (by kernel_rfl) (by kernel_rfl) (fun _ _ _ h => h) (Or.inl ⟨by kernel_rfl, by intro w; go_simp⟩) ?_
      refine wpAny_take (i := 1) (v := .bool false) rfl (by kernel_rfl) (by kernel_rfl) (by kernel_rfl) (fun _ _ _ h => h) (Or.inl ⟨by kernel_rfl, by intro w; go_simp⟩) ?_
      refine wpAny_take (i := 2) (v := .bool false) rfl (by kernel_rfl) (by kernel_rfl) (by kernel_rfl) (fun _ _ _ h => h) (Or.inl ⟨by kernel_rfl, by intro w; go_simp⟩) ?_
      refine any_skip 3 (some 21) (by kernel_rfl) (by kernel_rfl) (by kernel_rfl) (by kernel_rfl) (by kernel_rfl) (fun _ _ _ h => h) ?_
      refine any_skip 4 (some 22) (by kernel_rfl) (by kernel_rfl) (by kernel_rfl) (by kernel_rfl) (by kernel_rfl) (fun _ _ _ h => h) ?_
      refine any_skip 5 (some 23) (by kernel_rfl) (by kernel_rfl) (by kernel_rfl) (by kernel_rfl) (by kernel_rfl) (fun _ _ _ h => h) ?_
      refine any_skip 6 (some 24) (by kernel_rfl) (by kernel_rfl) (by kernel_rfl) (by kernel_rfl) (by kernel_rfl) (fun _ _ _ h => h) ?_
      refine any_skip 7 (some 25) (by kernel_rfl) (by kernel_rfl) (by kernel_rfl) (by kernel_rfl) (by kernel_rfl) (fun _ _ _ h => h) ?_
      refine any_skip 8 (some 26) (by kernel_rfl) (by kernel_rfl) (by kernel_rfl) (by kernel_rfl) (by kernel_rfl) (fun _ _ _ h => h) ?_
      refine any_skip 9 (some 27) (by kernel_rfl) (by kernel_rfl) (by kernel_rfl) (by kernel_rfl) (by kernel_rfl) (fun _ _ _ h => h) ?_
      refine any_skip 10 (some 28) (by kernel_rfl) (by kernel_rfl) (by kernel_rfl) (by kernel_rfl) (by kernel_rfl) (fun _ _ _ h => h) ?_
      refine any_skip 11 (some 29) (by kernel_rfl) (by kernel_rfl) (by kernel_rfl) (by kernel_rfl) (by kernel_rfl) (fun _ _ _ h => h) ?_
      refine any_skip 12 (some 30) (by kernel_rfl) (by kernel_rfl) (by kernel_rfl) (by kernel_rfl) (by kernel_rfl) (fun _ _ _ h => h) ?_
      refine wpAny_take (i := 13) (v := .bool false) rfl (by kernel_rfl) (by kernel_rfl) (by kernel_rfl) (fun _ _ _ h => h) (Or.inl ⟨by kernel_rfl, by intro w; go_simp⟩) ?_
      refine wpAny_take (i := 14) (v := .bool false) rfl (by kernel_rfl) (by kernel_rfl) (by kernel_rfl) (fun _ _ _ h => h) (Or.inl ⟨by kernel_rfl, by intro w; go_simp⟩) ?_
      refine wpAny_ready (rs := [15]) (by kernel_rfl) (by simp) ?_
      refine AllReady.cons rfl (fun K hK => ?_) AllReady.nil
      go_simp
      refine hK _ _ ?_
      clear hK K
      refine wpAny_ready (rs := [16]) (by kernel_rfl) (by simp) ?_
      refine AllReady.cons rfl (fun K hK => ?_) AllReady.nil
      go_simp
      go_at_call 111
      refine (txnHasForm_any ai ci (T k) _).mono ?_
      rintro e w2 ⟨rfl, hb2⟩
      have HBW : Hid (Below w1.heap.size w1 w2) := drewB6 hb2
      go_simp
      refine hK _ _ ?_
      clear hK K
      refine wpAny_take (i := 17) (v := .bool (tB2 (T k) || tB3 (T k))) rfl (by kernel_rfl) (by kernel_rfl) (by kernel_rfl) (fun _ _ _ h => h) (Or.inl ⟨by kernel_rfl, by intro w; go_simp⟩) ?_
      refine wpAny_take (i := 18) (v := .bool (tB2 (T k) || tB3 (T k))) rfl (by kernel_rfl) (by kernel_rfl) (by kernel_rfl) (fun _ _ _ h => h) (Or.inl ⟨by kernel_rfl, by intro w; go_simp⟩) ?_
      refine wpAny_done (by kernel_rfl) ?_ _
      go_simp
      go_wp2_with fail
      go_meet
      refine ⟨by rw [HV.out], HBW⟩
  case rest =>
    obtain ⟨rfl, HBX⟩ := hcut
    have HBX1 : Below EB w w1 := HB1.out
    have hsz1 : EB ≤ w1.heap.size := by have := HBX1.size; omega
    have HB2 : Hid (Below w.heap.size w wc) := by show Below w.heap.size w wc; rw [hEB]; exact HBX1.trans (HBX.out.mono hsz1)
    clear HBX1 hEB hTB
    have hsz2 : EB ≤ wc.heap.size := Nat.le_trans hsz1 HBX.out.size
    have HUN2 : Hid (UndsAt wc ai (T k).n (T k).U) := HUN1.out.below HBX.out
    replace t4 := cell_below t4 HBX.out
    clear t0 t1 t2 t3 e2 HCC1 HUN1 HBX HB1 hl
    obtain hb | hb := bool_or2 (tB1 T k || (tB2 (T k) || tB3 (T k)))
    · have HE : Hid (C = 1) := HC.out.symm.trans (tF_1i HT.out hb)
      rw [hb]
      clear HC HT hb
      go_wp2_with fail
      go_ret
      exact ⟨ret_int HE.out.symm, HB2.out⟩
    have HE0 : Hid (C = usF (T k).n (T k).U) := HC.out.symm.trans (tF_ui HT.out hb)
    rw [hb]
    clear HC HT hb
    by_cases h60 : 60 < (T k).n
    · have HE : Hid (C = 2) := HE0.out.trans (if_pos h60)
      have h6 : (60 : Int) < ((T k).n : Int) := by omega
      clear HE0
      go_wp2_with fail
      go_ret
      exact ⟨ret_int HE.out.symm, HB2.out⟩
    have HE1 : Hid (C = ffz (fun j => uF ((T k).U j)) (T k).n 0) := HE0.out.trans (if_neg h60)
    have h6 : ¬ ((60 : Int) < ((T k).n : Int)) := by omega
    clear HE0
    generalize hTT : T k = t at *
    go_wp2_with fail
    clear t4
    go_loopw [7, 8, 44] (fun _ _ i wr => ∃ d : Nat, d ≤ t.n ∧ i = .int .i64 d ∧ Hid (C = ffz (fun j => uF (t.U j)) (t.n - d) d) ∧ Hid (Below wc.heap.size wc wr)) (fun _ _ i _ => t.n - (intOf i).toNat)
    case atStart => exact ⟨0, Nat.zero_le _, rfl, HE1, Below.refl _ _⟩
    case round =>
      obtain ⟨d, hd, rfl, HC, HB⟩ := hrel
      by_cases hdl : d < t.n
      · have hdl' : (d : Int) < (t.n : Int) := by omega
        have hd0 : (0 : Int) ≤ (d : Int) := by omega
        rcases HUN2.out.below HB.out with h | ⟨ub, uo, rfl, hul, huc⟩
        · omega
        obtain ⟨u0, u1, u2, u3⟩ := huc d hdl
        have HF0 : Hid (C = _) := HC.out.trans (ffz_at _ hdl)
        clear huc HC HE1
        go_wp2_with fail
        refine (undoFault_any (t.U d) _).mono ?_
        rintro e w5 ⟨rfl, hb5⟩
        have HB5 : Hid (Below wc.heap.size wc w5) := below_then HB.out (below_then (below_new _ _) hb5)
        clear hb5 u0 u1 u2 u3
        by_cases hu : uF (t.U d) = 0
        · have HE : Hid (C = ffz (fun j => uF (t.U j)) (t.n - (d + 1)) (d + 1)) := by
            have h := HF0.out
            rw [if_pos hu] at h
            exact h
          rw [hu]
          clear HF0 hu
          go_wp2_with fail
          go_roundw
          case rel => exact ⟨d + 1, hdl, by go_num, HE, HB5⟩
          case measure => simp [intOf]; omega
        · have HE : Hid (C = uF (t.U d)) := by
            have h := HF0.out
            rw [if_neg hu] at h
            exact h
          have hu2 : (uF (t.U d) != 0) = true := by simp [hu]
          clear HF0 hu
          generalize uF (t.U d) = uu at *
          go_wp2_with fail
          go_ret
          exact ⟨ret_int HE.out.symm, below_then HB2.out HB5.out⟩
      · have HE : Hid (C = 0) := by
          have h := HC.out
          rw [show t.n - d = 0 by omega] at h
          exact h
        have hnl : ¬ ((d : Int) < (t.n : Int)) := by omega
        have HBF : Hid (Below w.heap.size w wr) := below_then HB2.out HB.out
        clear HC HE1
        go_wp2_with fail
        go_ret
        exact ⟨ret_int HE.out.symm, HBF.out⟩
end Go.Proofs.YtabkgncnanlapaaGreat
