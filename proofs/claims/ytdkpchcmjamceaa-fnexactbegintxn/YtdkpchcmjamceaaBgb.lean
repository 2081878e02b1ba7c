/- spec.BeginTxn. -/
import Derived.Test.YtdkpchcmjamceaaBga
import Derived.Test.YtdkpchcmjamceaaCb
import Derived.Test.YtdkpchcmjamceaaNb
namespace Go.Proofs.Ytdkpchcmjamceaa
open Go.RowKit Go.Deep
set_option linter.unusedVariables false
set_option maxRecDepth 20000

set_option maxHeartbeats 16000000 in
theorem specBt_any (E : En) (a : Option Addr) (cap : Nat) (a' : Option Addr) (cap' : Nat) (w : World) (hs : SmallE E) (h : EngAt w a a' E) :
    Calls Try.prog 37 #[.agg #[.int .i64 E.nx, .int .i64 E.ck, .slice a E.p cap, .slice a' E.q cap']] w (ERes2 (btC E) (btV E) (btE E) w) := by
  have HXA : Hid (EngAt w a a' E) := h
  have HS : Hid (SmallE E) := hs
  clear h hs
  have HBX : Hid (∀ o1 o2 : Obj, o1 = .cells #[.int .i64 E.nx, .int .i64 E.ck, .slice a E.p cap, .slice a' E.q cap'] 47 → o2 = .cells #[.int .i64 0, .int .i64 0, .int .i64 0, .int .i64 0, .slice none 0 0, .slice none 0 0] 54 →
      Box4 ((w.alloc o1).alloc o2) w.heap.size (.int .i64 E.nx) (.int .i64 E.ck) (.slice a E.p cap) (.slice a' E.q cap') ∧ Box6 ((w.alloc o1).alloc o2) (w.heap.size + 1) (.int .i64 0) (.int .i64 0) (.int .i64 0) (.int .i64 0) (.slice none 0 0) (.slice none 0 0) ∧ (∀ i, ((w.alloc o1).alloc o2).frozen? ⟨w.heap.size + 1, i, none⟩ = false) ∧ Below w.heap.size w ((w.alloc o1).alloc o2) ∧ ((w.alloc o1).alloc o2).heap.size = w.heap.size + 2) := by
    rintro o1 o2 rfl rfl
    exact ⟨(Box4.new w _ _ _ _ _).alloc _, by simp [Box6, go_sem], fun i => by simp [go_sem], ((Below.refl _ _).alloc (Nat.le_refl _) _).alloc (by simp) _, by simp⟩
  go_enter Try.func37, Try.ntmps37
  go_wp2_with fail
  obtain ⟨hb4, hb2, hbf, hbw, hbs⟩ := HBX.out _ _ rfl rfl
  refine (l6Fault_any E w.heap.size a cap a' cap' _ HS.out ⟨hb4, HXA.out.below hbw⟩).mono ?_
  rintro e W ⟨rfl, hb1⟩
  have HB4 : Hid (Box4 W w.heap.size (.int .i64 E.nx) (.int .i64 E.ck) (.slice a E.p cap) (.slice a' E.q cap')) := hb4.below hb1
  have HR6 : Hid (Box6 W (w.heap.size + 1) (.int .i64 0) (.int .i64 0) (.int .i64 0) (.int .i64 0) (.slice none 0 0) (.slice none 0 0)) := hb2.below hb1
  have HRF : Hid (∀ i, W.frozen? ⟨w.heap.size + 1, i, none⟩ = false) := fun i => ((bcell2 hb1).2 _ _ (by rw [hbs]; omega)).trans (hbf i)
  have HBW : Hid (Below w.heap.size w W) := below_then hbw hb1
  have hs1 : w.heap.size + 2 ≤ W.heap.size := by have := hb1.size; rw [hbs] at this; exact this
  clear hb1 hb4 hb2 hbf hbw hbs HBX
  by_cases hc : eF E = 0
  case neg =>
    have HF : Hid (∀ w7, Below w.heap.size w w7 → ERes2 (btC E) (btV E) (btE E) w (.returned (.agg #[.int .i64 (eF E), .int .i64 0, .int .i64 0, .int .i64 0, .slice none 0 0, .slice none 0 0])) w7) := fun w7 hb => by
      rw [(bt_bad hc).1, (bt_bad hc).2.1, (bt_bad hc).2.2]; exact (eres_bad hb).to2
    have hc2 : (eF E != 0) = true := by simp [hc]
    clear hc
    generalize eF E = uu at *
    go_wp2_with fail
    refine (l6Bad_any uu _).mono ?_
    rintro e w9 ⟨rfl, hb9⟩
    have HB9 : Hid (Below w.heap.size w w9) := below_then HBW.out hb9
    obtain ⟨r0, r1, r2, r3, r4, r5⟩ := HR6.out.below hb9
    have rf : ∀ i, w9.frozen? ⟨w.heap.size + 1, i, none⟩ = false := fun i => ((bcell2 hb9).2 _ _ (by omega)).trans (HRF.out i)
    clear hb9
    go_wp2_with fail
    refine bodyPost_ret (v := .agg #[.int .i64 uu, .int .i64 0, .int .i64 0, .int .i64 0, .slice none 0 0, .slice none 0 0]) (by simp [results, Try.results37, go_sem, *]) rfl ?_
    refine HF.out _ ?_
    repeat (first | with_reducible exact HB9.out | with_reducible refine Below.setCell ?_ (by first | omega | (simp <;> omega)) _)
  have HEX : Hid (EngAt W a a' E) := HXA.out.below HBW.out
  have h32 := (eF_pq hc).2
  have hp20 := (eF_pq hc).1
  have HU60 : Hid (∀ i, i < E.p → (E.T i).n ≤ 60) := undos60 hc
  have HR12 : Hid (∀ i, i < E.q → (E.R i).n ≤ 12) := rows12 hc
  have hnx := (eF_good hc).1
  have HHC : Hid (eF E = 0) := hc
  obtain ⟨b0, b1, b2, b3⟩ := HB4.out
  rw [hc]
  clear hc
  by_cases hfull : E.p = 20 ∨ E.nx = 999
  · have HF : Hid (∀ w7, Below w.heap.size w w7 → ERes2 (btC E) (btV E) (btE E) w (.returned (.agg #[.int .i64 2, .int .i64 0, .int .i64 0, .int .i64 0, .slice none 0 0, .slice none 0 0])) w7) := fun w7 hb => by
      have e := bt_full HHC.out hfull
      rw [e.1, e.2.1, e.2.2]; exact (eres_bad hb).to2
    by_cases hp : E.p = 20
    · have hp1 : (20 : Int) ≤ (E.p : Int) := by omega
      clear hfull
      go_wp2_with fail
      refine (l6Bad_any 2 _).mono ?_
      rintro e w9 ⟨rfl, hb9⟩
      have HB9 : Hid (Below w.heap.size w w9) := below_then HBW.out hb9
      obtain ⟨r0, r1, r2, r3, r4, r5⟩ := HR6.out.below hb9
      have rf : ∀ i, w9.frozen? ⟨w.heap.size + 1, i, none⟩ = false := fun i => ((bcell2 hb9).2 _ _ (by omega)).trans (HRF.out i)
      clear hb9
      go_wp2_with fail
      refine bodyPost_ret (v := .agg #[.int .i64 2, .int .i64 0, .int .i64 0, .int .i64 0, .slice none 0 0, .slice none 0 0]) (by simp [results, Try.results37, go_sem, *]) rfl ?_
      refine HF.out _ ?_
      repeat (first | with_reducible exact HB9.out | with_reducible refine Below.setCell ?_ (by first | omega | (simp <;> omega)) _)
    · have hp1 : ¬ ((20 : Int) ≤ (E.p : Int)) := by omega
      have hp2 : (E.nx == 999) = true := by simp; omega
      clear hfull
      go_wp2_with fail
      refine (l6Bad_any 2 _).mono ?_
      rintro e w9 ⟨rfl, hb9⟩
      have HB9 : Hid (Below w.heap.size w w9) := below_then HBW.out hb9
      obtain ⟨r0, r1, r2, r3, r4, r5⟩ := HR6.out.below hb9
      have rf : ∀ i, w9.frozen? ⟨w.heap.size + 1, i, none⟩ = false := fun i => ((bcell2 hb9).2 _ _ (by omega)).trans (HRF.out i)
      clear hb9
      go_wp2_with fail
      refine bodyPost_ret (v := .agg #[.int .i64 2, .int .i64 0, .int .i64 0, .int .i64 0, .slice none 0 0, .slice none 0 0]) (by simp [results, Try.results37, go_sem, *]) rfl ?_
      refine HF.out _ ?_
      repeat (first | with_reducible exact HB9.out | with_reducible refine Below.setCell ?_ (by first | omega | (simp <;> omega)) _)
  have hp1 : ¬ ((20 : Int) ≤ (E.p : Int)) := by omega
  have hp2 : (E.nx == 999) = false := by simp; omega
  have HE : Hid (btC E = 0 ∧ btV E = E.nx ∧ btE E = btG E) := bt_ok HHC.out hfull
  have hwrap : IntKind.i64.wrap (E.nx + 1) = E.nx + 1 := by rw [IntKind.wrap_i64]; omega
  clear hfull
  go_wp2_with fail
  refine (l6Copy_any E _ cap a' cap' W hp20 h32 HU60.out HR12.out HEX.out).mono ?_
  rintro e w2 ⟨v, v', b0', M, rfl, hb2, hb0, hM, hgt, hgr⟩
  obtain ⟨va, vc, rfl, -, hOT⟩ := hgt.own
  obtain ⟨va', vc', rfl, -, hOR⟩ := hgr.own
  have hMz : M ≤ w2.heap.size := hOT.1
  have hs2 := hb2.size
  have HW4 : Hid (∀ o3 o4 : Obj, o3 = .cells #[.int .i64 E.nx, .int .i64 E.ck, .slice va E.p vc, .slice va' E.q vc'] 47 → o4 = .cells #[.int .i64 E.nx, .int .i64 E.ck, .int .i64 1, .int .i64 0, .slice none 0 0] 107 → Below W.heap.size W ((w2.alloc o3).alloc o4) ∧ ((w2.alloc o3).alloc o4).heap.size = w2.heap.size + 2 ∧ GrTx b0' M ((w2.alloc o3).alloc o4) (.slice va E.p vc) E.p E.T ∧ OwnRw ((w2.alloc o3).alloc o4) M w2.heap.size va' E.q E.R ∧ Box4 ((w2.alloc o3).alloc o4) w2.heap.size (.int .i64 E.nx) (.int .i64 E.ck) (.slice va E.p vc) (.slice va' E.q vc') ∧ (∀ i, ((w2.alloc o3).alloc o4).frozen? ⟨w2.heap.size, i, none⟩ = false) ∧ CTx ((w2.alloc o3).alloc o4) (w2.heap.size + 1) 0 (newTx E) none 0) := by
    rintro o3 o4 rfl rfl
    exact ⟨below_then (below_then hb2 (below_new _ _)) (below_new _ _), by simp, (hgt.below (below_new _ _)).below (below_new _ _), (hOR.below (below_new _ _)).below (below_new _ _), (Box4.new _ _ _ _ _ _).alloc _, fun i => by simp [go_sem], lit_tx (newTx E) (by simp)⟩
  have d0 := fun o : Obj => cell_alloc (cell_below b0 hb2) o
  have d1 := fun o : Obj => cell_alloc (cell_below b1 hb2) o
  clear hb2 hgt hgr hOT hOR
  go_wp2_with (at_builtin; refine wpList_grTxP _ rfl (.tmp 23) (.tmp 29) rfl b0' M (.slice va E.p vc) E.p E.T rfl (HW4.out _ _ rfl rfl).2.2.1 (w2.heap.size + 1) 0 1 (newTx E) none 0 rfl (HW4.out _ _ rfl rfl).2.2.2.2.2.2 hM rfl (by omega) ?_)
  intro g gc w5 hO5 hg5 hq5
  obtain ⟨k1, k2, -, k4, k5, k6, -⟩ := HW4.out _ _ rfl rfl
  have hw5 := grown_writes2 hg5 hq5
  have HB5 : Hid (Below W.heap.size W w5) := Writes.below k1 hw5 hb0
  have hz5 : w2.heap.size + 2 ≤ w5.heap.size := by have := hw5.size; rw [k2] at this; exact this
  have HR5 : Hid (OwnRw w5 M w2.heap.size va' E.q E.R) := k4.writes hw5 (.inr (Nat.le_refl _))
  have HO5 : Hid (OwnTxP w5 (fun x => (b0' ≤ x ∧ x < M) ∨ (w2.heap.size + 2 ≤ x ∧ x < w5.heap.size)) (some ⟨g, 0, none⟩) (E.p + 1) (upf E.T E.p (newTx E))) := hO5
  have c5 := k5.writes hw5 (.inr hMz)
  have cf : ∀ i, w5.frozen? ⟨w2.heap.size, i, none⟩ = false := fun i => (World.frozen?_of_block (a := ⟨w2.heap.size, i, none⟩) (hw5.block w2.heap.size (by rw [k2]; omega) (.inr hMz))).trans (k6 i)
  obtain ⟨c0, c1, c2, c3⟩ := c5
  clear k1 k2 k4 k5 k6 hw5 hO5 hg5 hq5 HW4 b0 b1 b2 b3 d0 d1
  obtain ⟨b0, b1, b2, b3⟩ := HB4.out.below HB5.out
  obtain ⟨S, hS⟩ : ∃ x, x = (w5.setCell ⟨w2.heap.size, 2, none⟩ (.slice (some ⟨g, 0, none⟩) (E.p + 1) gc)).setCell ⟨w2.heap.size, 0, none⟩ (.int .i64 (E.nx + 1)) := ⟨_, rfl⟩
  have hwS : Writes w2.heap.size (w2.heap.size + 1) w5 S := by
    rw [hS]
    exact Writes.setCell (Writes.setCell (Writes.refl _ _ _) (p := ⟨w2.heap.size, 2, none⟩) (Nat.le_refl _) (Nat.lt_succ_self _) _) (p := ⟨w2.heap.size, 0, none⟩) (Nat.le_refl _) (Nat.lt_succ_self _) _
  have hzS : S.heap.size = w5.heap.size := by rw [hS]; simp [World.setCell]
  have HBS : Hid (Below W.heap.size W S) := Writes.below HB5.out hwS hs2
  have HRS : Hid (OwnRw S M w2.heap.size va' (btG E).q (btG E).R) := HR5.out.writes hwS (.inl (Nat.le_refl _))
  have HOS : Hid (OwnTxP S (fun x => (b0' ≤ x ∧ x < M) ∨ (w2.heap.size + 2 ≤ x ∧ x < w5.heap.size)) (some ⟨g, 0, none⟩) (btG E).p (btG E).T) := HO5.out.writes hwS fun x hx => by omega
  have HCS : Hid (Box4 S w2.heap.size (.int .i64 (E.nx + 1)) (.int .i64 E.ck) (.slice (some ⟨g, 0, none⟩) (E.p + 1) gc) (.slice va' E.q vc')) := by
    rw [hS]
    exact ⟨setS ((setO (by omega)).trans c0), (setO (by omega)).trans ((setO (by omega)).trans c1), (setO (by omega)).trans (setS c2), (setO (by omega)).trans ((setO (by omega)).trans c3)⟩
  go_upto_region 9 with fail
  rw [← hS]
  clear hS hwS c0 c1 c2 c3 cf HO5 HR5 HB5 b0 b1 b2 b3
  obtain ⟨c0, c1, c2, c3⟩ := HCS.out
  obtain ⟨b0, b1, b2, b3⟩ := HB4.out.below HBS.out
  obtain ⟨r0, r1, r2, r3, r4, r5⟩ := HR6.out.below HBS.out
  have rf : ∀ i, S.frozen? ⟨w.heap.size + 1, i, none⟩ = false := fun i => ((bcell2 HBS.out).2 _ _ (by omega)).trans (HRF.out i)
  have HF : Hid (∀ w7, Writes (w.heap.size + 1) (w.heap.size + 2) S w7 → w7.heap.size = S.heap.size → ERes2 (btC E) (btV E) (btE E) w (.returned (.agg #[.int .i64 0, .int .i64 E.nx, .int .i64 (E.nx + 1), .int .i64 E.ck, .slice (some ⟨g, 0, none⟩) (E.p + 1) gc, .slice va' E.q vc'])) w7) := fun w7 hw hs7 => by
    rw [HE.out.1, HE.out.2.1, HE.out.2.2]
    exact eres_own2 (E' := btG E) (Z := w2.heap.size + 2) (Y := w5.heap.size) (below_then HBW.out HBS.out) (by omega) (by omega) hM hMz (by omega) (by omega) (by omega) (by omega) HOS.out HRS.out hw hs7
  clear HOS HRS HCS
  go_wp2_with fail
  refine bodyPost_ret (v := .agg #[.int .i64 0, .int .i64 E.nx, .int .i64 (E.nx + 1), .int .i64 E.ck, .slice (some ⟨g, 0, none⟩) (E.p + 1) gc, .slice va' E.q vc']) (by simp [results, Try.results37, go_sem, *]) rfl ?_
  refine HF.out _ ?_ (by simp [World.setCell])
  repeat (first | with_reducible exact Writes.refl _ _ _ | with_reducible refine Writes.setCell ?_ (by first | omega | (simp <;> omega)) (by first | omega | (simp <;> omega)) _)
theorem smf_few2 (f : Nat → Nat) (c : Nat) : ∀ n, (∀ i, i < n → f i ≤ c) → smf f n ≤ n * c
  | 0, _ => by simp [smf]
  | n + 1, h => by
    have h1 := smf_few2 f c n fun i hi => h i (by omega)
    have h2 := h n (by omega)
    show smf f n + f n ≤ (n + 1) * c
    rw [Nat.succ_mul]
    omega
theorem small_few2 {E : En} (h1 : E.p ≤ 21) (h2 : E.q ≤ 32) (h3 : ∀ i, i < E.p → (E.T i).n ≤ 60) (h4 : ∀ i, i < E.q → (E.R i).n ≤ 12) : SmallE E := by
  have g1 := smf_few2 (fun i => (E.T i).n) 60 E.p h3
  have g2 := smf_few2 (fun i => (E.R i).n) 12 E.q h4
  exact ⟨by omega, by omega, fun i hi => by have := h3 i hi; omega, fun i hi => by have := h4 i hi; omega, by unfold smTx; omega, by unfold smRw; omega⟩
theorem bt_small (E : En) : SmallE (btE E) := by
  unfold btE
  split
  · rename_i h
    have h0 : eF E = 0 := by
      by_cases e : eF E = 0
      · exact e
      · rw [(bt_bad e).1] at h; exact h
    have b1 := eF_pq h0
    refine small_few2 (by show E.p + 1 ≤ 21; omega) b1.2 (fun i hi => ?_) (fun i hi => rows12 h0 i hi)
    show (upf E.T E.p (newTx E) i).n ≤ 60
    by_cases e : i = E.p
    · subst e; rw [upf_eq]; show 0 ≤ 60; omega
    · rw [upf_ne _ _ e]
      have hi' : i < E.p + 1 := hi
      exact undos60 h0 i (by omega)
  · exact small_few2 (by show 0 ≤ 21; omega) (by show 0 ≤ 32; omega) (fun i hi => by simp [zEn] at hi) (fun i hi => by simp [zEn] at hi)
end Go.Proofs.Ytdkpchcmjamceaa
