/- spec.RollTo, spec.AbortTxn. -/
import Derived.Test.YtabkgncnanlapaaGreatQRle
import Derived.Test.YtabkgncnanlapaaGreatQRld
import Derived.Test.YtabkgncnanlapaaGreatQCb
import Derived.Test.YtabkgncnanlapaaGreatQNb
namespace Go.Proofs.YtabkgncnanlapaaGreat
open Go.RowKit Go.Deep
set_option linter.unusedVariables false
set_option linter.unusedSimpArgs false
set_option maxRecDepth 20000

set_option maxHeartbeats 16000000 in
theorem specRt_any (E : En) (a : Option Addr) (cap : Nat) (a' : Option Addr) (cap' : Nat) (id save : Int) (w : World) (hs : SmallE E) (h : EngAt w a a' E) :
    Calls Tryz.prog 16 #[.agg #[.int .i64 E.nx, .int .i64 E.ck, .slice a E.p cap, .slice a' E.q cap'], .int .i64 id, .int .i64 save] w (ERes2 (rtC E id save) (rtV E id save) (rtE E id save) w) := by
  have HXA : Hid (EngAt w a a' E) := h
  have HS : Hid (SmallE E) := hs
  clear h hs
  have HBX : Hid (∀ o1 o2 : Obj, o1 = .cells #[.int .i64 E.nx, .int .i64 E.ck, .slice a E.p cap, .slice a' E.q cap'] 30 → o2 = .cells #[.int .i64 0, .int .i64 0, .int .i64 0, .int .i64 0, .slice none 0 0, .slice none 0 0] 32 →
      Box4 ((w.alloc o1).alloc o2) w.heap.size (.int .i64 E.nx) (.int .i64 E.ck) (.slice a E.p cap) (.slice a' E.q cap') ∧ Box6 ((w.alloc o1).alloc o2) (w.heap.size + 1) (.int .i64 0) (.int .i64 0) (.int .i64 0) (.int .i64 0) (.slice none 0 0) (.slice none 0 0) ∧ (∀ i, ((w.alloc o1).alloc o2).frozen? ⟨w.heap.size + 1, i, none⟩ = false) ∧ Below w.heap.size w ((w.alloc o1).alloc o2) ∧ ((w.alloc o1).alloc o2).heap.size = w.heap.size + 2) := by
    rintro o1 o2 rfl rfl
    exact ⟨(Box4.new w _ _ _ _ _).alloc _, by simp [Box6, go_sem], fun i => by simp [go_sem], ((Below.refl _ _).alloc (Nat.le_refl _) _).alloc (by simp) _, by simp⟩
  go_enter Tryz.func16, Tryz.ntmps16
  go_wp2_with fail
  obtain ⟨hb4, hb2, hbf, hbw, hbs⟩ := HBX.out _ _ rfl rfl
  refine (l6Asked_any E w.heap.size a cap a' cap' id _ HS.out ⟨hb4, HXA.out.below hbw⟩).mono ?_
  rintro e W ⟨rfl, hb1⟩
  have HB4 : Hid (Box4 W w.heap.size (.int .i64 E.nx) (.int .i64 E.ck) (.slice a E.p cap) (.slice a' E.q cap')) := hb4.below hb1
  have HR6 : Hid (Box6 W (w.heap.size + 1) (.int .i64 0) (.int .i64 0) (.int .i64 0) (.int .i64 0) (.slice none 0 0) (.slice none 0 0)) := hb2.below hb1
  have HRF : Hid (∀ i, W.frozen? ⟨w.heap.size + 1, i, none⟩ = false) := fun i => ((bcell2 hb1).2 _ _ (by rw [hbs]; omega)).trans (hbf i)
  have HBW : Hid (Below w.heap.size w W) := below_then hbw hb1
  have hs1 : w.heap.size + 2 ≤ W.heap.size := by have := hb1.size; rw [hbs] at this; exact this
  clear hb1 hb4 hb2 hbf hbw hbs HBX
  by_cases hc : askC E id = 0
  case neg =>
    have HF : Hid (∀ w7, Below w.heap.size w w7 → ERes2 (rtC E id save) (rtV E id save) (rtE E id save) w (.returned (.agg #[.int .i64 (askC E id), .int .i64 0, .int .i64 0, .int .i64 0, .slice none 0 0, .slice none 0 0])) w7) := fun w7 hb => by
      rw [(rt_bad hc).1, (rt_bad hc).2.1, (rt_bad hc).2.2]; exact eres_bad2 hb
    have hc2 : (askC E id != 0) = true := by simp [hc]
    clear hc
    generalize askC E id = uu at *
    generalize askP E id = up at *
    go_wp2_with fail
    refine (l6Bad_any uu _).mono ?_
    rintro e w9 ⟨rfl, hb9⟩
    have HB9 : Hid (Below w.heap.size w w9) := below_then HBW.out hb9
    obtain ⟨r0, r1, r2, r3, r4, r5⟩ := HR6.out.below hb9
    have rf : ∀ i, w9.frozen? ⟨w.heap.size + 1, i, none⟩ = false := fun i => ((bcell2 hb9).2 _ _ (by omega)).trans (HRF.out i)
    clear hb9
    go_wp2_with fail
    refine bodyPost_ret (v := .agg #[.int .i64 uu, .int .i64 0, .int .i64 0, .int .i64 0, .slice none 0 0, .slice none 0 0]) (by simp [results, Tryz.results16, go_sem, *]) rfl ?_
    refine HF.out _ ?_
    repeat (first | with_reducible exact HB9.out | with_reducible refine Below.setCell ?_ (by first | omega | (simp <;> omega)) _)
  obtain ⟨h0, j, hj, hp, hid⟩ := ask_open hc
  have HEX : Hid (EngAt W a a' E) := HXA.out.below HBW.out
  have hq32 := (eF_pq h0).2
  have hp20 := (eF_pq h0).1
  have HU60 : Hid (∀ i, i < E.p → (E.T i).n ≤ 60) := undos60 h0
  have HR12 : Hid (∀ i, i < E.q → (E.R i).n ≤ 12) := rows12 h0
  have HH0 : Hid (eF E = 0) := h0
  have HHC : Hid (askC E id = 0) := hc
  have HHP : Hid (askP E id = (j : Int)) := hp
  have hn60 := undos60 h0 j hj
  have hj1 : (j : Int) < (E.p : Int) := by omega
  have hj0 : (0 : Int) ≤ (j : Int) := by omega
  obtain ⟨b0, b1, b2, b3⟩ := HB4.out
  rw [hc, hp]
  clear hc hp h0 hid
  rcases HEX.out.1 with h9 | ⟨eb, eo, rfl, hel, hec⟩
  · omega
  obtain ⟨ei, ec, ⟨e0, e1, e2, e3, e4⟩, -, -⟩ := hec j hj
  clear hec
  have HAP : Hid ((E.T (askP E id).toNat).n = (E.T j).n) := by rw [Hid, HHP.out, Int.toNat_natCast]
  obtain hi9 | hi9 := (by cases inB save 0 ((E.T j).n : Int) <;> simp : inB save 0 ((E.T j).n : Int) = true ∨ inB save 0 ((E.T j).n : Int) = false)
  case inr =>
    have HF : Hid (∀ w7, Below w.heap.size w w7 → ERes2 (rtC E id save) (rtV E id save) (rtE E id save) w (.returned (.agg #[.int .i64 3, .int .i64 0, .int .i64 0, .int .i64 0, .slice none 0 0, .slice none 0 0])) w7) := fun w7 hb => by
      have e9 := rt_out (save := save) HHC.out (by rw [HAP.out]; exact hi9)
      rw [e9.1, e9.2.1, e9.2.2]; exact eres_bad2 hb
    go_wp2_with (first | (go_at_call 37; refine (l1In_q2 save 0 ((E.T j).n : Int) _).mono ?_; rintro e w5 ⟨rfl, nq, rfl⟩; rw [hi9]))
    refine (l6Bad_any 3 _).mono ?_
    rintro e w9 ⟨rfl, hb9⟩
    have hbd : Below W.heap.size W w9 := below_then (below_drewN (Below.refl _ _) _) hb9
    have HB9 : Hid (Below w.heap.size w w9) := below_then HBW.out hbd
    obtain ⟨r0, r1, r2, r3, r4, r5⟩ := HR6.out.below hbd
    have rf : ∀ i, w9.frozen? ⟨w.heap.size + 1, i, none⟩ = false := fun i => ((bcell2 hbd).2 _ _ (by omega)).trans (HRF.out i)
    clear hb9 hbd
    go_wp2_with fail
    refine bodyPost_ret (v := .agg #[.int .i64 3, .int .i64 0, .int .i64 0, .int .i64 0, .slice none 0 0, .slice none 0 0]) (by simp [results, Tryz.results16, go_sem, *]) rfl ?_
    refine HF.out _ ?_
    repeat (first | with_reducible exact HB9.out | with_reducible refine Below.setCell ?_ (by first | omega | (simp <;> omega)) _)
  have hsb := inB_iff.1 hi9
  obtain ⟨sv, rfl⟩ : ∃ sv : Nat, save = (sv : Int) := ⟨save.toNat, by omega⟩
  have hsv : sv ≤ (E.T j).n := by omega
  have HEQ : Hid (rtC E id (sv : Int) = 0 ∧ rtV E id (sv : Int) = (sv : Int) ∧ rtE E id (sv : Int) = rlE E j sv (E.T j).st) := by
    have e9 := rt_ok (save := (sv : Int)) HHC.out (by rw [HAP.out]; exact hi9)
    rw [HHP.out, Int.toNat_natCast, Int.toNat_natCast] at e9
    exact e9
  have HII : Hid (inB (sv : Int) 0 ((E.T j).n : Int) = true) := hi9
  clear hi9 HAP
  go_wp2_with (first | (go_at_call 37; refine (l1In_q2 (sv : Int) 0 ((E.T j).n : Int) _).mono ?_; rintro e w5 ⟨rfl, nq, hw5⟩; rw [HII.out]; have hdr : Below W.heap.size W w5 := (by rw [hw5]; exact below_drewN (Below.refl _ _) _); replace b0 := cell_below b0 hdr; replace b1 := cell_below b1 hdr; replace b2 := cell_below b2 hdr; replace b3 := cell_below b3 hdr; clear hw5))
  have HEX5 : Hid (EngAt w5 _ a' E) := HEX.out.below hdr
  have hs5 := hdr.size
  have HR65 : Hid (Box6 w5 (w.heap.size + 1) (.int .i64 0) (.int .i64 0) (.int .i64 0) (.int .i64 0) (.slice none 0 0) (.slice none 0 0)) := HR6.out.below hdr
  have HRF5 : Hid (∀ i, w5.frozen? ⟨w.heap.size + 1, i, none⟩ = false) := fun i => ((bcell2 hdr).2 _ _ (by omega)).trans (HRF.out i)
  have HBW5 : Hid (Below w.heap.size w w5) := below_then HBW.out hdr
  clear hdr b0 b1 b2 b3 e0 e1 e2 e3 e4
  refine (l6Copy_any E _ cap a' cap' _ hp20 hq32 HU60.out HR12.out HEX5.out).mono ?_
  rintro e w2 ⟨v, v', b0', M, rfl, hb2, hb0, hM, hgt, hgr⟩
  obtain ⟨va, vc, rfl, hvc, hOT⟩ := hgt.own
  obtain ⟨vb, vd, rfl, hvd, -⟩ := hgr.own
  have hs2 := hb2.size
  have hMz : M ≤ w2.heap.size := hOT.1
  have HR62 : Hid (Box6 w2 (w.heap.size + 1) (.int .i64 0) (.int .i64 0) (.int .i64 0) (.int .i64 0) (.slice none 0 0) (.slice none 0 0)) := HR65.out.below hb2
  have HRF2 : Hid (∀ i, w2.frozen? ⟨w.heap.size + 1, i, none⟩ = false) := fun i => ((bcell2 hb2).2 _ _ (by omega)).trans (HRF5.out i)
  have HB2 : Hid (Below w.heap.size w w2) := below_then HBW5.out hb2
  have HGR : Hid (GrRw M w2.heap.size w2 (.slice vb E.q vd) E.q E.R) := hgr
  have HOT : Hid (OwnTx w2 b0' M va E.p E.T) := hOT
  clear hb2 hgt hgr hOT
  go_upto_region 7 with fail
  obtain ⟨W3, hW3⟩ : ∃ x, x = w2.alloc (.cells #[.int .i64 E.nx, .int .i64 E.ck, .slice va E.p vc, .slice vb E.q vd] 30) := ⟨_, rfl⟩
  have hb3 : Below w2.heap.size w2 W3 := by rw [hW3]; exact below_new _ _
  have hz3 : W3.heap.size = w2.heap.size + 1 := by rw [hW3]; exact World.size_alloc _ _
  have hbo : Box4 W3 w2.heap.size (.int .i64 E.nx) (.int .i64 E.ck) (.slice va E.p vc) (.slice vb E.q vd) := by rw [hW3]; exact Box4.new _ _ _ _ _ _
  have hfo : ∀ i, W3.frozen? ⟨w2.heap.size, i, none⟩ = false := by rw [hW3]; exact fun i => by simp [go_sem]
  rw [← hW3]
  clear hW3
  have HOT3 : Hid (OwnTx W3 b0' M va E.p E.T) := HOT.out.below hb3
  obtain ⟨-, h9 | ⟨tb, toff, rfl, ht1, ht2, htf, tl, th, htd, htc⟩⟩ := HOT3.out
  · omega
  obtain ⟨-, ht4, ui, uc, hCT, huc, hOU⟩ := htc j hj
  obtain ⟨xs0, hRI⟩ := RlI.start (id := (E.T j).id) (U := (E.T j).U) (n := (E.T j).n) HGR.out hb3 rfl hbo hfo
  have HRI : Hid (RlI W3 W3 w2.heap.size E.nx E.ck (.slice (some ⟨tb, toff, none⟩) E.p vc) (E.T j).id (E.T j).U (E.T j).n (rwL E) 0 M vb vd E.q xs0) := hRI
  have HR63 : Hid (Box6 W3 (w.heap.size + 1) (.int .i64 0) (.int .i64 0) (.int .i64 0) (.int .i64 0) (.slice none 0 0) (.slice none 0 0)) := HR62.out.below hb3
  have HRF3 : Hid (∀ i, W3.frozen? ⟨w.heap.size + 1, i, none⟩ = false) := fun i => ((bcell2 hb3).2 _ _ (by omega)).trans (HRF2.out i)
  have HB3 : Hid (Below w.heap.size w W3) := below_then HB2.out hb3
  have HCT : Hid (CTx W3 tb (toff + j * 5) (E.T j) ui uc) := hCT
  have HFT : Hid (∀ i, W3.frozen? ⟨tb, i, none⟩ = false) := htf
  have HUN : Hid (UndsAt W3 ui (E.T j).n (E.T j).U) := hOU.at
  have HUB : Hid (∀ b off, ui = some ⟨b, off, none⟩ → (E.T j).n = 0 ∨ b < w2.heap.size) := fun b off e => by
    obtain ⟨o1, o2 | ⟨b2, o3, e2, p1, p2, _⟩⟩ := hOU
    · exact .inl o2
    · rw [e] at e2
      injection e2 with e2
      injection e2 with e2
      subst e2
      exact .inr (by omega)
  clear hb3 hbo hfo htd htc hCT hOU hRI htf HOT HGR HR62 HRF2 HB2
  go_wp2_with fail
  refine (l6Roll_any w2.heap.size tb toff j E.p vc (E.T j) ui uc E.nx E.ck (rwL E) xs0 vb vd E.q M sv W3 HRI.out (by omega) hj hp20 hn60 huc hsv HCT.out HFT.out (by omega) HUN.out (fun b off e => by have := HUB.out b off e; omega) (fit_start HH0.out hj) (fun i hi => (undo_row HH0.out hj hi).2) (fun r hr => by obtain ⟨k, hk, rfl⟩ := List.mem_map.1 hr; exact HR12.out k (List.mem_range.1 hk)) (by simp [rwL]; omega)).mono ?_
  rintro e S9 ⟨rfl, u, ra, rc, q, xs, hR, hS9⟩
  have hzu := hR.writes.size
  have hCTu : CTx u tb (toff + j * 5) (E.T j) ui uc := HCT.out.block (hR.writes.block tb (by omega) (.inl (by omega)))
  have hftu : ∀ i, u.frozen? ⟨tb, i, none⟩ = false := fun i => (World.frozen?_of_block (w := W3) (a := ⟨tb, i, none⟩) (hR.writes.block tb (by omega) (.inl (by omega)))).trans (HFT.out i)
  have hOTu : OwnTx u b0' M (some ⟨tb, toff, none⟩) E.p E.T := HOT3.out.writes hR.writes (.inl (by omega))
  obtain ⟨hql, hrp⟩ := hR.rowsP (by omega)
  have hw9 : Writes tb (tb + 1) u S9 := by rw [hS9]; exact Writes.setCell (Writes.refl _ _ _) (p := ⟨tb, toff + j * 5 + 4, none⟩) (Nat.le_refl _) (Nat.lt_succ_self _) _
  have hz9 : S9.heap.size = u.heap.size := by rw [hS9]; simp [World.setCell]
  obtain ⟨y0, y1, y2, y3, y4⟩ := hCTu
  have HC9 : Hid (CTx S9 tb (toff + j * 5) ⟨(E.T j).id, (E.T j).am, (E.T j).st, (E.T j).dn, sv, (E.T j).U⟩ ui uc) := by
    rw [hS9]
    exact ⟨(setO (by omega)).trans y0, (setO (by omega)).trans y1, (setO (by omega)).trans y2, (setO (by omega)).trans y3, World.cell?_setCell_same _ _ _ y4⟩
  have HF9 : Hid (∀ i, S9.frozen? ⟨tb, i, none⟩ = false) := fun i => by rw [hS9, World.frozen?_setCell]; exact hftu i
  have HT9 : Hid (OwnTx S9 b0' M (some ⟨tb, toff, none⟩) E.p (upf E.T j ⟨(E.T j).id, (E.T j).am, (E.T j).st, (E.T j).dn, sv, (E.T j).U⟩)) := by
    refine hOTu.cut hj hw9 (fun o' ho => by rw [hS9, setO (by omega)]) (fun i => by rw [hS9, World.frozen?_setCell]) (fun ui2 uc2 hC2 => ?_) hsv rfl
    have h4 := hC2.2.2.2.2
    rw [y4] at h4
    injection h4 with h4
    injection h4 with h4a h4b h4c
    subst h4a
    subst h4c
    exact HC9.out
  have HQ9 : Hid (OwnRwP S9 (fun x => M ≤ x ∧ x < u.heap.size) ra q (fun i => (unL (E.T j).id (E.T j).U (E.T j).n (rwL E) ((E.T j).n - sv)).getD i zRw)) := hrp.keep (by omega) fun x hx hl => hw9.block x hl (.inr (by omega))
  have HQL : Hid (q = (unL (E.T j).id (E.T j).U (E.T j).n (rwL E) ((E.T j).n - sv)).length) := hql
  have HBo9 : Hid (Box4 S9 w2.heap.size (.int .i64 E.nx) (.int .i64 E.ck) (.slice (some ⟨tb, toff, none⟩) E.p vc) (.slice ra q rc)) := hR.box.writes hw9 (.inr (by omega))
  have HR69 : Hid (Box6 S9 (w.heap.size + 1) (.int .i64 0) (.int .i64 0) (.int .i64 0) (.int .i64 0) (.slice none 0 0) (.slice none 0 0)) := (HR63.out.writes hR.writes (.inl (by omega))).writes hw9 (.inl (by omega))
  have HRF9 : Hid (∀ i, S9.frozen? ⟨w.heap.size + 1, i, none⟩ = false) := fun i => by
    rw [World.frozen?_of_block (w := u) (a := ⟨w.heap.size + 1, i, none⟩) (hw9.block (w.heap.size + 1) (by omega) (.inl (by omega))), World.frozen?_of_block (w := W3) (a := ⟨w.heap.size + 1, i, none⟩) (hR.writes.block (w.heap.size + 1) (by omega) (.inl (by omega)))]
    exact HRF3.out i
  have HB9 : Hid (Below w.heap.size w S9) := Writes.below (Writes.below HB3.out hR.writes (by omega)) hw9 (by omega)
  clear hS9 hR hw9 y0 y1 y2 y3 y4 hftu hOTu hrp hql HRI HUN HUB HR63 HRF3 HB3 HOT3
  have HF : Hid (∀ w7, Writes (w.heap.size + 1) (w.heap.size + 2) S9 w7 → w7.heap.size = S9.heap.size → ERes2 (rtC E id (sv : Int)) (rtV E id (sv : Int)) (rtE E id (sv : Int)) w (.returned (.agg #[.int .i64 0, .int .i64 (sv : Int), .int .i64 E.nx, .int .i64 E.ck, .slice (some ⟨tb, toff, none⟩) E.p vc, .slice ra q rc])) w7) := fun w7 g7 z7 => by
    rw [HEQ.out.1, HEQ.out.2.1, HEQ.out.2.2]
    exact rl_res HB9.out HT9.out HQ9.out HQL.out g7 z7 (by omega) (by omega) (by omega)
  obtain ⟨d0, d1, d2, d3⟩ := HBo9.out
  obtain ⟨r0, r1, r2, r3, r4, r5⟩ := HR69.out
  have rf := HRF9.out
  clear HC9 HF9 HT9 HQ9 HQL HBo9 HR69 HRF9 HB9
  go_wp2_with fail
  refine bodyPost_ret (v := .agg #[.int .i64 0, .int .i64 (sv : Int), .int .i64 E.nx, .int .i64 E.ck, .slice (some ⟨tb, toff, none⟩) E.p vc, .slice ra q rc]) (by simp [results, Tryz.results16, go_sem, *]) rfl ?_
  refine HF.out _ ?_ (by simp [World.setCell])
  repeat (first | with_reducible exact Writes.refl _ _ _ | with_reducible refine Writes.setCell ?_ (by first | omega | (simp <;> omega)) (by first | omega | (simp <;> omega)) _)
end Go.Proofs.YtabkgncnanlapaaGreat
