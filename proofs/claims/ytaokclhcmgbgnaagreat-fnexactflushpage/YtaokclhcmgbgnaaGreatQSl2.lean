/- spec.l3Pack, Had true, Has true. -/
import Derived.Test.YtaokclhcmgbgnaaGreatQJa
namespace Go.Proofs.YtaokclhcmgbgnaaGreat
open Go.RowKit Go.Deep
set_option linter.unusedVariables false
set_option maxRecDepth 20000

set_option maxHeartbeats 8000000 in
theorem specL3_2 (k t key old nw bk : Int) (w : World) (g : GoodR k t key false old true nw bk) :
    Calls Tryz.prog 119 #[.agg #[.int .i64 k, .int .i64 t, .int .i64 key, .bool false, .int .i64 old, .bool true, .int .i64 nw, .int .i64 bk]] w fun e w' => ∃ v, e = .returned v ∧ Below w.heap.size w w' ∧ w'.ownsRow w.heap.size 5 1 v (rb k t key false old true nw bk).length (bl (rb k t key false old true nw bk)) ∧ v ≠ .slice none 0 0 := by
  have HG : Hid (GoodR k t key false old true nw bk) := g
  obtain ⟨hk1, hk2⟩ := g.k
  obtain ⟨ht1, ht2⟩ := g.t
  have ht2 : t ≤ 1000000 := by omega
  obtain ⟨hy1, hy2⟩ := g.key
  have Hold : Hid (0 ≤ old ∧ old ≤ 1000000) := ⟨g.old.1, by have := g.old; omega⟩
  have Hnw : Hid (0 ≤ nw ∧ nw ≤ 1000000) := ⟨g.nw.1, by have := g.nw; omega⟩
  have Hbk : Hid (0 ≤ bk ∧ bk ≤ 1000000) := ⟨g.bk.1, by have := g.bk; omega⟩
  have hw8 : IntKind.u8.wrap k = k := by rw [IntKind.wrap_u8]; omega
  have hw9 : IntKind.u8.wrap key = key := by rw [IntKind.wrap_u8]; omega
  obtain ⟨i0, hi, hz0, hz1, hz2⟩ := info_parts info5
  have HI : Hid (Tryz.prog.info? 5 = some i0 ∧ i0.zero = some (.int .u8 0) ∧ i0.size = 1 ∧ i0.bytes = 1) := ⟨hi, hz0, hz1, hz2⟩
  have hb0 : Below (w.heap.size + 1) (w.alloc (.cells #[.int .i64 k, .int .i64 t, .int .i64 key, .bool false, .int .i64 old, .bool true, .int .i64 nw, .int .i64 bk] 105)) (w.alloc (.cells #[.int .i64 k, .int .i64 t, .int .i64 key, .bool false, .int .i64 old, .bool true, .int .i64 nw, .int .i64 bk] 105)).drew := (Below.refl _ _).drew
  clear hi hz0 hz1 hz2 g
  go_enter Tryz.func119, Tryz.ntmps119
  go_wp2
  have hold0 : Below (w.heap.size + 1) (w.alloc (.cells #[.int .i64 k, .int .i64 t, .int .i64 key, .bool false, .int .i64 old, .bool true, .int .i64 nw, .int .i64 bk] 105)) (w.alloc (.cells #[.int .i64 k, .int .i64 t, .int .i64 key, .bool false, .int .i64 old, .bool true, .int .i64 nw, .int .i64 bk] 105)).drew ∧ (w.alloc (.cells #[.int .i64 k, .int .i64 t, .int .i64 key, .bool false, .int .i64 old, .bool true, .int .i64 nw, .int .i64 bk] 105)).drew.cell? ⟨w.heap.size, 0, none⟩ = some (.int .i64 k) ∧ (w.alloc (.cells #[.int .i64 k, .int .i64 t, .int .i64 key, .bool false, .int .i64 old, .bool true, .int .i64 nw, .int .i64 bk] 105)).drew.cell? ⟨w.heap.size, 1, none⟩ = some (.int .i64 t) := ⟨hb0, by simp, by simp⟩
  go_region_held3 (fun w' => Below (w.heap.size + 1) (w.alloc (.cells #[.int .i64 k, .int .i64 t, .int .i64 key, .bool false, .int .i64 old, .bool true, .int .i64 nw, .int .i64 bk] 105)) w' ∧ w'.cell? ⟨w.heap.size, 0, none⟩ = some (.int .i64 k) ∧ w'.cell? ⟨w.heap.size, 1, none⟩ = some (.int .i64 t)) (first | assumption | (obtain ⟨hKa, hKb, hKc⟩ := ‹Below (w.heap.size + 1) _ _ ∧ _ ∧ _›; exact ⟨by first | exact keepB hKa | exact keepB' hKa, by go_keep, by go_keep⟩))
    (first | (go_at_call 88; refine (l1Bytes_any t 2 _ (by decide) ht1 ht2).mono ?_; rintro e wq ⟨vq, rfl, hbq, hoq, hneq⟩; obtain ⟨gq, cq, rfl, hgq⟩ := formB hoq hneq; have HX := (‹Below (w.heap.size + 1) _ _ ∧ _ ∧ _›); have hC := cellsq2 HX hbq; clear HX) | (have HX := (‹Below (w.heap.size + 1) _ _ ∧ _ ∧ _›); refine step_appB _ rfl (.tmp 14) (.tmp 17) rfl (w.heap.size + 1) _ 1 [(.int .u8 k)] rfl (rowB_below (own8a w _ _) hbq) ⟨gq, 0, none⟩ 2 cq (bl (nb t 2)) rfl (nb_bl2 _) (newsB hoq) (bl_one _) (by decide) (hszB HX.1) ?_; intro v18 w18 ho18 hg18; have hD18 := cellsg HX (rowB_below (own8a w _ _) hbq) hg18) | (have HX := (‹Below (w.heap.size + 1) _ _ ∧ _ ∧ _›); refine step_appB _ rfl (.tmp 14) (.tmp 17) rfl (w.heap.size + 1) _ 1 [(.int .u8 k)] rfl (own8b (hszB hC.1)) ⟨gq, 0, none⟩ 2 cq (bl (nb t 2)) rfl (nb_bl2 _) (newsB_alloc hoq) (bl_one _) (by decide) (hszB HX.1) ?_; intro v18 w18 ho18 hg18; have hD18 := cellsg HX (own8b (hszB hC.1)) hg18))
  all_goals
    have PS : Hid (Below (w.heap.size + 1) (w.alloc (.cells #[.int .i64 k, .int .i64 t, .int .i64 key, .bool false, .int .i64 old, .bool true, .int .i64 nw, .int .i64 bk] 105)) w18 ∧ w18.ownsRow (w.heap.size + 1) 5 1 v18 3 (bl (nb k 1 ++ nb t 2))) := by
      refine ⟨hD18.1, ?_⟩
      rw [byt_small hk1 (by omega), bl_app]
      exact ho18
    have k2 : w18.cell? ⟨w.heap.size, 2, none⟩ = some (.int .i64 key) := by rw [PS.out.1.cell (p := ⟨w.heap.size, 2, none⟩) (by simp)]; simp
    have m2 := fun o : Obj => cell_alloc k2 o
    have HSZ : Hid (w.heap.size + 1 ≤ w18.heap.size) := hszB PS.out.1
    clear ho18 hg18 hD18
    go_wp2_with (at_builtin; refine wpList_append_own _ rfl (.tmp 19) (.tmp 24) 27 rfl (w.heap.size + 1) 5 i0 (.int .u8 0) 1 1 Tryz.underlying27 HI.out.1 HI.out.2.1 HI.out.2.2.1 HI.out.2.2.2 rfl (by decide) _ 3 _ rfl (PS.out.2.alloc _) ⟨w18.heap.size, 0, none⟩ 2 2 [.int .u8 key, .int .u8 2] rfl rfl (cell_two_newB _ _ _ _) (two_u8 _ _) ?c3 ?c4 ?c5 ?_)
    case c3 => unfold maxLen; omega
    case c4 => omega
    case c5 => have := HSZ.out; simp; omega
    intro v25 w25 ho25 hg25 _
    have HL0 : Hid (L3 w (w.alloc (.cells #[.int .i64 k, .int .i64 t, .int .i64 key, .bool false, .int .i64 old, .bool true, .int .i64 nw, .int .i64 bk] 105)) w25 v25 (nb k 1 ++ nb t 2 ++ (nb key 1 ++ nb (fl false true) 1)) 5 []) := by
      have hb := keepB' (o2 := .cells #[.int .u8 key, .int .u8 2] 5) PS.out.1
      have ho := PS.out.2.alloc (.cells #[.int .u8 key, .int .u8 2] 5)
      refine ⟨grB hb ho hg25, Nat.le_trans (hszB hb) hg25.size, ?_, fun p hp => by cases hp⟩
      rw [bl_app, byt_small hy1 (by omega), show nb (fl false true) 1 = [2] by rw [byt_small (by decide) (by decide)]; rfl]
      exact ho25
    clear ho25 hg25 PS k2 m2 HSZ
    have HL := HL0.out.drew
    have d4 := HL.cell (i := 4) (x := .int .i64 old) (by simp)
    have d6 := HL.cell (i := 6) (x := .int .i64 nw) (by simp)
    have d7 := HL.cell (i := 7) (x := .int .i64 bk) (by simp)
    go_wp2
    go_region_held3 (fun w' => w'.cell? ⟨w.heap.size, 4, none⟩ = some (.int .i64 old) ∧ w'.cell? ⟨w.heap.size, 6, none⟩ = some (.int .i64 nw) ∧ w'.cell? ⟨w.heap.size, 7, none⟩ = some (.int .i64 bk)) (go_keep)
      (first | (go_at_call 88; refine (l1Bytes_any _ 2 _ (by decide) ?ha ?hb).mono ?_; (case ha => first | exact Hold.out.1 | exact Hnw.out.1 | exact Hbk.out.1); (case hb => first | exact Hold.out.2 | exact Hnw.out.2 | exact Hbk.out.2); rintro e wq ⟨vq, rfl, hbq, hoq, hneq⟩; obtain ⟨gq, cq, rfl, hgq⟩ := formB hoq hneq; have HL := L3.call HL hbq hoq hgq; have d4 := HL.cell (i := 4) (x := .int .i64 old) (by simp); have d6 := HL.cell (i := 6) (x := .int .i64 nw) (by simp); have d7 := HL.cell (i := 7) (x := .int .i64 bk) (by simp); clear hoq hbq hneq hgq) | (refine HL.stepApp rfl (.tmp 26) (.tmp 29) rfl rfl _ _ (nb old 2) rfl (nb_len _ _) (by simp) (by decide) ?_; intro gx capx wx HL; have d4 := HL.cell (i := 4) (x := .int .i64 old) (by simp); have d6 := HL.cell (i := 6) (x := .int .i64 nw) (by simp); have d7 := HL.cell (i := 7) (x := .int .i64 bk) (by simp)) | (refine HL.stepApp rfl (.tmp 30) (.tmp 33) rfl rfl _ _ (nb nw 2) rfl (nb_len _ _) (by simp) (by decide) ?_; intro gx capx wx HL; have d4 := HL.cell (i := 4) (x := .int .i64 old) (by simp); have d6 := HL.cell (i := 6) (x := .int .i64 nw) (by simp); have d7 := HL.cell (i := 7) (x := .int .i64 bk) (by simp)) | (refine HL.stepApp rfl (.tmp 34) (.tmp 37) rfl rfl _ _ (nb bk 2) rfl (nb_len _ _) (by simp) (by decide) ?_; intro gx capx wx HL; have d4 := HL.cell (i := 4) (x := .int .i64 old) (by simp); have d6 := HL.cell (i := 6) (x := .int .i64 nw) (by simp); have d7 := HL.cell (i := 7) (x := .int .i64 bk) (by simp)))
    all_goals
      have HB : Hid (Below (w.heap.size + 1) (w.alloc (.cells #[.int .i64 k, .int .i64 t, .int .i64 key, .bool false, .int .i64 old, .bool true, .int .i64 nw, .int .i64 bk] 105)) wx) := HL.below
      have HO : Hid (wx.ownsRow (w.heap.size + 1) 5 1 (.slice (some ⟨gx, 0, none⟩) 11 capx) 11 (bl (rbb k t key false old true nw bk))) := by
        have h := HL.own
        simp only [List.append_assoc] at h
        show World.ownsRow _ _ _ _ _ _ (bl (rbb k t key false old true nw bk))
        rw [rbb]
        simp only [List.append_assoc]
        exact h
      clear HL d4 d6 d7
      have HSM : Hid (0 ≤ sm (rbb k t key false old true nw bk) ∧ sm (rbb k t key false old true nw bk) ≤ 65520) := sumB_bd _ _
      have HSE : Hid (sumB (fun i => (rbb k t key false old true nw bk).getD i 0) 11 = sm (rbb k t key false old true nw bk)) := by show _ = sm (rbb k t key false old true nw bk); rw [sm, rbb_len]
      go_wp2_with fail
      have HH := specSum_any (rbb k t key false old true nw bk).length (fun i => (rbb k t key false old true nw bk).getD i 0) (some ⟨gx, 0, none⟩) capx wx (by rw [rbb_len]; omega) (byt_of (rbb_byt k t key false old true nw bk)) (bytes_of_own (by rw [rbb_len]; exact HO.out))
      rw [rbb_len, HSE.out] at HH
      refine HH.mono ?_
      clear HH
      rintro e wz ⟨rfl, rfl⟩
      go_wp2_with fail
      refine (l1Bytes_any (sm (rbb k t key false old true nw bk)) 2 _ (by omega) HSM.out.1 (by have := HSM.out.2; omega)).mono ?_
      rintro e wq ⟨vq, rfl, hbq, hoq, hneq⟩
      obtain ⟨gq, cq, rfl, hgq⟩ := formB hoq hneq
      have HOA : Hid (wq.ownsRow (w.heap.size + 1) 5 1 (.slice (some ⟨gx, 0, none⟩) 11 capx) 11 (bl (rbb k t key false old true nw bk))) := rowB_below HO.out hbq
      have HOQ : Hid (∀ j u, (bl (nb (sm (rbb k t key false old true nw bk)) 2))[j]? = some u → wq.cell? ((⟨gq, 0, none⟩ : Addr).add j) = some u) := newsB hoq
      have HBQ : Hid (Below (w.heap.size + 1) (w.alloc (.cells #[.int .i64 k, .int .i64 t, .int .i64 key, .bool false, .int .i64 old, .bool true, .int .i64 nw, .int .i64 bk] 105)) wq) := belB HB.out hbq
      have HLQ : Hid ((nb (sm (rbb k t key false old true nw bk)) 2).length = 2) := nb_len _ _
      rw [HLQ.out]
      clear hoq hneq hgq hbq
      go_wp2_with (at_builtin; refine wpList_append_own _ rfl (.tmp 39) (.tmp 42) 27 rfl (w.heap.size + 1) 5 i0 (.int .u8 0) 1 1 Tryz.underlying27 HI.out.1 HI.out.2.1 HI.out.2.2.1 HI.out.2.2.2 rfl (by decide) _ 11 _ rfl HOA.out ⟨gq, 0, none⟩ 2 cq (bl (nb (sm (rbb k t key false old true nw bk)) 2)) rfl ?c1 ?c2 (bl_one _) ?c3 ?c4 ?c5 ?_)
      case c1 => rw [bl_len, HLQ.out]
      case c2 => exact HOQ.out
      case c3 => unfold maxLen; omega
      case c4 => omega
      case c5 => exact hszB HBQ.out
      intro v43 w43 ho43 hg43 hne43
      have HF : Hid (w43.ownsRow w.heap.size 5 1 v43 (rb k t key false old true nw bk).length (bl (rb k t key false old true nw bk))) := by
        show World.ownsRow _ _ _ _ _ _ (bl (rb k t key false old true nw bk))
        rw [rb_len, rb, bl_app]
        exact rowB_down ho43 (by omega)
      have HBF : Hid (Below w.heap.size w w43) := (below_new _ _).trans ((grB HBQ.out HOA.out hg43).mono (by omega))
      have HNE : Hid (v43 ≠ .slice none 0 0) := hne43
      clear ho43 hg43 hne43
      go_wp2
      go_ret
      exact ⟨v43, rfl, HBF.out, HF.out, HNE.out⟩
set_option maxHeartbeats 8000000 in
theorem specL3_3 (k t key old nw bk : Int) (w : World) (g : GoodR k t key true old true nw bk) :
    Calls Tryz.prog 119 #[.agg #[.int .i64 k, .int .i64 t, .int .i64 key, .bool true, .int .i64 old, .bool true, .int .i64 nw, .int .i64 bk]] w fun e w' => ∃ v, e = .returned v ∧ Below w.heap.size w w' ∧ w'.ownsRow w.heap.size 5 1 v (rb k t key true old true nw bk).length (bl (rb k t key true old true nw bk)) ∧ v ≠ .slice none 0 0 := by
  have HG : Hid (GoodR k t key true old true nw bk) := g
  obtain ⟨hk1, hk2⟩ := g.k
  obtain ⟨ht1, ht2⟩ := g.t
  have ht2 : t ≤ 1000000 := by omega
  obtain ⟨hy1, hy2⟩ := g.key
  have Hold : Hid (0 ≤ old ∧ old ≤ 1000000) := ⟨g.old.1, by have := g.old; omega⟩
  have Hnw : Hid (0 ≤ nw ∧ nw ≤ 1000000) := ⟨g.nw.1, by have := g.nw; omega⟩
  have Hbk : Hid (0 ≤ bk ∧ bk ≤ 1000000) := ⟨g.bk.1, by have := g.bk; omega⟩
  have hw8 : IntKind.u8.wrap k = k := by rw [IntKind.wrap_u8]; omega
  have hw9 : IntKind.u8.wrap key = key := by rw [IntKind.wrap_u8]; omega
  obtain ⟨i0, hi, hz0, hz1, hz2⟩ := info_parts info5
  have HI : Hid (Tryz.prog.info? 5 = some i0 ∧ i0.zero = some (.int .u8 0) ∧ i0.size = 1 ∧ i0.bytes = 1) := ⟨hi, hz0, hz1, hz2⟩
  have hb0 : Below (w.heap.size + 1) (w.alloc (.cells #[.int .i64 k, .int .i64 t, .int .i64 key, .bool true, .int .i64 old, .bool true, .int .i64 nw, .int .i64 bk] 105)) (w.alloc (.cells #[.int .i64 k, .int .i64 t, .int .i64 key, .bool true, .int .i64 old, .bool true, .int .i64 nw, .int .i64 bk] 105)).drew := (Below.refl _ _).drew
  clear hi hz0 hz1 hz2 g
  go_enter Tryz.func119, Tryz.ntmps119
  go_wp2
  have hold0 : Below (w.heap.size + 1) (w.alloc (.cells #[.int .i64 k, .int .i64 t, .int .i64 key, .bool true, .int .i64 old, .bool true, .int .i64 nw, .int .i64 bk] 105)) (w.alloc (.cells #[.int .i64 k, .int .i64 t, .int .i64 key, .bool true, .int .i64 old, .bool true, .int .i64 nw, .int .i64 bk] 105)).drew ∧ (w.alloc (.cells #[.int .i64 k, .int .i64 t, .int .i64 key, .bool true, .int .i64 old, .bool true, .int .i64 nw, .int .i64 bk] 105)).drew.cell? ⟨w.heap.size, 0, none⟩ = some (.int .i64 k) ∧ (w.alloc (.cells #[.int .i64 k, .int .i64 t, .int .i64 key, .bool true, .int .i64 old, .bool true, .int .i64 nw, .int .i64 bk] 105)).drew.cell? ⟨w.heap.size, 1, none⟩ = some (.int .i64 t) := ⟨hb0, by simp, by simp⟩
  go_region_held3 (fun w' => Below (w.heap.size + 1) (w.alloc (.cells #[.int .i64 k, .int .i64 t, .int .i64 key, .bool true, .int .i64 old, .bool true, .int .i64 nw, .int .i64 bk] 105)) w' ∧ w'.cell? ⟨w.heap.size, 0, none⟩ = some (.int .i64 k) ∧ w'.cell? ⟨w.heap.size, 1, none⟩ = some (.int .i64 t)) (first | assumption | (obtain ⟨hKa, hKb, hKc⟩ := ‹Below (w.heap.size + 1) _ _ ∧ _ ∧ _›; exact ⟨by first | exact keepB hKa | exact keepB' hKa, by go_keep, by go_keep⟩))
    (first | (go_at_call 88; refine (l1Bytes_any t 2 _ (by decide) ht1 ht2).mono ?_; rintro e wq ⟨vq, rfl, hbq, hoq, hneq⟩; obtain ⟨gq, cq, rfl, hgq⟩ := formB hoq hneq; have HX := (‹Below (w.heap.size + 1) _ _ ∧ _ ∧ _›); have hC := cellsq2 HX hbq; clear HX) | (have HX := (‹Below (w.heap.size + 1) _ _ ∧ _ ∧ _›); refine step_appB _ rfl (.tmp 14) (.tmp 17) rfl (w.heap.size + 1) _ 1 [(.int .u8 k)] rfl (rowB_below (own8a w _ _) hbq) ⟨gq, 0, none⟩ 2 cq (bl (nb t 2)) rfl (nb_bl2 _) (newsB hoq) (bl_one _) (by decide) (hszB HX.1) ?_; intro v18 w18 ho18 hg18; have hD18 := cellsg HX (rowB_below (own8a w _ _) hbq) hg18) | (have HX := (‹Below (w.heap.size + 1) _ _ ∧ _ ∧ _›); refine step_appB _ rfl (.tmp 14) (.tmp 17) rfl (w.heap.size + 1) _ 1 [(.int .u8 k)] rfl (own8b (hszB hC.1)) ⟨gq, 0, none⟩ 2 cq (bl (nb t 2)) rfl (nb_bl2 _) (newsB_alloc hoq) (bl_one _) (by decide) (hszB HX.1) ?_; intro v18 w18 ho18 hg18; have hD18 := cellsg HX (own8b (hszB hC.1)) hg18))
  all_goals
    have PS : Hid (Below (w.heap.size + 1) (w.alloc (.cells #[.int .i64 k, .int .i64 t, .int .i64 key, .bool true, .int .i64 old, .bool true, .int .i64 nw, .int .i64 bk] 105)) w18 ∧ w18.ownsRow (w.heap.size + 1) 5 1 v18 3 (bl (nb k 1 ++ nb t 2))) := by
      refine ⟨hD18.1, ?_⟩
      rw [byt_small hk1 (by omega), bl_app]
      exact ho18
    have k2 : w18.cell? ⟨w.heap.size, 2, none⟩ = some (.int .i64 key) := by rw [PS.out.1.cell (p := ⟨w.heap.size, 2, none⟩) (by simp)]; simp
    have m2 := fun o : Obj => cell_alloc k2 o
    have HSZ : Hid (w.heap.size + 1 ≤ w18.heap.size) := hszB PS.out.1
    clear ho18 hg18 hD18
    go_wp2_with (at_builtin; refine wpList_append_own _ rfl (.tmp 19) (.tmp 24) 27 rfl (w.heap.size + 1) 5 i0 (.int .u8 0) 1 1 Tryz.underlying27 HI.out.1 HI.out.2.1 HI.out.2.2.1 HI.out.2.2.2 rfl (by decide) _ 3 _ rfl (PS.out.2.alloc _) ⟨w18.heap.size, 0, none⟩ 2 2 [.int .u8 key, .int .u8 3] rfl rfl (cell_two_newB _ _ _ _) (two_u8 _ _) ?c3 ?c4 ?c5 ?_)
    case c3 => unfold maxLen; omega
    case c4 => omega
    case c5 => have := HSZ.out; simp; omega
    intro v25 w25 ho25 hg25 _
    have HL0 : Hid (L3 w (w.alloc (.cells #[.int .i64 k, .int .i64 t, .int .i64 key, .bool true, .int .i64 old, .bool true, .int .i64 nw, .int .i64 bk] 105)) w25 v25 (nb k 1 ++ nb t 2 ++ (nb key 1 ++ nb (fl true true) 1)) 5 []) := by
      have hb := keepB' (o2 := .cells #[.int .u8 key, .int .u8 3] 5) PS.out.1
      have ho := PS.out.2.alloc (.cells #[.int .u8 key, .int .u8 3] 5)
      refine ⟨grB hb ho hg25, Nat.le_trans (hszB hb) hg25.size, ?_, fun p hp => by cases hp⟩
      rw [bl_app, byt_small hy1 (by omega), show nb (fl true true) 1 = [3] by rw [byt_small (by decide) (by decide)]; rfl]
      exact ho25
    clear ho25 hg25 PS k2 m2 HSZ
    have HL := HL0.out.drew
    have d4 := HL.cell (i := 4) (x := .int .i64 old) (by simp)
    have d6 := HL.cell (i := 6) (x := .int .i64 nw) (by simp)
    have d7 := HL.cell (i := 7) (x := .int .i64 bk) (by simp)
    go_wp2
    go_region_held3 (fun w' => w'.cell? ⟨w.heap.size, 4, none⟩ = some (.int .i64 old) ∧ w'.cell? ⟨w.heap.size, 6, none⟩ = some (.int .i64 nw) ∧ w'.cell? ⟨w.heap.size, 7, none⟩ = some (.int .i64 bk)) (go_keep)
      (first | (go_at_call 88; refine (l1Bytes_any _ 2 _ (by decide) ?ha ?hb).mono ?_; (case ha => first | exact Hold.out.1 | exact Hnw.out.1 | exact Hbk.out.1); (case hb => first | exact Hold.out.2 | exact Hnw.out.2 | exact Hbk.out.2); rintro e wq ⟨vq, rfl, hbq, hoq, hneq⟩; obtain ⟨gq, cq, rfl, hgq⟩ := formB hoq hneq; have HL := L3.call HL hbq hoq hgq; have d4 := HL.cell (i := 4) (x := .int .i64 old) (by simp); have d6 := HL.cell (i := 6) (x := .int .i64 nw) (by simp); have d7 := HL.cell (i := 7) (x := .int .i64 bk) (by simp); clear hoq hbq hneq hgq) | (refine HL.stepApp rfl (.tmp 26) (.tmp 29) rfl rfl _ _ (nb old 2) rfl (nb_len _ _) (by simp) (by decide) ?_; intro gx capx wx HL; have d4 := HL.cell (i := 4) (x := .int .i64 old) (by simp); have d6 := HL.cell (i := 6) (x := .int .i64 nw) (by simp); have d7 := HL.cell (i := 7) (x := .int .i64 bk) (by simp)) | (refine HL.stepApp rfl (.tmp 30) (.tmp 33) rfl rfl _ _ (nb nw 2) rfl (nb_len _ _) (by simp) (by decide) ?_; intro gx capx wx HL; have d4 := HL.cell (i := 4) (x := .int .i64 old) (by simp); have d6 := HL.cell (i := 6) (x := .int .i64 nw) (by simp); have d7 := HL.cell (i := 7) (x := .int .i64 bk) (by simp)) | (refine HL.stepApp rfl (.tmp 34) (.tmp 37) rfl rfl _ _ (nb bk 2) rfl (nb_len _ _) (by simp) (by decide) ?_; intro gx capx wx HL; have d4 := HL.cell (i := 4) (x := .int .i64 old) (by simp); have d6 := HL.cell (i := 6) (x := .int .i64 nw) (by simp); have d7 := HL.cell (i := 7) (x := .int .i64 bk) (by simp)))
    all_goals
      have HB : Hid (Below (w.heap.size + 1) (w.alloc (.cells #[.int .i64 k, .int .i64 t, .int .i64 key, .bool true, .int .i64 old, .bool true, .int .i64 nw, .int .i64 bk] 105)) wx) := HL.below
      have HO : Hid (wx.ownsRow (w.heap.size + 1) 5 1 (.slice (some ⟨gx, 0, none⟩) 11 capx) 11 (bl (rbb k t key true old true nw bk))) := by
        have h := HL.own
        simp only [List.append_assoc] at h
        show World.ownsRow _ _ _ _ _ _ (bl (rbb k t key true old true nw bk))
        rw [rbb]
        simp only [List.append_assoc]
        exact h
      clear HL d4 d6 d7
      have HSM : Hid (0 ≤ sm (rbb k t key true old true nw bk) ∧ sm (rbb k t key true old true nw bk) ≤ 65520) := sumB_bd _ _
      have HSE : Hid (sumB (fun i => (rbb k t key true old true nw bk).getD i 0) 11 = sm (rbb k t key true old true nw bk)) := by show _ = sm (rbb k t key true old true nw bk); rw [sm, rbb_len]
      go_wp2_with fail
      have HH := specSum_any (rbb k t key true old true nw bk).length (fun i => (rbb k t key true old true nw bk).getD i 0) (some ⟨gx, 0, none⟩) capx wx (by rw [rbb_len]; omega) (byt_of (rbb_byt k t key true old true nw bk)) (bytes_of_own (by rw [rbb_len]; exact HO.out))
      rw [rbb_len, HSE.out] at HH
      refine HH.mono ?_
      clear HH
      rintro e wz ⟨rfl, rfl⟩
      go_wp2_with fail
      refine (l1Bytes_any (sm (rbb k t key true old true nw bk)) 2 _ (by omega) HSM.out.1 (by have := HSM.out.2; omega)).mono ?_
      rintro e wq ⟨vq, rfl, hbq, hoq, hneq⟩
      obtain ⟨gq, cq, rfl, hgq⟩ := formB hoq hneq
      have HOA : Hid (wq.ownsRow (w.heap.size + 1) 5 1 (.slice (some ⟨gx, 0, none⟩) 11 capx) 11 (bl (rbb k t key true old true nw bk))) := rowB_below HO.out hbq
      have HOQ : Hid (∀ j u, (bl (nb (sm (rbb k t key true old true nw bk)) 2))[j]? = some u → wq.cell? ((⟨gq, 0, none⟩ : Addr).add j) = some u) := newsB hoq
      have HBQ : Hid (Below (w.heap.size + 1) (w.alloc (.cells #[.int .i64 k, .int .i64 t, .int .i64 key, .bool true, .int .i64 old, .bool true, .int .i64 nw, .int .i64 bk] 105)) wq) := belB HB.out hbq
      have HLQ : Hid ((nb (sm (rbb k t key true old true nw bk)) 2).length = 2) := nb_len _ _
      rw [HLQ.out]
      clear hoq hneq hgq hbq
      go_wp2_with (at_builtin; refine wpList_append_own _ rfl (.tmp 39) (.tmp 42) 27 rfl (w.heap.size + 1) 5 i0 (.int .u8 0) 1 1 Tryz.underlying27 HI.out.1 HI.out.2.1 HI.out.2.2.1 HI.out.2.2.2 rfl (by decide) _ 11 _ rfl HOA.out ⟨gq, 0, none⟩ 2 cq (bl (nb (sm (rbb k t key true old true nw bk)) 2)) rfl ?c1 ?c2 (bl_one _) ?c3 ?c4 ?c5 ?_)
      case c1 => rw [bl_len, HLQ.out]
      case c2 => exact HOQ.out
      case c3 => unfold maxLen; omega
      case c4 => omega
      case c5 => exact hszB HBQ.out
      intro v43 w43 ho43 hg43 hne43
      have HF : Hid (w43.ownsRow w.heap.size 5 1 v43 (rb k t key true old true nw bk).length (bl (rb k t key true old true nw bk))) := by
        show World.ownsRow _ _ _ _ _ _ (bl (rb k t key true old true nw bk))
        rw [rb_len, rb, bl_app]
        exact rowB_down ho43 (by omega)
      have HBF : Hid (Below w.heap.size w w43) := (below_new _ _).trans ((grB HBQ.out HOA.out hg43).mono (by omega))
      have HNE : Hid (v43 ≠ .slice none 0 0) := hne43
      clear ho43 hg43 hne43
      go_wp2
      go_ret
      exact ⟨v43, rfl, HBF.out, HF.out, HNE.out⟩
end Go.Proofs.YtaokclhcmgbgnaaGreat
