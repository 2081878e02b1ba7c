/- FnExactCutKey: the walk of the law. -/
import Derived.Test.YtbnehgpefjbheaaTcg
namespace Go.Proofs.Ytbnehgpefjbheaa
open Go.RowKit Go.Deep
set_option linter.unusedVariables false
set_option maxRecDepth 20000

theorem smf_le7 {f : Nat → Nat} : ∀ n, (∀ i, i < n → f i ≤ 7) → smf f n ≤ n * 7
  | 0, _ => Nat.le_refl _
  | n + 1, h => by
    have h1 := smf_le7 (f := f) n (fun i hi => h i (by omega))
    have h2 := h n (by omega)
    simp only [smf]
    omega
theorem ck_small (t : Tr) (key : Int) : SmallT (ckT t key) := by
  unfold ckT
  split
  · rename_i h
    have hp : ptC t key = 0 := by
      unfold ckC at h
      split at h
      · rename_i h1; exact absurd h h1
      · rename_i h1; simpa using h1
    obtain ⟨hn1, hn, hG, hr, hf⟩ := trF_good (ptC_good hp).1
    have hb : ∀ i, i < t.n → ((cutT t key).T i).kn ≤ 3 ∧ ((cutT t key).T i).dn ≤ 4 := fun i hi => by
      have h1 := cntB_le (hG i hi).1
      show (upf (α := Nd) _ _ _ i).kn ≤ 3 ∧ (upf (α := Nd) _ _ _ i).dn ≤ 4
      by_cases e : i = lst t.T key (t.n + 1) t.root.toNat
      · rw [← e, upf_eq]
        have h2 := wo_len (t.T i).K key (t.T i).kn
        exact ⟨Nat.le_trans h2 h1.1, h1.2⟩
      · rw [upf_ne _ _ e]; exact h1
    have hs : smNd (cutT t key).T t.n ≤ t.n * 7 := smf_le7 t.n fun i hi => by have := hb i hi; omega
    exact ⟨by show t.n ≤ _; omega, fun i hi => by have := hb i hi; omega, by show smNd (cutT t key).T t.n ≤ _; omega⟩
  · exact ⟨Nat.zero_le _, fun i hi => absurd hi (Nat.not_lt_zero _), Nat.zero_le _⟩
set_option maxHeartbeats 8000000 in
theorem cutKeyLaw_small (t : Tr) (a : Option Addr) (cap : Nat) (key : Int) (w : World) (hn : t.n ≤ 9223372036854775807) (hL : ∀ i, i < t.n → (t.T i).kn ≤ 9223372036854775807 ∧ (t.T i).dn ≤ 9223372036854775807) (HA0 : NdsAt w a t.n t.T) (c : Int) (tt : Tr) (hST : SmallT tt)
    (HP : Hid (SmallT t → ∀ (a : Option Addr) (w : World), NdsAt w a t.n t.T → Calls Try.prog 29 #[.agg #[.int .i64 t.root, .slice a t.n t.n], .int .i64 key] w (fun e w' => ∃ a cap, e = .returned (.agg #[.int .i64 c, .int .i64 tt.root, .slice a tt.n cap]) ∧ Below w.heap.size w w' ∧ OwnNd w' w.heap.size w'.heap.size a tt.n tt.T)))
    (HQ : Hid (SmallT t → ∀ (a : Option Addr) (w : World), NdsAt w a t.n t.T → Calls Try.prog 30 #[.agg #[.int .i64 t.root, .slice a t.n t.n], .int .i64 key] w (fun e w' => ∃ a cap, e = .returned (.agg #[.int .i64 c, .int .i64 tt.root, .slice a tt.n cap]) ∧ Below w.heap.size w w' ∧ OwnNd w' w.heap.size w'.heap.size a tt.n tt.T))) :
    Calls Try.prog 8 #[.agg #[.int .i64 t.root, .slice a t.n cap], .int .i64 key] w fun e w' => e = .returned (.bool true) ∧ Below w.heap.size w w' := by
  go_enter Try.func8, Try.ntmps8
  go_wp2_with fail
  refine (szTree_any t a cap _ hn hL (HA0.below (below_new _ _))).mono ?_
  rintro e w1 ⟨hb, r, rfl, hr⟩
  have hB : Below w.heap.size w w1 := below_then (below_new _ _) hb
  rcases hr with rfl | ⟨hr0, hr1⟩
  · go_wp2_with fail
    go_ret
    exact ⟨rfl, hB⟩
  have HS : SmallT t := smallT_of (by omega)
  have BA := (Box2.new w (.int .i64 t.root) (.slice a t.n cap) 24).below hb
  have HA := HA0.below hB
  have sw1 : Hid (w.heap.size < w1.heap.size) := by have hq := hb.size; simp at hq; show w.heap.size < w1.heap.size; omega
  have hneg : ¬ (r < 0) := by omega
  clear hb hr0 hr1 hn hL
  have hneg2 : ¬ ((1 : Int) + (totT t : Int) < 0) := by omega
  have hneg3 : ¬ ((1 : Int) + (totT tt : Int) < 0) := by omega
  have HTD : Hid (totT t ≤ 13631488) := totT_le HS
  have TA := BA
  obtain ⟨qA0, qA1⟩ := TA
  go_wp2_with fail
  refine (toTree_any t a cap _ HS HA).mono ?_
  rintro e w2 ⟨b1, rfl, hb, ho⟩
  clear qA0 qA1
  replace hB := below_then hB hb
  replace BA := BA.below hb
  replace HA := HA.below hb
  have sw2 : Hid (w1.heap.size ≤ w2.heap.size) := by have hq := hb.size; show w1.heap.size ≤ w2.heap.size; omega
  have OT := ho.wide (Nat.le_refl _) (Nat.le_refl _) (Nat.le_refl _)
  clear ho
  clear hb
  go_wp2_with fail
  refine (HP.out HS _ _ OT.at).mono ?_
  rintro e w3 ⟨aw, cw, rfl, hb, OW⟩
  replace hB := below_then hB hb
  replace BA := BA.below hb
  replace OT := OT.below hb
  replace HA := HA.below hb
  have sw3 : Hid (w2.heap.size ≤ w3.heap.size) := by have hq := hb.size; show w2.heap.size ≤ w3.heap.size; omega
  clear hb
  clear OT
  have TA := BA
  obtain ⟨qA0, qA1⟩ := TA
  have rA0 := fun o : Obj => cell_alloc qA0 o
  have rA1 := fun o : Obj => cell_alloc qA1 o
  go_wp2_with fail
  refine (toTree_any t a cap _ HS (HA.below (below_new _ _))).mono ?_
  rintro e w4 ⟨bx, rfl, hb, ho⟩
  clear qA0 qA1 rA0 rA1
  replace hB := below_then hB (below_then (below_new _ _) hb)
  replace BA := (BA.alloc _).below hb
  have BW := (Box3.new w3 (.int .i64 c) (.int .i64 tt.root) (.slice aw tt.n cw) 49).below hb
  replace OW := (OW.below (below_new _ _)).below hb
  replace HA := (HA.below (below_new _ _)).below hb
  have sw4 : Hid (w3.heap.size < w4.heap.size) := by have hq := hb.size; simp at hq; show w3.heap.size < w4.heap.size; omega
  have OX : OwnNd w4 (w3.heap.size + 1) w4.heap.size _ t.n t.T := ho.wide (by simp) (Nat.le_refl _) (Nat.le_refl _)
  clear ho
  clear hb
  go_wp2_with fail
  refine (HQ.out HS _ _ (OX.at.below (below_new _ _))).mono ?_
  rintro e w5 ⟨ag, cg, rfl, hb, ho⟩
  replace hB := below_then hB (below_then (below_new _ _) hb)
  replace BA := (BA.alloc _).below hb
  replace BW := (BW.alloc _).below hb
  have BX := (Box2.new w4 (.int .i64 t.root) (.slice (some ⟨bx, 0, none⟩) t.n t.n) 29).below hb
  replace OW := (OW.below (below_new _ _)).below hb
  replace OX := (OX.below (below_new _ _)).below hb
  replace HA := (HA.below (below_new _ _)).below hb
  have sw5 : Hid (w4.heap.size < w5.heap.size) := by have hq := hb.size; simp at hq; show w4.heap.size < w5.heap.size; omega
  have OG : OwnNd w5 (w4.heap.size + 1) w5.heap.size ag tt.n tt.T := ho.wide (by simp) (Nat.le_refl _) (Nat.le_refl _)
  clear ho
  clear hb
  have TW := BW
  obtain ⟨qW0, qW1, qW2⟩ := TW
  have rW0 := fun o : Obj => cell_alloc qW0 o
  have rW1 := fun o : Obj => cell_alloc qW1 o
  have rW2 := fun o : Obj => cell_alloc qW2 o
  go_wp2_with fail
  refine (eqTreeResult_same c tt ag aw cg cw _ hST (OG.at.below (below_new _ _)) (OW.at.below (below_new _ _))).mono ?_
  rintro e w6 ⟨rfl, hb⟩
  clear qW0 qW1 qW2 rW0 rW1 rW2
  replace hB := below_then hB (below_then (below_new _ _) hb)
  replace BA := (BA.alloc _).below hb
  replace BW := (BW.alloc _).below hb
  replace BX := (BX.alloc _).below hb
  have BG := (Box3.new w5 (.int .i64 c) (.int .i64 tt.root) (.slice ag tt.n cg) 49).below hb
  replace OW := (OW.below (below_new _ _)).below hb
  replace OX := (OX.below (below_new _ _)).below hb
  replace OG := (OG.below (below_new _ _)).below hb
  replace HA := (HA.below (below_new _ _)).below hb
  have sw6 : Hid (w5.heap.size < w6.heap.size) := by have hq := hb.size; simp at hq; show w5.heap.size < w6.heap.size; omega
  clear hb
  have TX := BX
  obtain ⟨qX0, qX1⟩ := TX
  have TA := BA
  obtain ⟨qA0, qA1⟩ := TA
  go_wp2_with fail
  have hb0 : Below w6.heap.size w6 w6.drew := (Below.refl _ _).drew
  go_region_held3 (fun w' => Below w6.heap.size w6 w' ∧ w'.cell? ⟨w4.heap.size, 0, none⟩ = some (.int .i64 t.root) ∧ w'.cell? ⟨w4.heap.size, 1, none⟩ = some (.slice (some ⟨bx, 0, none⟩) t.n t.n) ∧ w'.cell? ⟨w.heap.size, 0, none⟩ = some (.int .i64 t.root) ∧ w'.cell? ⟨w.heap.size, 1, none⟩ = some (.slice a t.n cap)) (go_keep)
    (first | (go_at_call 13; refine (toTree_any t a cap _ HS (HA.below (by simp [*]))).mono ?_; rintro e wq ⟨bq, rfl, hbq, hoq⟩; have hU := below_then (w := w6) (by simp [*]) hbq; have hU0 := cell_below (B := w4.heap.size) (o := 0) (v := .int .i64 t.root) (by simp [*]) hbq; have hU1 := cell_below (B := w4.heap.size) (o := 1) (v := .slice (some ⟨bx, 0, none⟩) t.n t.n) (by simp [*]) hbq; have hU2 := cell_below (B := w.heap.size) (o := 0) (v := .int .i64 t.root) (by simp [*]) hbq; have hU3 := cell_below (B := w.heap.size) (o := 1) (v := .slice a t.n cap) (by simp [*]) hbq) | (go_at_call 15; refine (eqTree_same t _ _ t.n t.n _ HS (OX.at.below (by simp [*])) hoq.at).mono ?_; rintro e w7 ⟨rfl, hbz⟩; have hS := below_then (w := w6) (by simp [*]) hbz; have hS0 := cell_below (B := w4.heap.size) (o := 0) (v := .int .i64 t.root) (by simp [*]) hbz; have hS1 := cell_below (B := w4.heap.size) (o := 1) (v := .slice (some ⟨bx, 0, none⟩) t.n t.n) (by simp [*]) hbz; have hS2 := cell_below (B := w.heap.size) (o := 0) (v := .int .i64 t.root) (by simp [*]) hbz; have hS3 := cell_below (B := w.heap.size) (o := 1) (v := .slice a t.n cap) (by simp [*]) hbz))
  clear qX0 qX1 qA0 qA1
  clear hb0 hU hU0 hU1 hU2 hU3 hS0 hS1 hS2 hS3 hbq hoq hbz
  replace hB := below_then hB hS
  replace BA := BA.below hS
  replace BW := BW.below hS
  replace BX := BX.below hS
  replace BG := BG.below hS
  replace OW := OW.below hS
  replace OX := OX.below hS
  replace OG := OG.below hS
  replace HA := HA.below hS
  have sw7 : Hid (w6.heap.size ≤ w7.heap.size) := by have hq := hS.size; show w6.heap.size ≤ w7.heap.size; omega
  clear hS
  have TX := BX
  obtain ⟨qX0, qX1⟩ := TX
  go_wp2_with fail
  refine (markTree_any t _ t.n (w3.heap.size + 1) w4.heap.size 1 _ HS (by omega) (by omega) OX).mono ?_
  rintro e w8 ⟨rfl, hw, hox⟩
  clear qX0 qX1
  replace hB := Writes.below hB hw (by have t0 := sw1.out; have t1 := sw2.out; have t2 := sw3.out; have t3 := sw4.out; have t4 := sw5.out; have t5 := sw6.out; have t6 := sw7.out; omega)
  replace BA := BA.writes hw (by have t0 := sw1.out; have t1 := sw2.out; have t2 := sw3.out; have t3 := sw4.out; have t4 := sw5.out; have t5 := sw6.out; have t6 := sw7.out; omega)
  replace BW := BW.writes hw (by have t0 := sw1.out; have t1 := sw2.out; have t2 := sw3.out; have t3 := sw4.out; have t4 := sw5.out; have t5 := sw6.out; have t6 := sw7.out; omega)
  replace BX := BX.writes hw (by have t0 := sw1.out; have t1 := sw2.out; have t2 := sw3.out; have t3 := sw4.out; have t4 := sw5.out; have t5 := sw6.out; have t6 := sw7.out; omega)
  replace BG := BG.writes hw (by have t0 := sw1.out; have t1 := sw2.out; have t2 := sw3.out; have t3 := sw4.out; have t4 := sw5.out; have t5 := sw6.out; have t6 := sw7.out; omega)
  replace OW := OW.writes hw (by have t0 := sw1.out; have t1 := sw2.out; have t2 := sw3.out; have t3 := sw4.out; have t4 := sw5.out; have t5 := sw6.out; have t6 := sw7.out; omega)
  replace OG := OG.writes hw (by have t0 := sw1.out; have t1 := sw2.out; have t2 := sw3.out; have t3 := sw4.out; have t4 := sw5.out; have t5 := sw6.out; have t6 := sw7.out; omega)
  replace HA := HA0.below hB
  have sw8 : Hid (w7.heap.size ≤ w8.heap.size) := by have hq := hw.size; show w7.heap.size ≤ w8.heap.size; omega
  clear hw
  clear hox OX
  have TG := BG
  obtain ⟨qG0, qG1, qG2⟩ := TG
  have TW := BW
  obtain ⟨qW0, qW1, qW2⟩ := TW
  go_wp2_with fail
  refine (eqTreeResult_same c tt ag aw cg cw _ hST OG.at OW.at).mono ?_
  rintro e w9 ⟨rfl, hb⟩
  clear qG0 qG1 qG2 qW0 qW1 qW2
  replace hB := below_then hB hb
  replace BA := BA.below hb
  replace BW := BW.below hb
  replace BX := BX.below hb
  replace BG := BG.below hb
  replace OW := OW.below hb
  replace OG := OG.below hb
  replace HA := HA.below hb
  have sw9 : Hid (w8.heap.size ≤ w9.heap.size) := by have hq := hb.size; show w8.heap.size ≤ w9.heap.size; omega
  clear hb
  have TG := BG
  obtain ⟨qG0, qG1, qG2⟩ := TG
  go_wp2_with fail
  refine (markTreeResult_any c tt ag cg (w4.heap.size + 1) w5.heap.size _ hST OG).mono ?_
  rintro e w10 ⟨rfl, hw, hog⟩
  clear qG0 qG1 qG2
  replace hB := Writes.below hB hw (by have t0 := sw1.out; have t1 := sw2.out; have t2 := sw3.out; have t3 := sw4.out; have t4 := sw5.out; have t5 := sw6.out; have t6 := sw7.out; have t7 := sw8.out; have t8 := sw9.out; omega)
  replace BA := BA.writes hw (by have t0 := sw1.out; have t1 := sw2.out; have t2 := sw3.out; have t3 := sw4.out; have t4 := sw5.out; have t5 := sw6.out; have t6 := sw7.out; have t7 := sw8.out; have t8 := sw9.out; omega)
  replace BW := BW.writes hw (by have t0 := sw1.out; have t1 := sw2.out; have t2 := sw3.out; have t3 := sw4.out; have t4 := sw5.out; have t5 := sw6.out; have t6 := sw7.out; have t7 := sw8.out; have t8 := sw9.out; omega)
  replace BX := BX.writes hw (by have t0 := sw1.out; have t1 := sw2.out; have t2 := sw3.out; have t3 := sw4.out; have t4 := sw5.out; have t5 := sw6.out; have t6 := sw7.out; have t7 := sw8.out; have t8 := sw9.out; omega)
  replace BG := BG.writes hw (by have t0 := sw1.out; have t1 := sw2.out; have t2 := sw3.out; have t3 := sw4.out; have t4 := sw5.out; have t5 := sw6.out; have t6 := sw7.out; have t7 := sw8.out; have t8 := sw9.out; omega)
  replace OW := OW.writes hw (by have t0 := sw1.out; have t1 := sw2.out; have t2 := sw3.out; have t3 := sw4.out; have t4 := sw5.out; have t5 := sw6.out; have t6 := sw7.out; have t7 := sw8.out; have t8 := sw9.out; omega)
  replace HA := HA0.below hB
  have sw10 : Hid (w9.heap.size ≤ w10.heap.size) := by have hq := hw.size; show w9.heap.size ≤ w10.heap.size; omega
  clear hw
  clear OG
  have OG := hog
  clear hog
  have TG := BG
  obtain ⟨qG0, qG1, qG2⟩ := TG
  go_wp2_with fail
  refine (heldTreeResult_any c tt ag cg tt.root _ hST OG.at).mono ?_
  rintro e w11 ⟨rfl, hb⟩
  clear qG0 qG1 qG2
  replace hB := below_then hB hb
  replace BA := BA.below hb
  replace BW := BW.below hb
  replace BX := BX.below hb
  replace BG := BG.below hb
  replace OW := OW.below hb
  replace OG := OG.below hb
  replace HA := HA.below hb
  have sw11 : Hid (w10.heap.size ≤ w11.heap.size) := by have hq := hb.size; show w10.heap.size ≤ w11.heap.size; omega
  clear hb
  have TA := BA
  obtain ⟨qA0, qA1⟩ := TA
  go_wp2_with fail
  refine (toTree_any t a cap _ HS HA).mono ?_
  rintro e w12 ⟨bv, rfl, hb, ho⟩
  clear qA0 qA1
  replace hB := below_then hB hb
  replace BA := BA.below hb
  replace BW := BW.below hb
  replace BX := BX.below hb
  replace BG := BG.below hb
  replace OW := OW.below hb
  replace OG := OG.below hb
  replace HA := HA.below hb
  have sw12 : Hid (w11.heap.size ≤ w12.heap.size) := by have hq := hb.size; show w11.heap.size ≤ w12.heap.size; omega
  have OT := ho.wide (Nat.le_refl _) (Nat.le_refl _) (Nat.le_refl _)
  clear ho
  clear hb
  go_wp2_with fail
  refine (HQ.out HS _ _ OT.at).mono ?_
  rintro e w13 ⟨ah, ch, rfl, hb, OH⟩
  replace hB := below_then hB hb
  replace BA := BA.below hb
  replace BW := BW.below hb
  replace BX := BX.below hb
  replace BG := BG.below hb
  replace OW := OW.below hb
  replace OG := OG.below hb
  replace OT := OT.below hb
  replace HA := HA.below hb
  have sw13 : Hid (w12.heap.size ≤ w13.heap.size) := by have hq := hb.size; show w12.heap.size ≤ w13.heap.size; omega
  clear hb
  clear OT
  have TW := BW
  obtain ⟨qW0, qW1, qW2⟩ := TW
  have rW0 := fun o : Obj => cell_alloc qW0 o
  have rW1 := fun o : Obj => cell_alloc qW1 o
  have rW2 := fun o : Obj => cell_alloc qW2 o
  go_wp2_with fail
  refine (eqTreeResult_same c tt ah aw ch cw _ hST (OH.at.below (below_new _ _)) (OW.at.below (below_new _ _))).mono ?_
  rintro e w14 ⟨rfl, hb⟩
  clear qW0 qW1 qW2 rW0 rW1 rW2
  replace hB := below_then hB (below_then (below_new _ _) hb)
  replace BA := (BA.alloc _).below hb
  replace BW := (BW.alloc _).below hb
  replace BX := (BX.alloc _).below hb
  replace BG := (BG.alloc _).below hb
  have BH := (Box3.new w13 (.int .i64 c) (.int .i64 tt.root) (.slice ah tt.n ch) 49).below hb
  replace OW := (OW.below (below_new _ _)).below hb
  replace OG := (OG.below (below_new _ _)).below hb
  replace OH := (OH.below (below_new _ _)).below hb
  replace HA := (HA.below (below_new _ _)).below hb
  have sw14 : Hid (w13.heap.size < w14.heap.size) := by have hq := hb.size; simp at hq; show w13.heap.size < w14.heap.size; omega
  clear hb
  have TG := BG
  obtain ⟨qG0, qG1, qG2⟩ := TG
  go_wp2_with fail
  refine (heldTreeResult_any c tt ag cg tt.root _ hST OG.at).mono ?_
  rintro e w15 ⟨rfl, hb⟩
  clear qG0 qG1 qG2
  replace hB := below_then hB hb
  replace BA := BA.below hb
  replace BW := BW.below hb
  replace BX := BX.below hb
  replace BG := BG.below hb
  replace BH := BH.below hb
  replace OW := OW.below hb
  replace OG := OG.below hb
  replace OH := OH.below hb
  replace HA := HA.below hb
  have sw15 : Hid (w14.heap.size ≤ w15.heap.size) := by have hq := hb.size; show w14.heap.size ≤ w15.heap.size; omega
  clear hb
  go_wp2_with fail
  go_ret
  exact ⟨rfl, hB⟩
theorem cutKeyLaw (t : Tr) (a : Option Addr) (cap : Nat) (key : Int) (w : World) (hn : t.n ≤ 9223372036854775807) (hL : ∀ i, i < t.n → (t.T i).kn ≤ 9223372036854775807 ∧ (t.T i).dn ≤ 9223372036854775807) (HA0 : NdsAt w a t.n t.T) :
    Calls Try.prog 8 #[.agg #[.int .i64 t.root, .slice a t.n cap], .int .i64 key] w fun e w' => e = .returned (.bool true) ∧ Below w.heap.size w w' :=
  cutKeyLaw_small t a cap key w hn hL HA0 (ckC t key) (ckT t key) (ck_small t key) (fun hs a w h => specCk_any t key a t.n w hs h) (fun hs a w h => implCk_any t key a t.n w hs h)
end Go.Proofs.Ytbnehgpefjbheaa
