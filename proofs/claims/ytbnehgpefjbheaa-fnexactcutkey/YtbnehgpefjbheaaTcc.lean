/- spec.l4Copy. -/
import Derived.Test.YtbnehgpefjbheaaTcb
namespace Go.Proofs.Ytbnehgpefjbheaa
open Go.RowKit Go.Deep
set_option linter.unusedVariables false
set_option maxRecDepth 20000

set_option maxHeartbeats 8000000 in
theorem l4Copy_any (t0 : Tr) (a : Option Addr) (cap : Nat) (w : World) (hn : t0.n ≤ 60) (hb : ∀ i, i < t0.n → (t0.T i).kn ≤ 1000 ∧ (t0.T i).dn ≤ 1000) (h : NdsAt w a t0.n t0.T) :
    Calls Try.prog 61 #[.agg #[.int .i64 t0.root, .slice a t0.n cap]] w (CTr t0 w) := by
  obtain ⟨q, hq⟩ : ∃ q : Int, q = t0.root := ⟨_, rfl⟩
  have HX : Hid (NdsAt w a t0.n t0.T) := h
  have HBB : Hid (∀ i, i < t0.n → (t0.T i).kn ≤ 1000 ∧ (t0.T i).dn ≤ 1000) := hb
  have HI : Hid (∀ o1 o2 o3 : Obj, o1 = .cells #[.int .i64 t0.root, .slice a t0.n cap] 29 → o2 = .cells #[.int .i64 0, .slice none 0 0] 29 → o3 = .cells #[.int .i64 t0.root, .slice none 0 0] 29 → CpT w (((w.alloc o1).alloc o2).alloc o3) w.heap.size (w.heap.size + 1) (w.heap.size + 2) (w.heap.size + 3) a t0.n cap t0.root (.slice none 0 0)) := by
    rintro o1 o2 o3 rfl rfl rfl
    exact ⟨(((Below.refl _ _).alloc (Nat.le_refl _) _).alloc (by simp) _).alloc (by simp; omega) _, by omega, by omega, by omega, by omega, by simp, ⟨by simp [go_sem], by simp [go_sem]⟩, ⟨by simp [go_sem], by simp [go_sem]⟩, fun o => by simp [go_sem], ⟨by simp [go_sem], by simp [go_sem]⟩, fun o => by simp [go_sem]⟩
  clear h hb hq
  go_enter Try.func61, Try.ntmps61
  go_wp2_with fail
  go_loopw [4] (fun i wr => ∃ k : Nat, ∃ v, k ≤ t0.n ∧ i = .int .i64 k ∧ Hid (CpT w wr w.heap.size (w.heap.size + 1) (w.heap.size + 2) (w.heap.size + 3) a t0.n cap t0.root v) ∧ Hid (GrNd (w.heap.size + 3) wr.heap.size wr v k t0.T)) (fun i _ => t0.n - (intOf i).toNat)
  case atStart => exact ⟨0, .slice none 0 0, Nat.zero_le _, rfl, HI.out _ _ _ rfl rfl rfl, GrNd.nil _ _ _⟩
  case round =>
    obtain ⟨k, v, hk, rfl, HC, HG⟩ := hrel
    have hsz := HC.out.hsz
    obtain ⟨z0, z1⟩ := HC.out.t
    by_cases hlt : k < t0.n
    · have hlt' : (k : Int) < (t0.n : Int) := by omega
      have hk0 : (0 : Int) ≤ (k : Int) := by omega
      rcases HX.out.below HC.out.below with h | ⟨bb, off, rfl, hl, hcc⟩
      · omega
      obtain ⟨ak, ck, ad, cd, ⟨x0, x1, x2⟩, hy1, hy2, -⟩ := hcc k hlt
      have HK1 : Hid (IntsAt wr ak (t0.T k).kn (t0.T k).K) := hy1
      have HK2 : Hid (IntsAt wr ad (t0.T k).dn (t0.T k).D) := hy2
      clear hcc hy1 hy2 HI
      go_upto_region 6 with fail
      obtain ⟨W, hW⟩ : ∃ x, x = wr.alloc (.cells #[.bool (t0.T k).lf, .slice ak (t0.T k).kn ck, .slice ad (t0.T k).dn cd] 63) := ⟨_, rfl⟩
      rw [← hW]
      have hbW : Below wr.heap.size wr W := by rw [hW]; exact below_new _ _
      have n0 : W.cell? ⟨wr.heap.size, 0, none⟩ = some (.bool (t0.T k).lf) := by rw [hW]; simp [go_sem]
      have n1 : W.cell? ⟨wr.heap.size, 1, none⟩ = some (.slice ak (t0.T k).kn ck) := by rw [hW]; simp [go_sem]
      have n2 : W.cell? ⟨wr.heap.size, 2, none⟩ = some (.slice ad (t0.T k).dn cd) := by rw [hW]; simp [go_sem]
      clear hW
      have HC1 := HC.out.mono hbW
      have c3 : W.cell? ⟨w.heap.size + 2, 1, none⟩ = some v := HC1.b.2
      have HFO : Hid (∀ u, Writes (w.heap.size + 3) wr.heap.size W u → u.frozen? ⟨w.heap.size + 2, 1, none⟩ = false) := fun u hu => (HC1.far hu (Nat.le_refl _)).bf 1
      have HK : Hid (IntsAt W ak (t0.T k).kn (t0.T k).K) := HK1.out.below hbW
      have HD : Hid (IntsAt W ad (t0.T k).dn (t0.T k).D) := HK2.out.below hbW
      have HBd : Hid ((t0.T k).kn ≤ 100000 ∧ (t0.T k).dn ≤ 100000) := by have := HBB.out k hlt; exact ⟨by omega, by omega⟩
      have HOM : Hid (w.heap.size + 2 < w.heap.size + 3) := Nat.lt_succ_self _
      have HTN : Hid (wr.heap.size ≤ wr.heap.size) := Nat.le_refl _
      have HTW : Hid (wr.heap.size ≤ W.heap.size) := hbW.size
      have HMT : Hid (w.heap.size + 3 ≤ wr.heap.size) := hsz
      have HKL : Hid (k ≤ 100000) := by show k ≤ 100000; omega
      have HVG : Hid (∀ q, v.ownBlock = some q → w.heap.size + 3 ≤ q ∧ q < wr.heap.size) := HG.out.blk
      have HDR : Hid (Below W.heap.size W W.drew) := (Below.refl _ _).drew
      have HS4 : Hid (∀ u, Below W.heap.size W u → Writes (w.heap.size + 3) wr.heap.size W u) := fun u hu => Writes.of_below hu
      have HCR : Hid (∀ w5 g cap2, Writes (w.heap.size + 3) wr.heap.size W w5 → GrNd (w.heap.size + 3) w5.heap.size w5 (.slice (some ⟨g, 0, none⟩) (k + 1) cap2) (k + 1) (upf t0.T k (t0.T k)) → CpT w (w5.setCell ⟨w.heap.size + 2, 1, none⟩ (.slice (some ⟨g, 0, none⟩) (k + 1) cap2)) w.heap.size (w.heap.size + 1) (w.heap.size + 2) (w.heap.size + 3) (some ⟨bb, off, none⟩) t0.n cap t0.root (.slice (some ⟨g, 0, none⟩) (k + 1) cap2) ∧
        GrNd (w.heap.size + 3) (w5.setCell ⟨w.heap.size + 2, 1, none⟩ (.slice (some ⟨g, 0, none⟩) (k + 1) cap2)).heap.size (w5.setCell ⟨w.heap.size + 2, 1, none⟩ (.slice (some ⟨g, 0, none⟩) (k + 1) cap2)) (.slice (some ⟨g, 0, none⟩) (k + 1) cap2) (k + 1) t0.T) := fun w5 g cap2 h1 h2 => cpt_round HC1 h1 h2
      have HG2 : Hid (GrNd (w.heap.size + 3) wr.heap.size W v k t0.T) := HG.out.below hbW
      clear HG HC HC1 HK1 HK2 hbW x0 x1 x2 z0 z1 hl hsz
      have HG := HG2
      clear HG2
      refine wp_region_E 16 (S := fun u => Writes (w.heap.size + 3) wr.heap.size W u) (by kernel_rfl) (Writes.of_below HDR.out) (fun hS => ?_)
      obtain ⟨W0, hW0⟩ : ∃ x, x = W.drew := ⟨_, rfl⟩
      have hB : Below W.heap.size W W0 := by rw [hW0]; exact HDR.out
      rw [← hW0] at hS ⊢
      clear hW0
      refine wpAnyE_takeD (i := 0) (v := .pointer (some ⟨w.heap.size + 2, 1, none⟩)) (some 21) rfl rfl (by kernel_rfl) (by kernel_rfl) (by kernel_rfl) (by kernel_rfl) (fun _ _ _ h => h) (Or.inl ⟨by kernel_rfl, by intro u hSu; go_simp⟩) hS ?_
      try simp only [Act.put, List.setIfInBounds_toArray, List.set_cons_zero, List.set_cons_succ]
      refine wpAnyE_takeD (i := 1) (v := v) (some 22) rfl rfl (by kernel_rfl) (by kernel_rfl) (by kernel_rfl) (by kernel_rfl) (fun _ _ _ h => h) (Or.inl ⟨by kernel_rfl, by intro u hSu; have h3 := cell_writes c3 hSu (.inl HOM.out); go_simp⟩) hS ?_
      try simp only [Act.put, List.setIfInBounds_toArray, List.set_cons_zero, List.set_cons_succ]
      refine wpAnyE_takeD (i := 2) (v := .pointer (some ⟨wr.heap.size, 0, none⟩)) (some 23) rfl rfl (by kernel_rfl) (by kernel_rfl) (by kernel_rfl) (by kernel_rfl) (fun _ _ _ h => h) (Or.inl ⟨by kernel_rfl, by intro u hSu; go_simp⟩) hS ?_
      try simp only [Act.put, List.setIfInBounds_toArray, List.set_cons_zero, List.set_cons_succ]
      refine wpAnyE_takeD (i := 3) (v := .bool (t0.T k).lf) (some 24) rfl rfl (by kernel_rfl) (by kernel_rfl) (by kernel_rfl) (by kernel_rfl) (fun _ _ _ h => h) (Or.inl ⟨by kernel_rfl, by intro u hSu; have h0 := cell_writes n0 hSu (.inr HTN.out); have h1 := cell_writes n1 hSu (.inr HTN.out); have h2 := cell_writes n2 hSu (.inr HTN.out); go_simp⟩) hS ?_
      try simp only [Act.put, List.setIfInBounds_toArray, List.set_cons_zero, List.set_cons_succ]
      refine wpAnyE_takeD (i := 5) (v := .pointer (some ⟨wr.heap.size, 1, none⟩)) (some 26) rfl rfl (by kernel_rfl) (by kernel_rfl) (by kernel_rfl) (by kernel_rfl) (fun _ _ _ h => h) (Or.inl ⟨by kernel_rfl, by intro u hSu; go_simp⟩) hS ?_
      try simp only [Act.put, List.setIfInBounds_toArray, List.set_cons_zero, List.set_cons_succ]
      refine wpAnyE_takeD (i := 6) (v := .slice ak (t0.T k).kn ck) (some 27) rfl rfl (by kernel_rfl) (by kernel_rfl) (by kernel_rfl) (by kernel_rfl) (fun _ _ _ h => h) (Or.inl ⟨by kernel_rfl, by intro u hSu; have h0 := cell_writes n0 hSu (.inr HTN.out); have h1 := cell_writes n1 hSu (.inr HTN.out); have h2 := cell_writes n2 hSu (.inr HTN.out); go_simp⟩) hS ?_
      try simp only [Act.put, List.setIfInBounds_toArray, List.set_cons_zero, List.set_cons_succ]
      refine wpAnyE_takeD (i := 9) (v := .pointer (some ⟨wr.heap.size, 2, none⟩)) (some 30) rfl rfl (by kernel_rfl) (by kernel_rfl) (by kernel_rfl) (by kernel_rfl) (fun _ _ _ h => h) (Or.inl ⟨by kernel_rfl, by intro u hSu; go_simp⟩) hS ?_
      try simp only [Act.put, List.setIfInBounds_toArray, List.set_cons_zero, List.set_cons_succ]
      refine wpAnyE_takeD (i := 10) (v := .slice ad (t0.T k).dn cd) (some 31) rfl rfl (by kernel_rfl) (by kernel_rfl) (by kernel_rfl) (by kernel_rfl) (fun _ _ _ h => h) (Or.inl ⟨by kernel_rfl, by intro u hSu; have h0 := cell_writes n0 hSu (.inr HTN.out); have h1 := cell_writes n1 hSu (.inr HTN.out); have h2 := cell_writes n2 hSu (.inr HTN.out); go_simp⟩) hS ?_
      try simp only [Act.put, List.setIfInBounds_toArray, List.set_cons_zero, List.set_cons_succ]
      refine wpAnyE_ready (rs := [4, 8]) (by kernel_rfl) (by simp) ?_
      refine AllReadyE.cons rfl (fun K hK => ?_) (AllReadyE.cons rfl (fun K hK => ?_) AllReadyE.nil)
      · refine step_bs0 _ (some 25) rfl rfl rfl (fun pK w1 hbw1 => ?_)
        have hB9 := below_then hB hbw1
        clear hB
        have hB := hB9
        clear hB9
        refine hK.out _ _ (HS4.out _ hB) (fun hS9 => ?_)
        try simp only [Act.put, List.setIfInBounds_toArray, List.set_cons_zero, List.set_cons_succ]
        clear hK K hS
        have hS := hS9
        clear hS9
        refine wpAnyE_ready (rs := [7, 8]) (by kernel_rfl) (by simp) ?_
        refine AllReadyE.cons rfl (fun K hK => ?_) (AllReadyE.cons rfl (fun K hK => ?_) AllReadyE.nil)
        · have hLo := hB.size
          refine step_app0 _ (some 28) rfl rfl (.tmp 25) (.tmp 27) rfl pK rfl ak (t0.T k).kn ck (t0.T k).K rfl (HK.out.below hB) HBd.out.1 (fun vK w2 hNK hbw2 => ?_)
          have hB9 := below_then hB hbw2
          clear hB
          have hB := hB9
          clear hB9
          refine hK.out _ _ (HS4.out _ hB) (fun hS9 => ?_)
          try simp only [Act.put, List.setIfInBounds_toArray, List.set_cons_zero, List.set_cons_succ]
          clear hK K hS
          have hS := hS9
          clear hS9
          refine wpAnyE_ready (rs := [8]) (by kernel_rfl) (by simp) ?_
          refine AllReadyE.cons rfl (fun K hK => ?_) AllReadyE.nil
          refine step_bs0 _ (some 29) rfl rfl rfl (fun pD w3 hbw3 => ?_)
          have hB9 := below_then hB hbw3
          clear hB
          have hB := hB9
          clear hB9
          refine hK.out _ _ (HS4.out _ hB) (fun hS9 => ?_)
          try simp only [Act.put, List.setIfInBounds_toArray, List.set_cons_zero, List.set_cons_succ]
          clear hK K hS
          have hS := hS9
          clear hS9
          refine wpAnyE_ready (rs := [11]) (by kernel_rfl) (by simp) ?_
          refine AllReadyE.cons rfl (fun K hK => ?_) AllReadyE.nil
          refine step_app0 _ (some 32) rfl rfl (.tmp 29) (.tmp 31) rfl pD rfl ad (t0.T k).dn cd (t0.T k).D rfl (HD.out.below hB) HBd.out.2 (fun vD w4 hND hbw4 => ?_)
          have hB9 := below_then hB hbw4
          clear hB
          have hB := hB9
          clear hB9
          refine hK.out _ _ (HS4.out _ hB) (fun hS9 => ?_)
          try simp only [Act.put, List.setIfInBounds_toArray, List.set_cons_zero, List.set_cons_succ]
          clear hK K hS
          have hS := hS9
          clear hS9
          obtain ⟨ai, rfl, rfl, hn1, hn2, hKD⟩ := NewI.kd hNK hND (hbw2).size (hbw3).size (below_then hbw3 hbw4)
          refine wpAnyE_takeD (i := 12) (v := .agg #[.bool (t0.T k).lf, .slice ai.1 (t0.T k).kn ai.2.1, .slice ai.2.2.1 (t0.T k).dn ai.2.2.2]) (some 33) rfl rfl (by kernel_rfl) (by kernel_rfl) (by kernel_rfl) (by kernel_rfl) (fun _ _ _ h => h) (Or.inl ⟨by kernel_rfl, by intro u hSu; go_simp⟩) hS ?_
          try simp only [Act.put, List.setIfInBounds_toArray, List.set_cons_zero, List.set_cons_succ]
          refine wpAnyE_ready (rs := [13]) (by kernel_rfl) (by simp) ?_
          refine AllReadyE.cons rfl (fun K hK => ?_) AllReadyE.nil
          refine step_bsNd _ (some 34) rfl rfl _ rfl (t0.T k) ai rfl (fun X w5 hC hbw5 => ?_)
          have hB9 := below_then hB hbw5
          clear hB
          have hB := hB9
          clear hB9
          have hKD2 := hKD.writes (Writes.of_below (lo := w4.heap.size) (hi := w4.heap.size) hbw5) (.inl (Nat.le_refl _))
          have hzz := (hbw5).size
          refine hK.out _ _ (HS4.out _ hB) (fun hS9 => ?_)
          try simp only [Act.put, List.setIfInBounds_toArray, List.set_cons_zero, List.set_cons_succ]
          clear hK K hS
          have hS := hS9
          clear hS9
          refine wpAnyE_ready (rs := [14]) (by kernel_rfl) (by simp) ?_
          refine AllReadyE.cons rfl (fun K hK => ?_) AllReadyE.nil
          refine step_grNdD _ (some 35) rfl rfl (.tmp 22) (.tmp 34) rfl (w.heap.size + 3) wr.heap.size v k t0.T rfl (HG.out.below hB) X 0 1 (t0.T k) ai w1.heap.size w4.heap.size rfl hC (.inr ⟨by have := HTW.out; omega, hzz⟩) HMT.out hn1 hn2 hKD2 HKL.out (fun g cap2 w6 hgr hg => ?_)
          have hW5 : Writes (w.heap.size + 3) wr.heap.size W w6 := (Writes.of_below hB).trans (grown_top hg HVG.out)
          refine hK.out _ _ hW5 (fun hS9 => ?_)
          try simp only [Act.put, List.setIfInBounds_toArray, List.set_cons_zero, List.set_cons_succ]
          clear hK K hS
          have hS := hS9
          clear hS9
          refine wpAnyE_takeD (i := 15) (v := .pointer (some ⟨w.heap.size + 2, 1, none⟩)) (some 36) rfl rfl (by kernel_rfl) (by kernel_rfl) (by kernel_rfl) (by kernel_rfl) (fun _ _ _ h => h) (Or.inl ⟨by kernel_rfl, by intro u hSu; go_simp⟩) hS ?_
          try simp only [Act.put, List.setIfInBounds_toArray, List.set_cons_zero, List.set_cons_succ]
          refine wpAnyE_ready (rs := [16]) (by kernel_rfl) (by simp) ?_
          refine AllReadyE.last rfl (fun K hK => ?_)
          have cO := cell_writes c3 hW5 (.inl HOM.out)
          have fO := HFO.out _ hW5
          go_simp
          refine hK.out _ _ ?_
          clear hK K hS
          refine wpAnyE_done (by kernel_rfl) ?_ _
          go_simp
          obtain ⟨HR1, HR2⟩ := HCR.out _ _ _ hW5 hgr
          have HR3 : Hid (CpT _ _ _ _ _ _ _ _ _ _ _) := HR1
          have HR4 : Hid (GrNd _ _ _ _ _ _) := HR2
          clear HR1 HR2 hW5 hgr
          go_wp2_with fail
          go_roundw
          case rel => exact ⟨k + 1, _, hlt, by go_num, HR3, HR4⟩
          case measure => simp [intOf]; omega
        · refine step_bs0 _ (some 29) rfl rfl rfl (fun pD w2 hbw2 => ?_)
          have hB9 := below_then hB hbw2
          clear hB
          have hB := hB9
          clear hB9
          refine hK.out _ _ (HS4.out _ hB) (fun hS9 => ?_)
          try simp only [Act.put, List.setIfInBounds_toArray, List.set_cons_zero, List.set_cons_succ]
          clear hK K hS
          have hS := hS9
          clear hS9
          refine wpAnyE_ready (rs := [7]) (by kernel_rfl) (by simp) ?_
          refine AllReadyE.cons rfl (fun K hK => ?_) AllReadyE.nil
          have hLo := hB.size
          refine step_app0 _ (some 28) rfl rfl (.tmp 25) (.tmp 27) rfl pK rfl ak (t0.T k).kn ck (t0.T k).K rfl (HK.out.below hB) HBd.out.1 (fun vK w3 hNK hbw3 => ?_)
          have hB9 := below_then hB hbw3
          clear hB
          have hB := hB9
          clear hB9
          refine hK.out _ _ (HS4.out _ hB) (fun hS9 => ?_)
          try simp only [Act.put, List.setIfInBounds_toArray, List.set_cons_zero, List.set_cons_succ]
          clear hK K hS
          have hS := hS9
          clear hS9
          refine wpAnyE_ready (rs := [11]) (by kernel_rfl) (by simp) ?_
          refine AllReadyE.cons rfl (fun K hK => ?_) AllReadyE.nil
          refine step_app0 _ (some 32) rfl rfl (.tmp 29) (.tmp 31) rfl pD rfl ad (t0.T k).dn cd (t0.T k).D rfl (HD.out.below hB) HBd.out.2 (fun vD w4 hND hbw4 => ?_)
          have hB9 := below_then hB hbw4
          clear hB
          have hB := hB9
          clear hB9
          refine hK.out _ _ (HS4.out _ hB) (fun hS9 => ?_)
          try simp only [Act.put, List.setIfInBounds_toArray, List.set_cons_zero, List.set_cons_succ]
          clear hK K hS
          have hS := hS9
          clear hS9
          obtain ⟨ai, rfl, rfl, hn1, hn2, hKD⟩ := NewI.kd hNK hND (hbw3).size (Nat.le_refl _) hbw4
          refine wpAnyE_takeD (i := 12) (v := .agg #[.bool (t0.T k).lf, .slice ai.1 (t0.T k).kn ai.2.1, .slice ai.2.2.1 (t0.T k).dn ai.2.2.2]) (some 33) rfl rfl (by kernel_rfl) (by kernel_rfl) (by kernel_rfl) (by kernel_rfl) (fun _ _ _ h => h) (Or.inl ⟨by kernel_rfl, by intro u hSu; go_simp⟩) hS ?_
          try simp only [Act.put, List.setIfInBounds_toArray, List.set_cons_zero, List.set_cons_succ]
          refine wpAnyE_ready (rs := [13]) (by kernel_rfl) (by simp) ?_
          refine AllReadyE.cons rfl (fun K hK => ?_) AllReadyE.nil
          refine step_bsNd _ (some 34) rfl rfl _ rfl (t0.T k) ai rfl (fun X w5 hC hbw5 => ?_)
          have hB9 := below_then hB hbw5
          clear hB
          have hB := hB9
          clear hB9
          have hKD2 := hKD.writes (Writes.of_below (lo := w4.heap.size) (hi := w4.heap.size) hbw5) (.inl (Nat.le_refl _))
          have hzz := (hbw5).size
          refine hK.out _ _ (HS4.out _ hB) (fun hS9 => ?_)
          try simp only [Act.put, List.setIfInBounds_toArray, List.set_cons_zero, List.set_cons_succ]
          clear hK K hS
          have hS := hS9
          clear hS9
          refine wpAnyE_ready (rs := [14]) (by kernel_rfl) (by simp) ?_
          refine AllReadyE.cons rfl (fun K hK => ?_) AllReadyE.nil
          refine step_grNdD _ (some 35) rfl rfl (.tmp 22) (.tmp 34) rfl (w.heap.size + 3) wr.heap.size v k t0.T rfl (HG.out.below hB) X 0 1 (t0.T k) ai w2.heap.size w4.heap.size rfl hC (.inr ⟨by have := HTW.out; omega, hzz⟩) HMT.out hn1 hn2 hKD2 HKL.out (fun g cap2 w6 hgr hg => ?_)
          have hW5 : Writes (w.heap.size + 3) wr.heap.size W w6 := (Writes.of_below hB).trans (grown_top hg HVG.out)
          refine hK.out _ _ hW5 (fun hS9 => ?_)
          try simp only [Act.put, List.setIfInBounds_toArray, List.set_cons_zero, List.set_cons_succ]
          clear hK K hS
          have hS := hS9
          clear hS9
          refine wpAnyE_takeD (i := 15) (v := .pointer (some ⟨w.heap.size + 2, 1, none⟩)) (some 36) rfl rfl (by kernel_rfl) (by kernel_rfl) (by kernel_rfl) (by kernel_rfl) (fun _ _ _ h => h) (Or.inl ⟨by kernel_rfl, by intro u hSu; go_simp⟩) hS ?_
          try simp only [Act.put, List.setIfInBounds_toArray, List.set_cons_zero, List.set_cons_succ]
          refine wpAnyE_ready (rs := [16]) (by kernel_rfl) (by simp) ?_
          refine AllReadyE.last rfl (fun K hK => ?_)
          have cO := cell_writes c3 hW5 (.inl HOM.out)
          have fO := HFO.out _ hW5
          go_simp
          refine hK.out _ _ ?_
          clear hK K hS
          refine wpAnyE_done (by kernel_rfl) ?_ _
          go_simp
          obtain ⟨HR1, HR2⟩ := HCR.out _ _ _ hW5 hgr
          have HR3 : Hid (CpT _ _ _ _ _ _ _ _ _ _ _) := HR1
          have HR4 : Hid (GrNd _ _ _ _ _ _) := HR2
          clear HR1 HR2 hW5 hgr
          go_wp2_with fail
          go_roundw
          case rel => exact ⟨k + 1, _, hlt, by go_num, HR3, HR4⟩
          case measure => simp [intOf]; omega
      · refine step_bs0 _ (some 29) rfl rfl rfl (fun pD w1 hbw1 => ?_)
        have hB9 := below_then hB hbw1
        clear hB
        have hB := hB9
        clear hB9
        refine hK.out _ _ (HS4.out _ hB) (fun hS9 => ?_)
        try simp only [Act.put, List.setIfInBounds_toArray, List.set_cons_zero, List.set_cons_succ]
        clear hK K hS
        have hS := hS9
        clear hS9
        refine wpAnyE_ready (rs := [4]) (by kernel_rfl) (by simp) ?_
        refine AllReadyE.cons rfl (fun K hK => ?_) AllReadyE.nil
        refine step_bs0 _ (some 25) rfl rfl rfl (fun pK w2 hbw2 => ?_)
        have hB9 := below_then hB hbw2
        clear hB
        have hB := hB9
        clear hB9
        refine hK.out _ _ (HS4.out _ hB) (fun hS9 => ?_)
        try simp only [Act.put, List.setIfInBounds_toArray, List.set_cons_zero, List.set_cons_succ]
        clear hK K hS
        have hS := hS9
        clear hS9
        refine wpAnyE_ready (rs := [7]) (by kernel_rfl) (by simp) ?_
        refine AllReadyE.cons rfl (fun K hK => ?_) AllReadyE.nil
        have hLo := hB.size
        refine step_app0 _ (some 28) rfl rfl (.tmp 25) (.tmp 27) rfl pK rfl ak (t0.T k).kn ck (t0.T k).K rfl (HK.out.below hB) HBd.out.1 (fun vK w3 hNK hbw3 => ?_)
        have hB9 := below_then hB hbw3
        clear hB
        have hB := hB9
        clear hB9
        refine hK.out _ _ (HS4.out _ hB) (fun hS9 => ?_)
        try simp only [Act.put, List.setIfInBounds_toArray, List.set_cons_zero, List.set_cons_succ]
        clear hK K hS
        have hS := hS9
        clear hS9
        refine wpAnyE_ready (rs := [11]) (by kernel_rfl) (by simp) ?_
        refine AllReadyE.cons rfl (fun K hK => ?_) AllReadyE.nil
        refine step_app0 _ (some 32) rfl rfl (.tmp 29) (.tmp 31) rfl pD rfl ad (t0.T k).dn cd (t0.T k).D rfl (HD.out.below hB) HBd.out.2 (fun vD w4 hND hbw4 => ?_)
        have hB9 := below_then hB hbw4
        clear hB
        have hB := hB9
        clear hB9
        refine hK.out _ _ (HS4.out _ hB) (fun hS9 => ?_)
        try simp only [Act.put, List.setIfInBounds_toArray, List.set_cons_zero, List.set_cons_succ]
        clear hK K hS
        have hS := hS9
        clear hS9
        obtain ⟨ai, rfl, rfl, hn1, hn2, hKD⟩ := NewI.kd hNK hND (hbw3).size (Nat.le_refl _) hbw4
        refine wpAnyE_takeD (i := 12) (v := .agg #[.bool (t0.T k).lf, .slice ai.1 (t0.T k).kn ai.2.1, .slice ai.2.2.1 (t0.T k).dn ai.2.2.2]) (some 33) rfl rfl (by kernel_rfl) (by kernel_rfl) (by kernel_rfl) (by kernel_rfl) (fun _ _ _ h => h) (Or.inl ⟨by kernel_rfl, by intro u hSu; go_simp⟩) hS ?_
        try simp only [Act.put, List.setIfInBounds_toArray, List.set_cons_zero, List.set_cons_succ]
        refine wpAnyE_ready (rs := [13]) (by kernel_rfl) (by simp) ?_
        refine AllReadyE.cons rfl (fun K hK => ?_) AllReadyE.nil
        refine step_bsNd _ (some 34) rfl rfl _ rfl (t0.T k) ai rfl (fun X w5 hC hbw5 => ?_)
        have hB9 := below_then hB hbw5
        clear hB
        have hB := hB9
        clear hB9
        have hKD2 := hKD.writes (Writes.of_below (lo := w4.heap.size) (hi := w4.heap.size) hbw5) (.inl (Nat.le_refl _))
        have hzz := (hbw5).size
        refine hK.out _ _ (HS4.out _ hB) (fun hS9 => ?_)
        try simp only [Act.put, List.setIfInBounds_toArray, List.set_cons_zero, List.set_cons_succ]
        clear hK K hS
        have hS := hS9
        clear hS9
        refine wpAnyE_ready (rs := [14]) (by kernel_rfl) (by simp) ?_
        refine AllReadyE.cons rfl (fun K hK => ?_) AllReadyE.nil
        refine step_grNdD _ (some 35) rfl rfl (.tmp 22) (.tmp 34) rfl (w.heap.size + 3) wr.heap.size v k t0.T rfl (HG.out.below hB) X 0 1 (t0.T k) ai w2.heap.size w4.heap.size rfl hC (.inr ⟨by have := HTW.out; omega, hzz⟩) HMT.out hn1 hn2 hKD2 HKL.out (fun g cap2 w6 hgr hg => ?_)
        have hW5 : Writes (w.heap.size + 3) wr.heap.size W w6 := (Writes.of_below hB).trans (grown_top hg HVG.out)
        refine hK.out _ _ hW5 (fun hS9 => ?_)
        try simp only [Act.put, List.setIfInBounds_toArray, List.set_cons_zero, List.set_cons_succ]
        clear hK K hS
        have hS := hS9
        clear hS9
        refine wpAnyE_takeD (i := 15) (v := .pointer (some ⟨w.heap.size + 2, 1, none⟩)) (some 36) rfl rfl (by kernel_rfl) (by kernel_rfl) (by kernel_rfl) (by kernel_rfl) (fun _ _ _ h => h) (Or.inl ⟨by kernel_rfl, by intro u hSu; go_simp⟩) hS ?_
        try simp only [Act.put, List.setIfInBounds_toArray, List.set_cons_zero, List.set_cons_succ]
        refine wpAnyE_ready (rs := [16]) (by kernel_rfl) (by simp) ?_
        refine AllReadyE.last rfl (fun K hK => ?_)
        have cO := cell_writes c3 hW5 (.inl HOM.out)
        have fO := HFO.out _ hW5
        go_simp
        refine hK.out _ _ ?_
        clear hK K hS
        refine wpAnyE_done (by kernel_rfl) ?_ _
        go_simp
        obtain ⟨HR1, HR2⟩ := HCR.out _ _ _ hW5 hgr
        have HR3 : Hid (CpT _ _ _ _ _ _ _ _ _ _ _) := HR1
        have HR4 : Hid (GrNd _ _ _ _ _ _) := HR2
        clear HR1 HR2 hW5 hgr
        go_wp2_with fail
        go_roundw
        case rel => exact ⟨k + 1, _, hlt, by go_num, HR3, HR4⟩
        case measure => simp [intOf]; omega
    · have hkn : k = t0.n := by omega
      have hnl : ¬ ((k : Int) < (t0.n : Int)) := by omega
      have HG1 : Hid (GrNd (w.heap.size + 3) wr.heap.size wr v t0.n t0.T) := by rw [hkn] at HG; exact HG
      obtain ⟨va, vc, rfl, -⟩ := HG1.out.own
      obtain ⟨b0, b1⟩ := HC.out.b
      obtain ⟨r0, r1⟩ := HC.out.r
      have rf := HC.out.rf
      have HBF := HC.out.below
      have HF : Hid (∀ w7, Writes (w.heap.size + 1) ((w.heap.size + 1) + 1) wr w7 → w7.heap.size = wr.heap.size → CTr t0 w (.returned (.agg #[.int .i64 t0.root, .slice va t0.n vc])) w7) := fun w7 hw hs => by
        refine ⟨_, (w.heap.size + 3), rfl, Writes.below HBF hw (by omega), by omega, ?_⟩
        rw [hs]
        exact HG1.out.writes hw (.inl (by omega))
      clear HG HI HC HG1 HBF
      go_wp2_with fail
      refine bodyPost_ret (v := .agg #[.int .i64 t0.root, .slice va t0.n vc]) (by simp [results, Try.results61, go_sem, *]) rfl ?_
      refine HF.out _ ?_ (by simp [World.setCell])
      repeat (first | with_reducible exact Writes.refl _ _ _ | with_reducible refine Writes.setCell ?_ (by first | omega | (simp <;> omega)) (by first | omega | (simp <;> omega)) _)
end Go.Proofs.Ytbnehgpefjbheaa
