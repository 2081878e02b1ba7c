/- SameAnswers: impl.keysToWrite, impl.sameSeen and the function that compares two open transactions. -/
import Derived.Test.YtnhlcadipkmhhaaGreatQSab
import Derived.Test.YtnhlcadipkmhhaaGreatQScc
import Derived.Test.YtnhlcadipkmhhaaGreatQWae
namespace Go.Proofs.YtnhlcadipkmhhaaGreat
open Go.RowKit Go.Deep
set_option linter.unusedVariables false
set_option linter.unusedSimpArgs false
set_option maxRecDepth 20000

def MyR (E : En) (s : Tx) (w : World) (e : Ending) (w' : World) : Prop := ∃ va vc, e = .returned (.slice va (myE E s).length vc) ∧ Below w.heap.size w w' ∧ IntsAt w' va (myE E s).length (zI (myE E s))
set_option maxHeartbeats 8000000 in
theorem keysToWrite_any (E : En) (a : Option Addr) (cap : Nat) (a' : Option Addr) (cap' : Nat) (j : Nat) (ti : Option Addr) (tc : Nat) (w : World) (h0 : eF E = 0) (hj : j < E.p) (h : EngAt w a a' E) :
    Calls Tryz.prog 44 #[.agg #[.int .i64 E.nx, .int .i64 E.ck, .slice a E.p cap, .slice a' E.q cap'], .agg #[.int .i64 (E.T j).id, .int .i64 (E.T j).am, .int .i64 (E.T j).st, .int .i64 (E.T j).dn, .slice ti (E.T j).n tc]] w (MyR E (E.T j) w) := by
  have HXA : Hid (EngAt w a a' E) := h
  have HH0 : Hid (eF E = 0) := h0
  have HR12 : Hid (∀ i, i < E.q → (E.R i).n ≤ 12) := rows12 h0
  have HSO : Hid (∀ j, j < E.q → ∀ i, i < j → (E.R i).key < (E.R j).key) := keys_rise (eF_good h0).2.2.2
  have h32 := (eF_pq h0).2
  clear h h0
  have HBX : Hid (∀ o1 o2 : Obj, o1 = .cells #[.int .i64 E.nx, .int .i64 E.ck, .slice a E.p cap, .slice a' E.q cap'] 31 → o2 = .cells #[.int .i64 (E.T j).id, .int .i64 (E.T j).am, .int .i64 (E.T j).st, .int .i64 (E.T j).dn, .slice ti (E.T j).n tc] 64 →
      Box4 ((w.alloc o1).alloc o2) w.heap.size (.int .i64 E.nx) (.int .i64 E.ck) (.slice a E.p cap) (.slice a' E.q cap') ∧ CTx ((w.alloc o1).alloc o2) (w.heap.size + 1) 0 (E.T j) ti tc ∧ Below w.heap.size w ((w.alloc o1).alloc o2) ∧ ((w.alloc o1).alloc o2).heap.size = w.heap.size + 2) := by
    rintro o1 o2 rfl rfl
    exact ⟨(Box4.new w _ _ _ _ _).alloc _, by simp [CTx, go_sem], ((Below.refl _ _).alloc (Nat.le_refl _) _).alloc (by simp) _, by simp⟩
  go_enter Tryz.func44, Tryz.ntmps44
  go_wp2_with fail
  obtain ⟨hb4, hct, hbw, hbs⟩ := HBX.out _ _ rfl rfl
  obtain ⟨W, hW⟩ : ∃ y, y = (w.alloc (.cells #[.int .i64 E.nx, .int .i64 E.ck, .slice a E.p cap, .slice a' E.q cap'] 31)).alloc (.cells #[.int .i64 (E.T j).id, .int .i64 (E.T j).am, .int .i64 (E.T j).st, .int .i64 (E.T j).dn, .slice ti (E.T j).n tc] 64) := ⟨_, rfl⟩
  rw [← hW] at hb4 hct hbw hbs ⊢
  have HB4 : Hid (Box4 W w.heap.size (.int .i64 E.nx) (.int .i64 E.ck) (.slice a E.p cap) (.slice a' E.q cap')) := hb4
  have HCT : Hid (CTx W (w.heap.size + 1) 0 (E.T j) ti tc) := hct
  have HBW : Hid (Below w.heap.size w W) := hbw
  have hWs : w.heap.size + 2 ≤ W.heap.size := by omega
  clear hW hb4 hct hbw hbs HBX
  go_loopw [5, 6, 7] (fun v _ i wr => ∃ k : Nat, k ≤ 32 ∧ i = .int .i64 k ∧ Hid (Below W.heap.size W wr) ∧ Hid (wr.ownsRow W.heap.size 2 1 v (myL E (E.T j).am (E.T j).id k).length (il (myL E (E.T j).am (E.T j).id k)))) (fun _ _ i _ => 32 - (intOf i).toNat)
  case atStart => exact ⟨0, Nat.zero_le _, rfl, Below.refl _ _, World.ownsRow_nil _ _ _ _⟩
  case round =>
    obtain ⟨k, hk, rfl, HB, HO⟩ := hrel
    have hszr := HB.out.size
    by_cases hlt : k < 32
    · have hlt' : (k : Int) < 32 := by omega
      have hk0 : (0 : Int) ≤ (k : Int) := by omega
      have HEX : Hid (EngAt wr a a' E) := HXA.out.below (below_then HBW.out HB.out)
      obtain ⟨b0, b1, b2, b3⟩ := HB4.out.below HB.out
      obtain ⟨d0, d1, d2, d3, d4⟩ := HCT.out.block (HB.out.block _ (by omega))
      rw [Nat.zero_add] at d1 d2 d3 d4
      have HLT : Hid (k < 32) := hlt
      have HLK : Hid ((myL E (E.T j).am (E.T j).id k).length ≤ 100000) := by have := myL_len E (E.T j).am (E.T j).id k; show _ ≤ _; omega
      go_upto_region 5 with fail
      refine wp_region_E 999 (S := fun u => Below wr.heap.size wr u) (by kernel_rfl) ((Below.refl _ _).drew) (fun hS => ?_)
      obtain ⟨u0, hu0⟩ : ∃ y, y = wr.drew := ⟨_, rfl⟩
      rw [← hu0] at hS ⊢
      clear hu0
      refine wpAnyE_takeD (L := 999) (i := 0) (v := .agg #[.int .i64 E.nx, .int .i64 E.ck, .slice a E.p cap, .slice a' E.q cap']) (some 10) rfl rfl (by kernel_rfl) (by kernel_rfl) (by kernel_rfl) (by kernel_rfl) (fun _ _ _ h => h) (Or.inl ⟨by kernel_rfl, by intro u hSu; have gb0 := cell_below b0 hSu; have gb1 := cell_below b1 hSu; have gb2 := cell_below b2 hSu; have gb3 := cell_below b3 hSu; go_simp⟩) hS ?_
      try simp only [Act.put, List.setIfInBounds_toArray, List.set_cons_zero, List.set_cons_succ]
      refine wpAnyE_takeD (L := 999) (i := 1) (v := .int .i64 (k : Int)) (some 11) rfl rfl (by kernel_rfl) (by kernel_rfl) (by kernel_rfl) (by kernel_rfl) (fun _ _ _ h => h) (Or.inl ⟨by kernel_rfl, by intro u hSu; go_simp⟩) hS ?_
      try simp only [Act.put, List.setIfInBounds_toArray, List.set_cons_zero, List.set_cons_succ]
      refine wpAnyE_takeD (L := 999) (i := 3) (v := .agg #[.int .i64 (E.T j).id, .int .i64 (E.T j).am, .int .i64 (E.T j).st, .int .i64 (E.T j).dn, .slice ti (E.T j).n tc]) (some 13) rfl rfl (by kernel_rfl) (by kernel_rfl) (by kernel_rfl) (by kernel_rfl) (fun _ _ _ h => h) (Or.inl ⟨by kernel_rfl, by intro u hSu; have gd0 := cell_below d0 hSu; have gd1 := cell_below d1 hSu; have gd2 := cell_below d2 hSu; have gd3 := cell_below d3 hSu; have gd4 := cell_below d4 hSu; go_simp⟩) hS ?_
      try simp only [Act.put, List.setIfInBounds_toArray, List.set_cons_zero, List.set_cons_succ]
      refine wpAnyE_ready (rs := [2]) (by kernel_rfl) (by simp) ?_
      refine AllReadyE.cons rfl (fun K9 hK => ?_) AllReadyE.nil
      go_simp
      refine (chainOfKey_any E a cap a' cap' (k : Int) _ h32 HSO.out (HEX.out.below hS)).mono ?_
      rintro e u1 ⟨va, vn, vc, vU, rfl, hbu, hvq, hcq⟩
      have HVQ : Hid (VersAt u1 va vn vU) := hvq.below hbu
      have HM : Hid ((mwC vn vU (E.T j).am (E.T j).id == 0) = myB E (E.T j).am (E.T j).id (k : Int)) := mw_my HH0.out hj hcq
      have HCL : Hid (vn ≤ 9223372036854775807) := chain_le HR12.out hcq
      clear hvq hcq
      refine hK.out _ _ (below_then hS hbu) (fun hS9 => ?_)
      try simp only [Act.put, List.setIfInBounds_toArray, List.set_cons_zero, List.set_cons_succ]
      clear hK K9 hS hbu
      have hS := hS9
      clear hS9
      refine wpAnyE_ready (rs := [4]) (by kernel_rfl) (by simp) ?_
      refine AllReadyE.cons rfl (fun K9 hK => ?_) AllReadyE.nil
      go_simp
      refine (viewOf_any (E.T j) ti tc _).mono ?_
      rintro e u1 ⟨rfl, hbu⟩
      replace HVQ : Hid (VersAt u1 va vn vU) := HVQ.out.below hbu
      refine hK.out _ _ (below_then hS hbu) (fun hS9 => ?_)
      try simp only [Act.put, List.setIfInBounds_toArray, List.set_cons_zero, List.set_cons_succ]
      clear hK K9 hS hbu
      have hS := hS9
      clear hS9
      refine wpAnyE_ready (rs := [5]) (by kernel_rfl) (by simp) ?_
      refine AllReadyE.cons rfl (fun K9 hK => ?_) AllReadyE.nil
      go_simp
      refine (implMw_any vn vU va vc (E.T j).am (E.T j).id _ HCL.out HVQ.out).mono ?_
      rintro e u1 ⟨rfl, hbu⟩
      have HBU : Hid (Below wr.heap.size wr u1) := below_then hS hbu
      refine hK.out _ _ (below_then hS hbu) (fun hS9 => ?_)
      try simp only [Act.put, List.setIfInBounds_toArray, List.set_cons_zero, List.set_cons_succ]
      clear hK K9 hS hbu
      have hS := hS9
      clear hS9
      refine wpAnyE_takeD (L := 999) (i := 6) (v := .bool (mwC vn vU (E.T j).am (E.T j).id == 0)) (some 16) rfl rfl (by kernel_rfl) (by kernel_rfl) (by kernel_rfl) (by kernel_rfl) (fun _ _ _ h => h) (Or.inl ⟨by kernel_rfl, by intro u hSu; go_simp⟩) hS ?_
      try simp only [Act.put, List.setIfInBounds_toArray, List.set_cons_zero, List.set_cons_succ]
      refine wpAnyE_done (by kernel_rfl) ?_ _
      go_simp
      rw [HM.out]
      have HBC : Hid (Below W.heap.size W _) := below_then HB.out HBU.out
      have HOC := own_belowI HO.out HBU.out
      have hszc := HBC.out.size
      clear HVQ HCL HM b0 b1 b2 b3 d0 d1 d2 d3 d4 hS HEX
      obtain hm | hm := bool_or2 (myB E (E.T j).am (E.T j).id (k : Int))
      · have HE1 : Hid (myL E (E.T j).am (E.T j).id (k + 1) = myL E (E.T j).am (E.T j).id k ++ [(k : Int)]) := if_pos hm
        have HOA : Hid (∀ o1 : Obj, (World.alloc _ o1).ownsRow W.heap.size 2 1 _ (myL E (E.T j).am (E.T j).id k).length (il (myL E (E.T j).am (E.T j).id k))) := fun o1 => own_belowI HOC (below_new _ _)
        rw [hm]
        clear hm HOC HO HB
        generalize myL E (E.T j).am (E.T j).id k = zs at *
        go_wp2_with (at_builtin; refine wpList_appI _ rfl (.tmp 17) (.tmp 19) rfl W.heap.size _ zs rfl (HOA.out _) _ 0 1 (k : Int) rfl (by simp [go_sem]) (by simp; omega) HLK.out ?_)
        intro v2 w3 ho3 hg3
        have HB3 : Hid (Below W.heap.size W w3) := by
          refine (below_then HBC.out (below_new _ _)).grown hg3 (by simp; omega) fun q hq => ?_
          exact ((HOA.out (.cells #[.int .i64 (k : Int)] 2)).lt q hq).1
        have HO3 : Hid (w3.ownsRow W.heap.size 2 1 v2 (myL E (E.T j).am (E.T j).id (k + 1)).length (il (myL E (E.T j).am (E.T j).id (k + 1)))) := by
          show w3.ownsRow _ _ _ _ _ _
          rw [HE1.out]
          first | exact ho3 | simpa using ho3
        clear ho3 hg3 HOA
        go_wp2_with fail
        go_roundw
        case rel => exact ⟨k + 1, HLT.out, by go_num, HB3, HO3⟩
        case measure => simp [intOf]; omega
      · have HE1 : Hid (myL E (E.T j).am (E.T j).id (k + 1) = myL E (E.T j).am (E.T j).id k) := if_neg (by simp [hm])
        rw [← HE1.out] at HOC
        have HO3 : Hid (World.ownsRow _ _ _ _ _ _ _) := HOC
        rw [hm]
        clear hm HOC HO HB
        go_wp2_with fail
        go_roundw
        case rel => exact ⟨k + 1, HLT.out, by go_num, HBC, HO3⟩
        case measure => simp [intOf]; omega
    · have hkn : k = 32 := by omega
      subst hkn
      obtain ⟨va, vc, rfl, hO⟩ := ownI_of_row HO.out
      have HF : Hid (Below w.heap.size w wr ∧ IntsAt wr va (myE E (E.T j)).length (zI (myE E (E.T j)))) := ⟨below_then HBW.out HB.out, hO.at⟩
      have HL : Hid ((myL E (E.T j).am (E.T j).id 32).length = (myE E (E.T j)).length) := rfl
      clear HO hO HB
      generalize (myL E (E.T j).am (E.T j).id 32).length = len at *
      go_wp2_with fail
      go_ret
      exact ⟨va, vc, by rw [HL.out] <;> rfl, HF.out.1, HF.out.2⟩
theorem sEqualB_any (n n' : Nat) (K V K' V' : Nat → Int) (a a' : Option Addr) (cap cap' : Nat) (w : World) (hn : n ≤ 140737488355328) (hn' : n' ≤ 140737488355328) (h : CellsAt w a n K V) (h' : CellsAt w a' n' K' V') :
    Calls Tryz.prog 79 #[.slice a n cap, .slice a' n' cap'] w fun e w' => e = .returned (.bool (ceq n K V n' K' V')) ∧ Below w.heap.size w w' := by
  refine (sEqual_any n n' K V K' V' a a' cap cap' w hn hn' h h').mono ?_
  rintro e w' ⟨rfl, m, rfl⟩
  exact ⟨rfl, below_drewN (Below.refl _ _) _⟩
theorem sEqIB_any (xs ys : List Int) (a a' : Option Addr) (cap cap' : Nat) (w : World) (hn : xs.length ≤ 140737488355328) (hn' : ys.length ≤ 140737488355328) (h : IntsAt w a xs.length (zI xs)) (h' : IntsAt w a' ys.length (zI ys)) :
    Calls Tryz.prog 43 #[.slice a xs.length cap, .slice a' ys.length cap'] w fun e w' => e = .returned (.bool (decide (xs = ys))) ∧ Below w.heap.size w w' := by
  refine (sEqI_any _ _ _ _ a a' cap cap' w hn hn' h h').mono ?_
  rintro e w' ⟨rfl, m, rfl⟩
  exact ⟨by rw [ieq_list], below_drewN (Below.refl _ _) _⟩
theorem skL_len (E : En) (id lo hi : Int) (h : eF E = 0) : (skL E id lo hi).length ≤ 140737488355328 := by
  have h1 := scL_len E.q E.R (E.T (askP E id).toNat).am (E.T (askP E id).toNat).id lo hi E.q
  have h2 := (eF_pq h).2
  unfold skL
  omega
theorem implSk0 (E : En) (a : Option Addr) (cap : Nat) (a' : Option Addr) (cap' : Nat) (id : Int) (w : World) (hs : SmallE E) (hk : askC E id = 0) (h : EngAt w a a' E) :
    Calls Tryz.prog 80 #[.agg #[.int .i64 E.nx, .int .i64 E.ck, .slice a E.p cap, .slice a' E.q cap'], .int .i64 id, .int .i64 0, .int .i64 31] w fun e w' => ∃ va vc, e = .returned (.agg #[.int .i64 0, .slice va (skL E id 0 31).length vc]) ∧ Below w.heap.size w w' ∧ CellsAt w' va (skL E id 0 31).length (kC (skL E id 0 31)) (vC (skL E id 0 31)) := by
  refine (implSk_any E a cap a' cap' id 0 31 w hs h).mono ?_
  rintro e w' ⟨va, vc, he, hb, ho⟩
  rw [hk] at he ho
  simp only [if_true] at he ho
  exact ⟨va, vc, he, hb, ho.at⟩
set_option maxHeartbeats 8000000 in
theorem sameSeen_any (A B : En) (a : Option Addr) (cap : Nat) (a' : Option Addr) (cap' : Nat) (b : Option Addr) (cbp : Nat) (b' : Option Addr) (cbp' : Nat) (id : Int) (w : World) (hA : SmallE A) (hB : SmallE B) (h0 : eF A = 0) (h1 : eF B = 0) (hkA : askC A id = 0) (hkB : askC B id = 0) (h : EngAt w a a' A) (h' : EngAt w b b' B) :
    Calls Tryz.prog 42 #[.agg #[.int .i64 A.nx, .int .i64 A.ck, .slice a A.p cap, .slice a' A.q cap'], .agg #[.int .i64 B.nx, .int .i64 B.ck, .slice b B.p cbp, .slice b' B.q cbp'], .int .i64 id] w fun e w' => e = .returned (.bool (decide (skL A id 0 31 = skL B id 0 31))) ∧ Below w.heap.size w w' := by
  have HXA : Hid (EngAt w a a' A) := h
  have HXB : Hid (EngAt w b b' B) := h'
  have HSA : Hid (SmallE A) := hA
  have HSB : Hid (SmallE B) := hB
  have HQA : Hid (askC A id = 0) := hkA
  have HQB : Hid (askC B id = 0) := hkB
  have HL1 : Hid ((skL A id 0 31).length ≤ 140737488355328) := skL_len A id 0 31 h0
  have HL2 : Hid ((skL B id 0 31).length ≤ 140737488355328) := skL_len B id 0 31 h1
  have HFI : Hid (ceq (skL A id 0 31).length (kC (skL A id 0 31)) (vC (skL A id 0 31)) (skL B id 0 31).length (kC (skL B id 0 31)) (vC (skL B id 0 31)) = decide (skL A id 0 31 = skL B id 0 31)) := ceq_list _ _
  have HBX : Hid (∀ o1 o2 : Obj, o1 = .cells #[.int .i64 A.nx, .int .i64 A.ck, .slice a A.p cap, .slice a' A.q cap'] 31 → o2 = .cells #[.int .i64 B.nx, .int .i64 B.ck, .slice b B.p cbp, .slice b' B.q cbp'] 31 →
      Box4 ((w.alloc o1).alloc o2) w.heap.size (.int .i64 A.nx) (.int .i64 A.ck) (.slice a A.p cap) (.slice a' A.q cap') ∧ Box4 ((w.alloc o1).alloc o2) (w.heap.size + 1) (.int .i64 B.nx) (.int .i64 B.ck) (.slice b B.p cbp) (.slice b' B.q cbp') ∧ Below w.heap.size w ((w.alloc o1).alloc o2)) := by
    rintro o1 o2 rfl rfl
    exact ⟨(Box4.new w _ _ _ _ _).alloc _, by simp [Box4, go_sem], ((Below.refl _ _).alloc (Nat.le_refl _) _).alloc (by simp) _⟩
  clear h h' hA hB h0 h1 hkA hkB
  go_enter Tryz.func42, Tryz.ntmps42
  go_upto_region 1 with fail
  obtain ⟨hb4, hb5, hbw⟩ := HBX.out _ _ rfl rfl
  obtain ⟨W, hW⟩ : ∃ y, y = (w.alloc (.cells #[.int .i64 A.nx, .int .i64 A.ck, .slice a A.p cap, .slice a' A.q cap'] 31)).alloc (.cells #[.int .i64 B.nx, .int .i64 B.ck, .slice b B.p cbp, .slice b' B.q cbp'] 31) := ⟨_, rfl⟩
  rw [← hW] at hb4 hb5 hbw ⊢
  have HBW : Hid (Below w.heap.size w W) := hbw
  have HEA : Hid (EngAt W a a' A) := HXA.out.below hbw
  have HEB : Hid (EngAt W b b' B) := HXB.out.below hbw
  obtain ⟨p0, p1, p2, p3⟩ := hb4
  obtain ⟨q0, q1, q2, q3⟩ := hb5
  clear hW hbw HBX
  refine wp_region_E 999 (S := fun u => Below W.heap.size W u) (by kernel_rfl) ((Below.refl _ _).drew) (fun hS => ?_)
  obtain ⟨u0, hu0⟩ : ∃ y, y = W.drew := ⟨_, rfl⟩
  rw [← hu0] at hS ⊢
  clear hu0
  refine wpAnyE_takeD (L := 999) (i := 0) (v := .agg #[.int .i64 A.nx, .int .i64 A.ck, .slice a A.p cap, .slice a' A.q cap']) (some 7) rfl rfl (by kernel_rfl) (by kernel_rfl) (by kernel_rfl) (by kernel_rfl) (fun _ _ _ h => h) (Or.inl ⟨by kernel_rfl, by intro u hSu; have gp0 := cell_below p0 hSu; have gp1 := cell_below p1 hSu; have gp2 := cell_below p2 hSu; have gp3 := cell_below p3 hSu; go_simp⟩) hS ?_
  try simp only [Act.put, List.setIfInBounds_toArray, List.set_cons_zero, List.set_cons_succ]
  refine wpAnyE_takeD (L := 999) (i := 1) (v := .int .i64 id) (some 8) rfl rfl (by kernel_rfl) (by kernel_rfl) (by kernel_rfl) (by kernel_rfl) (fun _ _ _ h => h) (Or.inl ⟨by kernel_rfl, by intro u hSu; go_simp⟩) hS ?_
  try simp only [Act.put, List.setIfInBounds_toArray, List.set_cons_zero, List.set_cons_succ]
  refine wpAnyE_takeD (L := 999) (i := 4) (v := .agg #[.int .i64 B.nx, .int .i64 B.ck, .slice b B.p cbp, .slice b' B.q cbp']) (some 11) rfl rfl (by kernel_rfl) (by kernel_rfl) (by kernel_rfl) (by kernel_rfl) (fun _ _ _ h => h) (Or.inl ⟨by kernel_rfl, by intro u hSu; have gq0 := cell_below q0 hSu; have gq1 := cell_below q1 hSu; have gq2 := cell_below q2 hSu; have gq3 := cell_below q3 hSu; go_simp⟩) hS ?_
  try simp only [Act.put, List.setIfInBounds_toArray, List.set_cons_zero, List.set_cons_succ]
  refine wpAnyE_takeD (L := 999) (i := 5) (v := .int .i64 id) (some 12) rfl rfl (by kernel_rfl) (by kernel_rfl) (by kernel_rfl) (by kernel_rfl) (fun _ _ _ h => h) (Or.inl ⟨by kernel_rfl, by intro u hSu; go_simp⟩) hS ?_
  try simp only [Act.put, List.setIfInBounds_toArray, List.set_cons_zero, List.set_cons_succ]
  refine wpAnyE_ready (rs := [2]) (by kernel_rfl) (by simp) ?_
  refine AllReadyE.cons rfl (fun K9 hK => ?_) AllReadyE.nil
  go_simp
  refine (implSk0 A a cap a' cap' id _ HSA.out HQA.out (HEA.out.below hS)).mono ?_
  rintro e u1 ⟨c1, d1, rfl, hbu, hc⟩
  have HC1 : Hid (CellsAt u1 c1 (skL A id 0 31).length (kC (skL A id 0 31)) (vC (skL A id 0 31))) := hc
  clear hc
  refine hK.out _ _ (below_then hS hbu) (fun hS9 => ?_)
  try simp only [Act.put, List.setIfInBounds_toArray, List.set_cons_zero, List.set_cons_succ]
  clear hK K9 hS hbu
  have hS := hS9
  clear hS9
  refine wpAnyE_takeD (L := 999) (i := 3) (v := .slice c1 (skL A id 0 31).length d1) (some 10) rfl rfl (by kernel_rfl) (by kernel_rfl) (by kernel_rfl) (by kernel_rfl) (fun _ _ _ h => h) (Or.inl ⟨by kernel_rfl, by intro u hSu; have hf : (Instr.field 115 (.agg #[.int .i64 0, .slice c1 (skL A id 0 31).length d1]) 1).run Tryz.prog u = .ok (.slice c1 (skL A id 0 31).length d1) u := (by kernel_rfl); go_simp⟩) hS ?_
  try simp only [Act.put, List.setIfInBounds_toArray, List.set_cons_zero, List.set_cons_succ]
  refine wpAnyE_ready (rs := [6]) (by kernel_rfl) (by simp) ?_
  refine AllReadyE.cons rfl (fun K9 hK => ?_) AllReadyE.nil
  go_simp
  refine (implSk0 B b cbp b' cbp' id _ HSB.out HQB.out (HEB.out.below hS)).mono ?_
  rintro e u1 ⟨c2, d2, rfl, hbu, hc⟩
  have HC2 : Hid (CellsAt u1 c2 (skL B id 0 31).length (kC (skL B id 0 31)) (vC (skL B id 0 31))) := hc
  clear hc
  replace HC1 : Hid (CellsAt u1 c1 (skL A id 0 31).length (kC (skL A id 0 31)) (vC (skL A id 0 31))) := HC1.out.below hbu
  refine hK.out _ _ (below_then hS hbu) (fun hS9 => ?_)
  try simp only [Act.put, List.setIfInBounds_toArray, List.set_cons_zero, List.set_cons_succ]
  clear hK K9 hS hbu
  have hS := hS9
  clear hS9
  refine wpAnyE_takeD (L := 999) (i := 7) (v := .slice c2 (skL B id 0 31).length d2) (some 14) rfl rfl (by kernel_rfl) (by kernel_rfl) (by kernel_rfl) (by kernel_rfl) (fun _ _ _ h => h) (Or.inl ⟨by kernel_rfl, by intro u hSu; have hf : (Instr.field 115 (.agg #[.int .i64 0, .slice c2 (skL B id 0 31).length d2]) 1).run Tryz.prog u = .ok (.slice c2 (skL B id 0 31).length d2) u := (by kernel_rfl); go_simp⟩) hS ?_
  try simp only [Act.put, List.setIfInBounds_toArray, List.set_cons_zero, List.set_cons_succ]
  refine wpAnyE_ready (rs := [8]) (by kernel_rfl) (by simp) ?_
  refine AllReadyE.cons rfl (fun K9 hK => ?_) AllReadyE.nil
  go_simp
  refine (sEqualB_any (skL A id 0 31).length (skL B id 0 31).length (kC (skL A id 0 31)) (vC (skL A id 0 31)) (kC (skL B id 0 31)) (vC (skL B id 0 31)) c1 c2 d1 d2 _ HL1.out HL2.out HC1.out HC2.out).mono ?_
  rintro e u1 ⟨rfl, hbu⟩
  have HBU : Hid (Below W.heap.size W _) := below_then hS hbu
  refine hK.out _ _ (below_then hS hbu) (fun hS9 => ?_)
  try simp only [Act.put, List.setIfInBounds_toArray, List.set_cons_zero, List.set_cons_succ]
  clear hK K9 hS hbu
  have hS := hS9
  clear hS9
  refine wpAnyE_takeD (L := 999) (i := 9) (v := .bool (ceq (skL A id 0 31).length (kC (skL A id 0 31)) (vC (skL A id 0 31)) (skL B id 0 31).length (kC (skL B id 0 31)) (vC (skL B id 0 31)))) (some 6) rfl rfl (by kernel_rfl) (by kernel_rfl) (by kernel_rfl) (by kernel_rfl) (fun _ _ _ h => h) (Or.inl ⟨by kernel_rfl, by intro u hSu; go_simp⟩) hS ?_
  try simp only [Act.put, List.setIfInBounds_toArray, List.set_cons_zero, List.set_cons_succ]
  refine wpAnyE_done (by kernel_rfl) ?_ _
  go_simp
  rw [HFI.out]
  go_wp2_with fail
  go_ret
  exact ⟨rfl, below_then HBW.out HBU.out⟩
end Go.Proofs.YtnhlcadipkmhhaaGreat
