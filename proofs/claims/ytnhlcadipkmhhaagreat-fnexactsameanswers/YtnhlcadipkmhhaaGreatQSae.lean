/- SameAnswers: slices.EqualFunc, and the program's SameAnswers. -/
import Derived.Test.YtnhlcadipkmhhaaGreatQSad
namespace Go.Proofs.YtnhlcadipkmhhaaGreat
open Go.RowKit Go.Deep
set_option linter.unusedVariables false
set_option linter.unusedSimpArgs false
set_option maxRecDepth 20000

set_option maxHeartbeats 4000000 in
theorem eqFuncX_any (n n' : Nat) (X Y : Nat → Tx) (F : Nat → Bool) (pa pb : Nat) (a a' : Option Addr) (cap cap' : Nat) (w : World) (hn : n ≤ 1048576) (h : OxAt w a n X) (h' : OxAt w a' n' Y)
    (hF : ∀ k, k < n → n = n' → ∀ s0 c0 t0 d0 w', Below w.heap.size w w' → Calls Tryz.prog 41 #[.agg #[.int .i64 (X k).id, .int .i64 (X k).am, .int .i64 (X k).st, .int .i64 (X k).dn, .slice s0 (X k).n c0], .agg #[.int .i64 (Y k).id, .int .i64 (Y k).am, .int .i64 (Y k).st, .int .i64 (Y k).dn, .slice t0 (Y k).n d0], .pointer (some ⟨pa, 0, none⟩), .pointer (some ⟨pb, 0, none⟩)] w' fun e w2 => e = .returned (.bool (F k)) ∧ Below w'.heap.size w' w2)
    (c : Bool) (hc : c = true ↔ n = n' ∧ ∀ k, k < n → F k = true) :
    Calls Tryz.prog 39 #[.slice a n cap, .slice a' n' cap', .func (.func 41) #[] #[.pointer (some ⟨pa, 0, none⟩), .pointer (some ⟨pb, 0, none⟩)]] w fun e w' => e = .returned (.bool c) ∧ Below w.heap.size w w' := by
  have HC : Hid (c = true ↔ n = n' ∧ ∀ k, k < n → F k = true) := hc
  clear hc
  by_cases hl : n = n'
  · subst hl
    have hne : ((n : Int) != (n : Int)) = false := by simp
    have HA : Hid (OxAt w a n X) := h
    have HD : Hid (OxAt w a' n Y) := h'
    have HQ0 : Hid (∀ k, k < n → ∀ s0 c0 t0 d0 w', Below w.heap.size w w' → Calls Tryz.prog 41 #[.agg #[.int .i64 (X k).id, .int .i64 (X k).am, .int .i64 (X k).st, .int .i64 (X k).dn, .slice s0 (X k).n c0], .agg #[.int .i64 (Y k).id, .int .i64 (Y k).am, .int .i64 (Y k).st, .int .i64 (Y k).dn, .slice t0 (Y k).n d0], .pointer (some ⟨pa, 0, none⟩), .pointer (some ⟨pb, 0, none⟩)] w' fun e w2 => e = .returned (.bool (F k)) ∧ Below w'.heap.size w' w2) := fun k hk => hF k hk rfl
    replace HC : Hid (c = true ↔ ∀ k, k < n → F k = true) := by
      rw [Hid, HC.out]
      exact ⟨fun h => h.2, fun h => ⟨rfl, h⟩⟩
    clear h h' hF
    go_enter Tryz.func39, Tryz.ntmps39
    go_wp2_with fail
    go_loopw [7, 8, 9, 17] (fun _ _ _ i wr => ∃ k : Nat, k ≤ n ∧ i = .int .i64 k ∧ Hid (∀ q, q < k → F q = true) ∧ Hid (Below w.heap.size w wr)) (fun _ _ _ i _ => n - (intOf i).toNat)
    case atStart => exact ⟨0, Nat.zero_le _, rfl, fun q hq => absurd hq (Nat.not_lt_zero _), Below.refl _ _⟩
    case round =>
      obtain ⟨k, hk, rfl, HP, HB⟩ := hrel
      by_cases hlt : k < n
      · have hlt' : (k : Int) < (n : Int) := by omega
        have hk0 : (0 : Int) ≤ (k : Int) := by omega
        rcases HA.out.below HB.out with h | ⟨b, off, rfl, hl, hc⟩
        · omega
        rcases HD.out.below HB.out with h | ⟨b', off', rfl, hl', hc'⟩
        · omega
        obtain ⟨a0, c0, ⟨q0, q1, q2, q3, q4⟩⟩ := hc k hlt
        obtain ⟨d0, e0, ⟨y0, y1, y2, y3, y4⟩⟩ := hc' k hlt
        have hb0 : ∀ o1 o2, Below wr.heap.size wr ((wr.alloc o1).alloc o2) := fun o1 o2 => (((Below.refl _ _).alloc (Nat.le_refl _) _).alloc (by simp) _)
        have HQ : Hid (∀ w', Below wr.heap.size wr w' → Calls Tryz.prog 41 #[.agg #[.int .i64 (X k).id, .int .i64 (X k).am, .int .i64 (X k).st, .int .i64 (X k).dn, .slice a0 (X k).n c0], .agg #[.int .i64 (Y k).id, .int .i64 (Y k).am, .int .i64 (Y k).st, .int .i64 (Y k).dn, .slice d0 (Y k).n e0], .pointer (some ⟨pa, 0, none⟩), .pointer (some ⟨pb, 0, none⟩)] w' fun e w2 => e = .returned (.bool (F k)) ∧ Below w'.heap.size w' w2) := fun w' hb => HQ0.out k hlt _ _ _ _ w' (below_then HB.out hb)
        have hbn : b ≠ wr.heap.size := by omega
        have hbn' : b' ≠ wr.heap.size := by omega
        clear hc hc'
        have HFK : Hid (F k = F k) := rfl
        obtain ⟨R, hR⟩ : ∃ R, R = F k := ⟨_, rfl⟩
        have HR : Hid (R = F k) := hR
        rw [← hR] at HQ
        clear hR HFK
        generalize X k = t at *
        generalize Y k = u at *
        have y0a := fun o : Obj => cell_alloc y0 o
        have y1a := fun o : Obj => cell_alloc y1 o
        have y2a := fun o : Obj => cell_alloc y2 o
        have y3a := fun o : Obj => cell_alloc y3 o
        have y4a := fun o : Obj => cell_alloc y4 o
        cases R with
        | true =>
          have HP2 : Hid (∀ q, q < k + 1 → F q = true) := fun q hq => by
            by_cases e : q = k
            · rw [e]; exact HR.out.symm
            · exact HP.out q (by omega)
          go_wp2_with fail
          refine (HQ.out _ (hb0 _ _)).mono ?_
          rintro e w1 ⟨rfl, hb1⟩
          have HB1 : Hid (Below w.heap.size w w1) := below_then HB.out (below_then (hb0 _ _) hb1)
          clear hb1
          go_wp2_with fail
          go_roundw
          case rel => exact ⟨k + 1, hlt, by go_num, HP2, HB1.out⟩
          case measure => simp [intOf]; omega
        | false =>
          have HC2 : Hid (c = false) := by cases c with
            | false => rfl
            | true =>
              have := HC.out.1 rfl k hlt
              rw [← HR.out] at this
              cases this
          go_wp2_with fail
          refine (HQ.out _ (hb0 _ _)).mono ?_
          rintro e w1 ⟨rfl, hb1⟩
          have HB1 : Hid (Below w.heap.size w w1) := below_then HB.out (below_then (hb0 _ _) hb1)
          clear hb1
          go_wp2_with fail
          go_ret
          exact ⟨ret_bool HC2.out.symm, HB1.out⟩
      · have HC2 : Hid (c = true) := HC.out.2 fun q hq => HP.out q (by omega)
        have hnl : ¬ ((k : Int) < (n : Int)) := by omega
        go_wp2_with fail
        go_ret
        exact ⟨ret_bool HC2.out.symm, HB.out⟩
  · have HE : Hid (c = false) := by cases c with
      | false => rfl
      | true => exact absurd (HC.out.1 rfl).1 hl
    have hne : ((n : Int) != (n' : Int)) = true := by simp; omega
    clear h h' hl hF
    go_enter Tryz.func39, Tryz.ntmps39
    go_wp2_with fail
    go_ret
    exact ⟨ret_bool HE.out.symm, Below.refl _ _⟩
theorem bool_of (P : Prop) : ∃ c : Bool, c = true ↔ P := by
  by_cases h : P
  · exact ⟨true, ⟨fun _ => h, fun _ => rfl⟩⟩
  · exact ⟨false, ⟨fun e => Bool.noConfusion e, fun e => absurd e h⟩⟩
theorem bools_of (P : Nat → Prop) : ∃ F : Nat → Bool, ∀ k, F k = true ↔ P k := ⟨fun k => (bool_of (P k)).choose, fun k => (bool_of (P k)).choose_spec⟩
theorem not_true {c : Bool} {P : Prop} (h : c = true ↔ P) (hn : ¬ P) : c = false := by
  cases c with
  | false => rfl
  | true => exact absurd (h.1 rfl) hn
set_option maxHeartbeats 16000000 in
theorem implSa_any (A B : En) (a : Option Addr) (cap : Nat) (a' : Option Addr) (cap' : Nat) (b : Option Addr) (cbp : Nat) (b' : Option Addr) (cbp' : Nat) (w : World) (hA : SmallE A) (hB : SmallE B) (h : EngAt w a a' A) (h' : EngAt w b b' B) (c : Bool) (hc : c = true ↔ SAP A B) :
    Calls Tryz.prog 11 #[.agg #[.int .i64 A.nx, .int .i64 A.ck, .slice a A.p cap, .slice a' A.q cap'], .agg #[.int .i64 B.nx, .int .i64 B.ck, .slice b B.p cbp, .slice b' B.q cbp']] w fun e w' => e = .returned (.bool c) ∧ Below w.heap.size w w' := by
  have HXA : Hid (EngAt w a a' A) := h
  have HXB : Hid (EngAt w b b' B) := h'
  have HSA : Hid (SmallE A) := hA
  have HSB : Hid (SmallE B) := hB
  have HC : Hid (c = true ↔ SAP A B) := hc
  have HBX : Hid (∀ o1 o2 : Obj, o1 = .cells #[.int .i64 A.nx, .int .i64 A.ck, .slice a A.p cap, .slice a' A.q cap'] 31 → o2 = .cells #[.int .i64 B.nx, .int .i64 B.ck, .slice b B.p cbp, .slice b' B.q cbp'] 31 →
      EBox ((w.alloc o1).alloc o2) w.heap.size a cap a' cap' A ∧ EBox ((w.alloc o1).alloc o2) (w.heap.size + 1) b cbp b' cbp' B ∧ Below w.heap.size w ((w.alloc o1).alloc o2)) := by
    have hb0 : ∀ o1 o2, Below w.heap.size w ((w.alloc o1).alloc o2) := fun o1 o2 => ((Below.refl _ _).alloc (Nat.le_refl _) _).alloc (by simp) _
    rintro o1 o2 rfl rfl
    exact ⟨⟨(Box4.new w _ _ _ _ _).alloc _, HXA.out.below (hb0 _ _)⟩, ⟨by simp [Box4, go_sem], HXB.out.below (hb0 _ _)⟩, hb0 _ _⟩
  clear h h' hA hB hc
  go_enter Tryz.func11, Tryz.ntmps11
  go_upto_region 1 with fail
  obtain ⟨hc1, hc2, hbw⟩ := HBX.out _ _ rfl rfl
  obtain ⟨W0, hW⟩ : ∃ y, y = (w.alloc (.cells #[.int .i64 A.nx, .int .i64 A.ck, .slice a A.p cap, .slice a' A.q cap'] 31)).alloc (.cells #[.int .i64 B.nx, .int .i64 B.ck, .slice b B.p cbp, .slice b' B.q cbp'] 31) := ⟨_, rfl⟩
  rw [← hW] at hc1 hc2 hbw ⊢
  have HBW0 : Hid (Below w.heap.size w W0) := hbw
  have HE1 : Hid (EBox W0 w.heap.size a cap a' cap' A) := hc1
  have HE2 : Hid (EBox W0 (w.heap.size + 1) b cbp b' cbp' B) := hc2
  obtain ⟨⟨p0, p1, p2, p3⟩, -⟩ := hc1
  clear hW hbw HBX hc2
  by_cases h0 : eF A = 0
  case neg =>
    have h0' : (eF A != 0) = true := by simp [h0]
    have HF : Hid (c = false) := not_true HC.out fun h => h0 h.1
    clear h0
    go_wp2_with (first | (go_at_call 38; refine (implEf_any A a cap a' cap' _ HSA.out HE1.out.2).mono ?_; rintro e W1 ⟨rfl, hb1⟩))
    generalize eF A = uu at *
    go_wp2_with fail
    go_ret
    exact ⟨ret_bool HF.out.symm, below_then HBW0.out hb1⟩
  have HA0 : Hid (eF A = 0) := h0
  have h0' : (eF A != 0) = false := by simp [h0]
  obtain ⟨⟨q0, q1, q2, q3⟩, -⟩ := HE2.out
  by_cases h1 : eF B = 0
  case neg =>
    have h1' : (eF B != 0) = true := by simp [h1]
    have HF : Hid (c = false) := not_true HC.out fun h => h1 h.2.1
    clear h1 h0
    go_wp2_with (first | (have hg := hb1; go_at_call 38; refine (implEf_any B b cbp b' cbp' _ HSB.out (HE2.out.2.below hb1)).mono ?_; rintro e W ⟨rfl, hb2⟩) | (go_at_call 38; refine (implEf_any A a cap a' cap' _ HSA.out HE1.out.2).mono ?_; rintro e W1 ⟨rfl, hb1⟩; have r0 := cell_below q0 hb1; have r1 := cell_below q1 hb1; have r2 := cell_below q2 hb1; have r3 := cell_below q3 hb1))
    go_ret
    exact ⟨ret_bool HF.out.symm, below_then HBW0.out (below_then hb1 hb2)⟩
  have HB0 : Hid (eF B = 0) := h1
  have h1' : (eF B != 0) = false := by simp [h1]
  have h20a := (eF_pq HA0.out).1
  have h20b := (eF_pq h1).1
  clear h1 h0
  go_upto_region 3 with (first | (have hg := hb1; go_at_call 38; refine (implEf_any B b cbp b' cbp' _ HSB.out (HE2.out.2.below hb1)).mono ?_; rintro e W ⟨rfl, hb2⟩) | (go_at_call 38; refine (implEf_any A a cap a' cap' _ HSA.out HE1.out.2).mono ?_; rintro e W1 ⟨rfl, hb1⟩; have r0 := cell_below q0 hb1; have r1 := cell_below q1 hb1; have r2 := cell_below q2 hb1; have r3 := cell_below q3 hb1))
  have HBW : Hid (Below w.heap.size w W) := below_then HBW0.out (below_then hb1 hb2)
  have HEA : Hid (EBox W w.heap.size a cap a' cap' A) := HE1.out.below (below_then hb1 hb2)
  have HEB : Hid (EBox W (w.heap.size + 1) b cbp b' cbp' B) := HE2.out.below (below_then hb1 hb2)
  clear p0 p1 p2 p3 q0 q1 q2 q3 r0 r1 r2 r3 hb1 hb2 HE1 HE2 h0' h1'
  obtain ⟨⟨p0, p1, p2, p3⟩, -⟩ := HEA.out
  obtain ⟨⟨q0, q1, q2, q3⟩, -⟩ := HEB.out
  by_cases hck : A.ck = B.ck
  case neg =>
    have hck' : (A.ck != B.ck) = true := by simp [hck]
    have HF : Hid (c = false) := not_true HC.out fun h => hck h.2.2.1
    clear hck
    go_wp2_with fail
    go_ret
    exact ⟨ret_bool HF.out.symm, HBW.out⟩
  by_cases hnx : A.nx = B.nx
  case neg =>
    have hck' : (A.ck != B.ck) = false := by simp [hck]
    have hnx' : (A.nx != B.nx) = true := by simp [hnx]
    have HF : Hid (c = false) := not_true HC.out fun h => hnx h.2.2.2.1
    clear hck hnx
    go_wp2_with fail
    go_ret
    exact ⟨ret_bool HF.out.symm, HBW.out⟩
  have hck' : (A.ck != B.ck) = false := by simp [hck]
  have hnx' : (A.nx != B.nx) = false := by simp [hnx]
  obtain ⟨F, hF⟩ := bools_of (fun k => SEq A B (oX A k) (oX B k))
  have HCF : Hid (c = true ↔ oN A = oN B ∧ ∀ k, k < oN A → F k = true) := by
    rw [Hid, HC.out]
    exact ⟨fun h => ⟨h.2.2.2.2.1, fun k hk => (hF k).2 (h.2.2.2.2.2 k hk)⟩, fun h => ⟨HA0.out, HB0.out, hck, hnx, h.1, fun k hk => (hF k).1 (h.2 k hk)⟩⟩
  have HQ : Hid (∀ k, k < oN A → oN A = oN B → ∀ s0 c0 t0 d0 w', Below W.heap.size W w' → Calls Tryz.prog 41 #[.agg #[.int .i64 (oX A k).id, .int .i64 (oX A k).am, .int .i64 (oX A k).st, .int .i64 (oX A k).dn, .slice s0 (oX A k).n c0], .agg #[.int .i64 (oX B k).id, .int .i64 (oX B k).am, .int .i64 (oX B k).st, .int .i64 (oX B k).dn, .slice t0 (oX B k).n d0], .pointer (some ⟨w.heap.size, 0, none⟩), .pointer (some ⟨w.heap.size + 1, 0, none⟩)] w' fun e w2 => e = .returned (.bool (F k)) ∧ Below w'.heap.size w' w2) := fun k hk hkn s0 c0 t0 d0 w' hb' => by
    obtain ⟨i, hi, ei, si⟩ := oX_at hk
    obtain ⟨j, hj, ej, sj⟩ := oX_at (E := B) (i := k) (by omega)
    have h9 := hF k
    rw [ei, ej] at h9 ⊢
    exact sa1_any A B w.heap.size (w.heap.size + 1) a cap a' cap' b cbp b' cbp' i j s0 c0 t0 d0 w' HSA.out HSB.out HA0.out HB0.out hi hj si sj (HEA.out.below hb') (HEB.out.below hb') (F k) h9
  have hoN : oN A ≤ 1048576 := by have := otX_len A.T A.p; unfold oN; omega
  clear hck hnx hF
  go_upto_region 5 with fail
  refine wp_region_E 999 (S := fun u => Below W.heap.size W u) (by kernel_rfl) ((Below.refl _ _).drew) (fun hS => ?_)
  obtain ⟨u0, hu0⟩ : ∃ y, y = W.drew := ⟨_, rfl⟩
  rw [← hu0] at hS ⊢
  clear hu0
  refine wpAnyE_takeD (L := 999) (i := 0) (v := .agg #[.int .i64 A.nx, .int .i64 A.ck, .slice a A.p cap, .slice a' A.q cap']) (some 25) rfl rfl (by kernel_rfl) (by kernel_rfl) (by kernel_rfl) (by kernel_rfl) (fun _ _ _ h => h) (Or.inl ⟨by kernel_rfl, by intro u hSu; have gp0 := cell_below p0 hSu; have gp1 := cell_below p1 hSu; have gp2 := cell_below p2 hSu; have gp3 := cell_below p3 hSu; go_simp⟩) hS ?_
  try simp only [Act.put, List.setIfInBounds_toArray, List.set_cons_zero, List.set_cons_succ]
  refine wpAnyE_takeD (L := 999) (i := 2) (v := .agg #[.int .i64 B.nx, .int .i64 B.ck, .slice b B.p cbp, .slice b' B.q cbp']) (some 27) rfl rfl (by kernel_rfl) (by kernel_rfl) (by kernel_rfl) (by kernel_rfl) (fun _ _ _ h => h) (Or.inl ⟨by kernel_rfl, by intro u hSu; have gq0 := cell_below q0 hSu; have gq1 := cell_below q1 hSu; have gq2 := cell_below q2 hSu; have gq3 := cell_below q3 hSu; go_simp⟩) hS ?_
  try simp only [Act.put, List.setIfInBounds_toArray, List.set_cons_zero, List.set_cons_succ]
  refine wpAnyE_takeD (L := 999) (i := 4) (v := .func (.func 41) #[] #[.pointer (some ⟨w.heap.size, 0, none⟩), .pointer (some ⟨w.heap.size + 1, 0, none⟩)]) (some 29) rfl rfl (by kernel_rfl) (by kernel_rfl) (by kernel_rfl) (by kernel_rfl) (fun _ _ _ h => h) (Or.inl ⟨by kernel_rfl, by intro u hSu; go_simp⟩) hS ?_
  try simp only [Act.put, List.setIfInBounds_toArray, List.set_cons_zero, List.set_cons_succ]
  refine wpAnyE_ready (rs := [1]) (by kernel_rfl) (by simp) ?_
  refine AllReadyE.cons rfl (fun K9 hK => ?_) AllReadyE.nil
  go_simp
  refine (openOf_any A a cap a' cap' _ h20a (HEA.out.2.below hS)).mono ?_
  rintro e u1 ⟨va, vc, rfl, hbu, hox⟩
  have HOA : Hid (OxAt u1 va (oN A) (oX A)) := hox
  clear hox
  refine hK.out _ _ (below_then hS hbu) (fun hS9 => ?_)
  try simp only [Act.put, List.setIfInBounds_toArray, List.set_cons_zero, List.set_cons_succ]
  clear hK K9 hS hbu
  have hS := hS9
  clear hS9
  refine wpAnyE_ready (rs := [3]) (by kernel_rfl) (by simp) ?_
  refine AllReadyE.cons rfl (fun K9 hK => ?_) AllReadyE.nil
  go_simp
  refine (openOf_any B b cbp b' cbp' _ h20b (HEB.out.2.below hS)).mono ?_
  rintro e u1 ⟨vb, vd, rfl, hbu, hox⟩
  have HOB : Hid (OxAt u1 vb (oN B) (oX B)) := hox
  replace HOA : Hid (OxAt u1 va (oN A) (oX A)) := HOA.out.below hbu
  clear hox
  refine hK.out _ _ (below_then hS hbu) (fun hS9 => ?_)
  try simp only [Act.put, List.setIfInBounds_toArray, List.set_cons_zero, List.set_cons_succ]
  clear hK K9 hS hbu
  have hS := hS9
  clear hS9
  refine wpAnyE_ready (rs := [5]) (by kernel_rfl) (by simp) ?_
  refine AllReadyE.cons rfl (fun K9 hK => ?_) AllReadyE.nil
  go_simp
  refine (eqFuncX_any (oN A) (oN B) (oX A) (oX B) F w.heap.size (w.heap.size + 1) va vb vc vd _ hoN HOA.out HOB.out (fun k hk hkn s0 c0 t0 d0 w' hb' => HQ.out k hk hkn s0 c0 t0 d0 w' (below_then hS hb')) c HCF.out).mono ?_
  rintro e u1 ⟨rfl, hbu⟩
  refine hK.out _ _ (below_then hS hbu) (fun hS9 => ?_)
  try simp only [Act.put, List.setIfInBounds_toArray, List.set_cons_zero, List.set_cons_succ]
  clear hK K9 hS hbu
  have hS := hS9
  clear hS9
  refine wpAnyE_takeD (L := 999) (i := 6) (v := .bool c) (some 4) rfl rfl (by kernel_rfl) (by kernel_rfl) (by kernel_rfl) (by kernel_rfl) (fun _ _ _ h => h) (Or.inl ⟨by kernel_rfl, by intro u hSu; go_simp⟩) hS ?_
  try simp only [Act.put, List.setIfInBounds_toArray, List.set_cons_zero, List.set_cons_succ]
  refine wpAnyE_done (by kernel_rfl) ?_ _
  go_simp
  go_wp2_with fail
  go_ret
  exact ⟨rfl, below_then HBW.out hS⟩
end Go.Proofs.YtnhlcadipkmhhaaGreat
