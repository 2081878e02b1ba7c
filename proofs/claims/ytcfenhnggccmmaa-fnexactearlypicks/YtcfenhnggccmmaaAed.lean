/- impl.EarlyPicks. -/
import Derived.Test.YtcfenhnggccmmaaAec
namespace Go.Proofs.Ytcfenhnggccmmaa
open Go.ChangeShapes Go.WideShapes Go.ChangeAt Go.RowKit Go.Deep Go.Joins
set_option linter.unusedVariables false
set_option linter.unusedSimpArgs false
set_option maxRecDepth 20000

theorem infoSI16 : (Try.prog.info? 31).map (fun i => (i.zero, i.size, i.bytes)) = some (some (.slice none 0 0), 1, 24) := by kernel_rfl
theorem run_bs3 (w : World) (a b d : Option Addr) (n c m e l g : Nat) : (Instr.buildSlice 77 3 #[(0, .slice a n c), (1, .slice b m e), (2, .slice d l g)]).run Try.prog w = .ok (.slice (some ⟨w.heap.size, 0, none⟩) 3 3) (w.alloc (.cells #[.slice a n c, .slice b m e, .slice d l g] 31)) := by
  obtain ⟨i0, hi, hzz⟩ := Option.map_eq_some_iff.1 infoSI16
  simp only [Prod.mk.injEq] at hzz
  obtain ⟨hz0, hz1, hz2⟩ := hzz
  simp [Instr.buildSlice, Sem.run_bind, run_underlying Try.underlying77, sizeOf, typeInfo, hi, hz1, zeroValue, hz0, Instr.fill, Value.cells, newRow, show Array.range 3 = #[0, 1, 2] from rfl]
theorem step_bs3 {ops : Array Oper} {o : Oper} {a : Act} {Kc : Act → World → Prop} {Q : Exit → Act → World → Prop} {Ee : Prop} (w : World) (d : Option Tmp) (hd : o.dst = d) (hgd : o.guard = none) (x y z : Operand) (ho : o.op = .buildSlice 77 3 #[(0, x), (1, y), (2, z)])
    (ad : Option Addr) (n c : Nat) (hx : a.eval x = .slice ad n c) (bd : Option Addr) (m e : Nat) (hy : a.eval y = .slice bd m e) (dd : Option Addr) (l g : Nat) (hz : a.eval z = .slice dd l g)
    (h : Kc (a.put d (.slice (some ⟨w.heap.size, 0, none⟩) 3 3)) (w.alloc (.cells #[.slice ad n c, .slice bd m e, .slice dd l g] 31))) :
    if Region.wanted o (yielded ops a.tmps) = true then Oper.wp Try.prog o a w Kc Q else Ee := by
  have hw : Region.wanted o (yielded ops a.tmps) = true := by simp [Region.wanted, hgd]
  rw [if_pos hw]
  subst hd
  unfold Oper.wp execOp
  simp only [ho, hx, hy, hz, List.map_toArray, List.map_cons, List.map_nil, run_bs3 w ad bd dd n c m e l g, Sem.run_bind, Sem.run_pure, Result.andThen_ok]
  exact h
/-- The early picks' code. -/
def epF (n : Nat) (T : Nat → Al) (m : Nat) (P : Nat → Int) (v : Int) : Int := if mgF n T m P = 0 then (if inB v 0 ((n : Int) - 1) = true then 0 else 3) else mgF n T m P
set_option maxHeartbeats 8000000 in
theorem implEp_any (n : Nat) (T : Nat → Al) (a : Option Addr) (cap : Nat) (m : Nat) (P : Nat → Int) (d : Option Addr) (dc : Nat) (v : Int) (w : World) (hn : n ≤ 1048576) (hL : SmAl n T) (hm : m ≤ 1048576) (h : AlsAt w a n T) (hd : IntsAt w d m P) :
    Calls Try.prog 16 #[.slice a n cap, .slice d m dc, .int .i64 v] w (IRes (epF n T m P v) (eaL P v m) w) := by
  have HA : Hid (AlsAt w a n T) := h
  have HD : Hid (IntsAt w d m P) := hd
  have HL : Hid (SmAl n T) := hL
  generalize hC : epF n T m P v = C
  have HC : Hid (C = if mgF n T m P = 0 then (if inB v 0 ((n : Int) - 1) = true then 0 else 3) else mgF n T m P) := hC.symm
  clear h hd hL hC
  go_enter Try.func16, Try.ntmps16
  go_wp2_with fail
  refine (mergeFault_any n T a cap m P d dc _ hn HL.out hm (HA.out.below (below_new _ _)) (HD.out.below (below_new _ _))).mono ?_
  rintro e w1 ⟨rfl, hb1⟩
  have B2 := (Box2.new w (.int .i64 0) (.slice none 0 0) 33).below hb1
  have rf : ∀ i, w1.frozen? ⟨w.heap.size, i, none⟩ = false := fun i => ((bcell29 hb1).2 _ _ (by simp)).trans (by simp [go_sem])
  have HBW : Hid (Below w.heap.size w w1) := below_then (below_new _ _) hb1
  have hs1 : w.heap.size + 1 ≤ w1.heap.size := by have := hb1.size; rw [World.size_alloc] at this; exact this
  replace HD : Hid (IntsAt w1 d m P) := HD.out.below HBW.out
  clear hb1
  obtain ⟨r0, r1⟩ := B2
  by_cases hc : mgF n T m P = 0
  case neg =>
    have hc2 : (mgF n T m P != 0) = true := by simpa using hc
    have hCe : C = mgF n T m P := by have := HC.out; rwa [if_neg hc] at this
    have HF : Hid (∀ w7, Below w.heap.size w w7 → IRes C (eaL P v m) w (.returned (.agg #[.int .i64 (mgF n T m P), .slice none 0 0])) w7) := fun w7 hb => by rw [hCe]; exact ires_bad hb hc
    clear hc hCe HC
    generalize mgF n T m P = uu at *
    go_wp2_with fail
    refine bodyPost_ret (v := .agg #[.int .i64 uu, .slice none 0 0]) (by simp [results, Try.results16, go_sem, *]) rfl ?_
    refine HF.out _ ?_
    repeat (first | with_reducible exact HBW.out | with_reducible refine Below.setCell ?_ (by first | omega | (simp <;> omega)) _)
  have HC1 : Hid (C = if inB v 0 ((n : Int) - 1) = true then 0 else 3) := by have := HC.out; rwa [if_pos hc] at this
  have hm8 : m ≤ 80 := (mgF_ok hc).2.1
  rw [hc]
  clear hc HC
  go_wp2_with fail
  refine (isPlace9 v n _ hn).mono ?_
  rintro e w2 ⟨rfl, hw2⟩
  obtain rfl := hw2.symm
  rcases (bool_or9 (inB v 0 ((n : Int) - 1))).symm with hb | hb
  · have hCe : C = 3 := by have := HC1.out; rwa [hb, if_neg (by simp)] at this
    have HF : Hid (∀ w7, Below w.heap.size w w7 → IRes C (eaL P v m) w (.returned (.agg #[.int .i64 3, .slice none 0 0])) w7) := fun w7 hb => by rw [hCe]; exact ires_bad hb (by decide)
    rw [hb]
    clear hb hCe HC1
    go_wp2_with fail
    refine bodyPost_ret (v := .agg #[.int .i64 3, .slice none 0 0]) (by simp [results, Try.results16, go_sem, *]) rfl ?_
    refine HF.out _ ?_
    repeat (first | with_reducible exact HBW.out | with_reducible refine Below.setCell ?_ (by first | omega | (simp <;> omega)) _)
  have HC0 : Hid (C = 0) := by have := HC1.out; rwa [hb, if_pos rfl] at this
  rw [hb]
  clear hb HC1
  have HRB : Hid (Box2 w1 w.heap.size (.int .i64 0) (.slice none 0 0) ∧ ∀ i, w1.frozen? ⟨w.heap.size, i, none⟩ = false) := ⟨⟨r0, r1⟩, rf⟩
  go_wp2_with fail
  clear r0 r1 rf
  go_loopw [8, 9, 11, 28] (fun v8 v9 _ i wr => ∃ k : Nat, k ≤ m ∧ i = .int .i64 k ∧ Hid (Below w1.heap.size w1 wr) ∧ Hid (TwoI w1.heap.size wr v8 v9 (wL P v k) (oL P v k))) (fun _ _ _ i _ => m - (intOf i).toNat)
  case atStart => exact ⟨0, Nat.zero_le _, rfl, Below.refl _ _, World.ownsRow_nil _ _ _ _, World.ownsRow_nil _ _ _ _, fun q hq => by simp [Value.ownBlock] at hq⟩
  case round =>
    obtain ⟨k, hk, rfl, HB, HT⟩ := hrel
    by_cases hlt : k < m
    · have hlt' : (k : Int) < (m : Int) := by omega
      have hk0 : (0 : Int) ≤ (k : Int) := by omega
      rcases HD.out.below HB.out with h | ⟨bb, off, rfl, hl, hcc⟩
      · omega
      have x0 := hcc k hlt
      have hszr := HB.out.size
      have HLW : Hid ((wL P v k).length ≤ 100000) := by have := wL_len P v k; show _ ≤ _; omega
      have HLO : Hid ((oL P v k).length ≤ 100000) := by have := oL_len P v k; show _ ≤ _; omega
      obtain ⟨va, ca, rfl⟩ := row1_slice HT.out.1
      obtain ⟨vo, co, rfl⟩ := row1_slice HT.out.2.1
      have HTA : Hid (∀ o1 : Obj, TwoI w1.heap.size (wr.alloc o1) (.slice va (wL P v k).length ca) (.slice vo (oL P v k).length co) (wL P v k) (oL P v k)) := fun o1 => HT.out.below (below_new _ _)
      have HLT1 : Hid (∀ q, (Value.slice va (wL P v k).length ca).ownBlock = some q → w1.heap.size ≤ q ∧ q < wr.heap.size) := ownI_lt HT.out.1
      have HLT2 : Hid (∀ q, (Value.slice vo (oL P v k).length co).ownBlock = some q → w1.heap.size ≤ q ∧ q < wr.heap.size) := ownI_lt HT.out.2.1
      clear hcc
      by_cases hst : P k = v
      · have HE1 : Hid (wL P v (k + 1) = wL P v k ++ [P k]) := if_pos hst
        have HE2 : Hid (oL P v (k + 1) = oL P v k) := if_pos hst
        have hst2 : (P k == v) = true := by simp [hst]
        clear hst
        go_wp2_with (at_builtin; refine wpList_appIL _ rfl (.tmp 35) (.tmp 37) rfl w1.heap.size _ (wL P v k) rfl (HTA.out _).1 wr.heap.size 0 1 (P k) rfl (by simp [go_sem]) (by simp; omega) HLW.out ?_)
        intro g gc w3 ho3 hg3 hl3 _
        have HB3 : Hid (Below w1.heap.size w1 w3) := (below_then HB.out (below_new _ _)).grown hg3 (by simp; omega) fun q hq => (HLT1.out q hq).1
        have HT3 : Hid (TwoI w1.heap.size w3 (.slice (some ⟨g, 0, none⟩) (wL P v k ++ [P k]).length gc) (.slice vo (oL P v k).length co) (wL P v (k + 1)) (oL P v (k + 1))) := by
          rw [HE1.out, HE2.out]
          have el : (wL P v k ++ [P k]).length = (wL P v k).length + 1 := by simp
          rw [← el] at ho3
          exact (HTA.out _).grow1 hg3 ho3 (hl3.imp_right fun e => by rw [e]; simp)
        clear ho3 hg3 hl3 x0 HTA
        go_wp2_with fail
        go_roundw
        case rel => exact ⟨k + 1, hlt, by go_num, HB3, by first | exact HT3 | (have h := HT3.out; simp only [List.length_append, List.length_cons, List.length_nil, Nat.zero_add] at h; exact h)⟩
        case measure => simp [intOf]; omega
      · have HE1 : Hid (wL P v (k + 1) = wL P v k) := if_neg hst
        have HE2 : Hid (oL P v (k + 1) = oL P v k ++ [P k]) := if_neg hst
        have hst2 : (P k == v) = false := by simp [hst]
        clear hst
        go_wp2_with (at_builtin; refine wpList_appIL _ rfl (.tmp 39) (.tmp 41) rfl w1.heap.size _ (oL P v k) rfl (HTA.out _).2.1 wr.heap.size 0 1 (P k) rfl (by simp [go_sem]) (by simp; omega) HLO.out ?_)
        intro g gc w3 ho3 hg3 hl3 _
        have HB3 : Hid (Below w1.heap.size w1 w3) := (below_then HB.out (below_new _ _)).grown hg3 (by simp; omega) fun q hq => (HLT2.out q hq).1
        have HT3 : Hid (TwoI w1.heap.size w3 (.slice va (wL P v k).length ca) (.slice (some ⟨g, 0, none⟩) (oL P v k ++ [P k]).length gc) (wL P v (k + 1)) (oL P v (k + 1))) := by
          rw [HE1.out, HE2.out]
          have el : (oL P v k ++ [P k]).length = (oL P v k).length + 1 := by simp
          rw [← el] at ho3
          exact (HTA.out _).grow2 hg3 ho3 (hl3.imp_right fun e => by rw [e]; simp)
        clear ho3 hg3 hl3 x0 HTA
        go_wp2_with fail
        go_roundw
        case rel => exact ⟨k + 1, hlt, by go_num, HB3, by first | exact HT3 | (have h := HT3.out; simp only [List.length_append, List.length_cons, List.length_nil, Nat.zero_add] at h; exact h)⟩
        case measure => simp [intOf]; omega
    · have hkm : k = m := by omega
      subst hkm
      have hnl : ¬ ((k : Int) < (k : Int)) := by omega
      obtain ⟨va, ca, rfl, hca⟩ := row1_cap HT.out.1
      obtain ⟨vo, co, rfl, hco⟩ := row1_cap HT.out.2.1
      rename World => W
      have HI1 : Hid (IntsAt W va (wL P v k).length (zI (wL P v k))) := by obtain ⟨a9, c9, e9, h9⟩ := ownI_of_row HT.out.1; cases e9; exact h9.at
      have HI2 : Hid (IntsAt W vo (oL P v k).length (zI (oL P v k))) := by obtain ⟨a9, c9, e9, h9⟩ := ownI_of_row HT.out.2.1; cases e9; exact h9.at
      have HVO : Hid ((vo = none ∧ (oL P v k).length = 0 ∧ co = 0) ∨ ∃ g, vo = some ⟨g, 0, none⟩) := by
        rcases HT.out.2.1.2 with ⟨e9, h9⟩ | ⟨g, c9, cur, e9, _⟩
        · simp only [Value.slice.injEq] at e9; exact .inl ⟨e9.1, by omega, by omega⟩
        · simp only [Value.slice.injEq] at e9; exact .inr ⟨g, e9.1⟩
      have hfl := fst_le P v k
      have HFm : Hid ((if ix9 (fun j => P j == v) k 0 < 0 then 0 else ix9 (fun j => P j == v) k 0) = (fstN P v k : Int)) := by show _ = _; unfold fstN; split <;> omega
      have HBB : Hid (Below w.heap.size w W) := below_then HBW.out HB.out
      have hsW : w1.heap.size ≤ W.heap.size := HB.out.size
      obtain ⟨⟨r0, r1⟩, rf⟩ := HRB.out
      have HJ : Hid (∀ u a3 c3, Below W.heap.size W u → IntsAt W a3 ((oL P v k).length - fstN P v k) (zI ((oL P v k).drop (fstN P v k))) →
          Calls Try.prog 42 #[.slice (some ⟨u.heap.size, 0, none⟩) 3 3] (u.alloc (.cells #[.slice vo (fstN P v k) co, .slice va (wL P v k).length ca, .slice a3 ((oL P v k).length - fstN P v k) c3] 31)) fun e w' =>
            ∃ ar nr cr, e = .returned (.slice ar nr cr) ∧ Hid (∀ w7, Writes w.heap.size (w.heap.size + 1) w' w7 → w7.heap.size = w'.heap.size → IRes C (eaL P v k) w (.returned (.agg #[.int .i64 0, .slice ar nr cr])) w7) ∧ w'.cell? ⟨w.heap.size, 0, none⟩ = some (.int .i64 0) ∧ w'.cell? ⟨w.heap.size, 1, none⟩ = some (.slice none 0 0) ∧ ∀ i, w'.frozen? ⟨w.heap.size, i, none⟩ = false) := by
        intro u a3 c3 hbu h3
        have hbn := below_new u (.cells #[.slice vo (fstN P v k) co, .slice va (wL P v k).length ca, .slice a3 ((oL P v k).length - fstN P v k) c3] 31)
        have hbt := below_then hbu hbn
        have hl0 := oL_len P v k
        have hl1 := wL_len P v k
        have hbz : w.heap.size + 1 ≤ (u.alloc (.cells #[.slice vo (fstN P v k) co, .slice va (wL P v k).length ca, .slice a3 ((oL P v k).length - fstN P v k) c3] 31)).heap.size := by have := hbt.size; omega
        have ht0 : ((oL P v k).take (fstN P v k)).length = fstN P v k := by rw [List.length_take]; omega
        have hd0 : ((oL P v k).drop (fstN P v k)).length = (oL P v k).length - fstN P v k := List.length_drop ..
        have i0 := ints_take HI2.out hfl
        refine (joinedIs_any 3 (pcE P v k) (fun j => if j = 0 then vo else if j = 1 then va else a3) (fun j => if j = 0 then co else if j = 1 then ca else c3) u.heap.size _ (by omega) (fun j hj => ?_) (by simp) (fun j hj => ?_) (fun j hj => ?_)).mono ?_
        · rcases j with _ | _ | j
          · show ((oL P v k).take (fstN P v k)).length ≤ _; omega
          · show (wL P v k).length ≤ _; omega
          · show ((oL P v k).drop (fstN P v k)).length ≤ _; omega
        · rcases j with _ | _ | _ | j
          · show _ = some (Value.slice vo ((oL P v k).take (fstN P v k)).length co); rw [ht0]; simp [go_sem]
          · show _ = some (Value.slice va (wL P v k).length ca); simp [go_sem]
          · show _ = some (Value.slice a3 ((oL P v k).drop (fstN P v k)).length c3); rw [hd0]; simp [go_sem]
          · omega
        · rcases j with _ | _ | _ | j
          · exact i0.below hbt
          · exact HI1.out.below hbt
          · show IntsAt _ a3 ((oL P v k).drop (fstN P v k)).length (zI ((oL P v k).drop (fstN P v k))); rw [hd0]; exact h3.below hbt
          · omega
        · rintro e w' ⟨vr, rfl, hb', ho'⟩
          have hbw : Below W.heap.size W w' := below_then hbt hb'
          have hlt : w.heap.size < W.heap.size := by omega
          obtain ⟨ar, cr, rfl⟩ := row1_slice ho'
          refine ⟨ar, _, cr, rfl, ?_, ?_, ?_, ?_⟩
          · intro w7 hw hs7
            rw [HC0.out]
            exact ires_ok rfl (below_then HBB.out hbw) (Nat.le_refl _) (by omega) hbz ho' hw hs7
          · exact cell_below (cell_below r0 HB.out) hbw
          · exact cell_below (cell_below r1 HB.out) hbw
          · exact fun i => ((bcell29 hbw).2 _ _ hlt).trans (((bcell29 HB.out).2 _ _ (by omega)).trans (rf i))
      have HD2 : Hid (IntsAt W d k P) := HD.out.below HB.out
      have HLk : Hid (∀ f : Nat, f ≤ (oL P v k).length → ∀ g, vo = some ⟨g, 0, none⟩ → IntsAt W (some ⟨g, f, none⟩) ((oL P v k).length - f) (zI ((oL P v k).drop f))) := fun f hf g hg => by
        have := HI2.out
        rw [hg] at this
        have h9 := ints_drop this hf
        rw [Nat.zero_add, List.length_drop] at h9
        exact h9
      have HZ0 : Hid ((oL P v k).length = fstN P v k → IntsAt W vo ((oL P v k).length - fstN P v k) (zI ((oL P v k).drop (fstN P v k)))) := fun h => .inl (by omega)
      have HL0 : Hid ((oL P v k).length ≤ 80) := by have := oL_len P v k; show _ ≤ _; omega
      have HIX : Hid (∀ u : World, IntsAt W d k P → Calls Try.prog 41 #[.slice d k dc, .int .i64 v] W fun e w' => e = .returned (.int .i64 (ix9 (fun j => P j == v) k 0)) ∧ w' = W) := fun _ h => index9_any k P d dc v W (by omega) h
      clear r0 r1 rf HT HB HI1 HI2 HRB
      generalize (wL P v k).length = K at *
      generalize (oL P v k).length = L at *
      go_wp2_with fail
      refine (HIX.out W HD2.out).mono ?_
      rintro e w3 ⟨rfl, hw3⟩
      obtain rfl := hw3.symm
      clear HIX
      generalize ix9 (fun j => P j == v) k 0 = ixv at *
      go_upto_region 15 with fail
      rw [HFm.out]
      generalize fstN P v k = f at *
      clear HFm
      have hf0 : (0 : Int) ≤ (f : Int) := by omega
      have hfL : (f : Int) ≤ (L : Int) := by omega
      have hLc : (L : Int) ≤ (co : Int) := by omega
      have hfc0 : f ≤ co := by omega
      rcases HVO.out with ⟨rfl, rfl, rfl⟩ | ⟨g, rfl⟩
      · obtain rfl : f = 0 := by omega
        clear HLk HVO
        refine wp_region_E 10 (S := fun _ => True) (by kernel_rfl) trivial (fun hS => ?_)
        obtain ⟨u0, hu0⟩ : ∃ y, y = W.drew := ⟨_, rfl⟩
        have hbu : Below W.heap.size W u0 := by rw [hu0]; exact (Below.refl _ _).drew
        rw [← hu0]
        clear hu0
        refine wpAnyE_takeD (L := 10) (i := 0) (v := .slice none 0 0) (some 48) rfl rfl (by kernel_rfl) (by kernel_rfl) (by kernel_rfl) (by kernel_rfl) (fun _ _ _ h => h) (Or.inl ⟨by kernel_rfl, by intro u hSu; go_simp⟩) hS ?_
        try simp only [Act.put, List.setIfInBounds_toArray, List.set_cons_zero, List.set_cons_succ]
        refine wpAnyE_takeD (L := 10) (i := 1) (v := .int .i64 ((0 : Nat) : Int)) (some 49) rfl rfl (by kernel_rfl) (by kernel_rfl) (by kernel_rfl) (by kernel_rfl) (fun _ _ _ h => h) (Or.inl ⟨by kernel_rfl, by intro u hSu; go_simp⟩) hS ?_
        try simp only [Act.put, List.setIfInBounds_toArray, List.set_cons_zero, List.set_cons_succ]
        refine wpAnyE_takeD (L := 10) (i := 2) (v := .slice none 0 0) (some 50) rfl rfl (by kernel_rfl) (by kernel_rfl) (by kernel_rfl) (by kernel_rfl) (fun _ _ _ h => h) (Or.inl ⟨by kernel_rfl, by intro u hSu; go_simp⟩) hS ?_
        try simp only [Act.put, List.setIfInBounds_toArray, List.set_cons_zero, List.set_cons_succ]
        refine wpAnyE_takeD (L := 10) (i := 3) (v := .slice va K ca) (some 51) rfl rfl (by kernel_rfl) (by kernel_rfl) (by kernel_rfl) (by kernel_rfl) (fun _ _ _ h => h) (Or.inl ⟨by kernel_rfl, by intro u hSu; go_simp⟩) hS ?_
        try simp only [Act.put, List.setIfInBounds_toArray, List.set_cons_zero, List.set_cons_succ]
        refine wpAnyE_takeD (L := 10) (i := 4) (v := .slice none 0 0) (some 52) rfl rfl (by kernel_rfl) (by kernel_rfl) (by kernel_rfl) (by kernel_rfl) (fun _ _ _ h => h) (Or.inl ⟨by kernel_rfl, by intro u hSu; go_simp⟩) hS ?_
        try simp only [Act.put, List.setIfInBounds_toArray, List.set_cons_zero, List.set_cons_succ]
        refine wpAnyE_takeD (L := 10) (i := 5) (v := .int .i64 ((0 : Nat) : Int)) (some 53) rfl rfl (by kernel_rfl) (by kernel_rfl) (by kernel_rfl) (by kernel_rfl) (fun _ _ _ h => h) (Or.inl ⟨by kernel_rfl, by intro u hSu; go_simp⟩) hS ?_
        try simp only [Act.put, List.setIfInBounds_toArray, List.set_cons_zero, List.set_cons_succ]
        refine wpAnyE_takeD (L := 10) (i := 6) (v := .slice none 0 (0)) (some 54) rfl rfl (by kernel_rfl) (by kernel_rfl) (by kernel_rfl) (by kernel_rfl) (fun _ _ _ h => h) (Or.inl ⟨by kernel_rfl, by intro u hSu; go_simp⟩) hS ?_
        try simp only [Act.put, List.setIfInBounds_toArray, List.set_cons_zero, List.set_cons_succ]
        have HQ := HJ.out u0 none (0) hbu (HZ0.out rfl)
        clear hbu
        rw [Nat.sub_self] at HQ
        refine wpAnyE_ready (rs := [7]) (by kernel_rfl) (by simp) ?_
        refine AllReadyE.cons rfl (fun K9 hK => ?_) AllReadyE.nil
        refine step_bs3 u0 (some 55) rfl rfl (.tmp 50) (.tmp 51) (.tmp 54) rfl none 0 0 rfl va K ca rfl none 0 (0) rfl ?_
        refine hK.out _ _ trivial (fun hS9 => ?_)
        try simp only [Act.put, List.setIfInBounds_toArray, List.set_cons_zero, List.set_cons_succ]
        clear hK K9
        refine wpAnyE_ready (rs := [8]) (by kernel_rfl) (by simp) ?_
        refine AllReadyE.cons rfl (fun K9 hK => ?_) AllReadyE.nil
        go_simp
        refine HQ.mono ?_
        rintro e u2 ⟨ar, nr, cr, rfl, HF⟩
        refine hK.out _ _ trivial (fun hS9 => ?_)
        try simp only [Act.put, List.setIfInBounds_toArray, List.set_cons_zero, List.set_cons_succ]
        clear hK K9 HQ
        obtain ⟨HF0, r0, r1, rf⟩ := HF
        refine wpAnyE_ready (rs := [9]) (by kernel_rfl) (by simp) ?_
        refine AllReadyE.cons rfl (fun K9 hK => ?_) AllReadyE.nil
        go_simp
        refine hK.out _ _ trivial (fun hS9 => ?_)
        try simp only [Act.put, List.setIfInBounds_toArray, List.set_cons_zero, List.set_cons_succ]
        clear hK K9
        refine wpAnyE_ready (rs := [10]) (by kernel_rfl) (by simp) ?_
        refine AllReadyE.last rfl (fun K9 hK => ?_)
        go_simp
        refine hK.out _ _ ?_
        try simp only [Act.put, List.setIfInBounds_toArray, List.set_cons_zero, List.set_cons_succ]
        clear hK K9
        refine wpAnyE_done (by kernel_rfl) ?_ _
        go_simp
        go_wp2_with fail
        refine bodyPost_ret (v := .agg #[.int .i64 0, .slice ar nr cr]) (by simp [results, Try.results16, go_sem, *]) rfl ?_
        refine HF0.out _ ?_ (by simp [World.setCell])
        repeat (first | with_reducible exact Writes.refl _ _ _ | with_reducible refine Writes.setCell ?_ (by first | omega | (simp <;> omega)) (by first | omega | (simp <;> omega)) _)
      · by_cases hfc : f < co
        · have hf3 := HLk.out f (by omega) g rfl
          have hfc' : (f : Int) < (co : Int) := by omega
          have hne : ¬ co = f := by omega
          clear HLk HVO HZ0
          refine wp_region_E 10 (S := fun _ => True) (by kernel_rfl) trivial (fun hS => ?_)
          obtain ⟨u0, hu0⟩ : ∃ y, y = W.drew := ⟨_, rfl⟩
          have hbu : Below W.heap.size W u0 := by rw [hu0]; exact (Below.refl _ _).drew
          rw [← hu0]
          clear hu0
          refine wpAnyE_takeD (L := 10) (i := 0) (v := .slice (some ⟨g, 0, none⟩) L co) (some 48) rfl rfl (by kernel_rfl) (by kernel_rfl) (by kernel_rfl) (by kernel_rfl) (fun _ _ _ h => h) (Or.inl ⟨by kernel_rfl, by intro u hSu; go_simp⟩) hS ?_
          try simp only [Act.put, List.setIfInBounds_toArray, List.set_cons_zero, List.set_cons_succ]
          refine wpAnyE_takeD (L := 10) (i := 1) (v := .int .i64 (f : Int)) (some 49) rfl rfl (by kernel_rfl) (by kernel_rfl) (by kernel_rfl) (by kernel_rfl) (fun _ _ _ h => h) (Or.inl ⟨by kernel_rfl, by intro u hSu; go_simp⟩) hS ?_
          try simp only [Act.put, List.setIfInBounds_toArray, List.set_cons_zero, List.set_cons_succ]
          refine wpAnyE_takeD (L := 10) (i := 2) (v := .slice (some ⟨g, 0, none⟩) f co) (some 50) rfl rfl (by kernel_rfl) (by kernel_rfl) (by kernel_rfl) (by kernel_rfl) (fun _ _ _ h => h) (Or.inl ⟨by kernel_rfl, by intro u hSu; go_simp⟩) hS ?_
          try simp only [Act.put, List.setIfInBounds_toArray, List.set_cons_zero, List.set_cons_succ]
          refine wpAnyE_takeD (L := 10) (i := 3) (v := .slice va K ca) (some 51) rfl rfl (by kernel_rfl) (by kernel_rfl) (by kernel_rfl) (by kernel_rfl) (fun _ _ _ h => h) (Or.inl ⟨by kernel_rfl, by intro u hSu; go_simp⟩) hS ?_
          try simp only [Act.put, List.setIfInBounds_toArray, List.set_cons_zero, List.set_cons_succ]
          refine wpAnyE_takeD (L := 10) (i := 4) (v := .slice (some ⟨g, 0, none⟩) L co) (some 52) rfl rfl (by kernel_rfl) (by kernel_rfl) (by kernel_rfl) (by kernel_rfl) (fun _ _ _ h => h) (Or.inl ⟨by kernel_rfl, by intro u hSu; go_simp⟩) hS ?_
          try simp only [Act.put, List.setIfInBounds_toArray, List.set_cons_zero, List.set_cons_succ]
          refine wpAnyE_takeD (L := 10) (i := 5) (v := .int .i64 (f : Int)) (some 53) rfl rfl (by kernel_rfl) (by kernel_rfl) (by kernel_rfl) (by kernel_rfl) (fun _ _ _ h => h) (Or.inl ⟨by kernel_rfl, by intro u hSu; go_simp⟩) hS ?_
          try simp only [Act.put, List.setIfInBounds_toArray, List.set_cons_zero, List.set_cons_succ]
          refine wpAnyE_takeD (L := 10) (i := 6) (v := .slice (some ⟨g, f, none⟩) (L - f) (co - f)) (some 54) rfl rfl (by kernel_rfl) (by kernel_rfl) (by kernel_rfl) (by kernel_rfl) (fun _ _ _ h => h) (Or.inl ⟨by kernel_rfl, by intro u hSu; go_simp⟩) hS ?_
          try simp only [Act.put, List.setIfInBounds_toArray, List.set_cons_zero, List.set_cons_succ]
          have HQ := HJ.out u0 (some ⟨g, f, none⟩) (co - f) hbu hf3
          clear hbu
          refine wpAnyE_ready (rs := [7]) (by kernel_rfl) (by simp) ?_
          refine AllReadyE.cons rfl (fun K9 hK => ?_) AllReadyE.nil
          refine step_bs3 u0 (some 55) rfl rfl (.tmp 50) (.tmp 51) (.tmp 54) rfl (some ⟨g, 0, none⟩) f co rfl va K ca rfl (some ⟨g, f, none⟩) (L - f) (co - f) rfl ?_
          refine hK.out _ _ trivial (fun hS9 => ?_)
          try simp only [Act.put, List.setIfInBounds_toArray, List.set_cons_zero, List.set_cons_succ]
          clear hK K9
          refine wpAnyE_ready (rs := [8]) (by kernel_rfl) (by simp) ?_
          refine AllReadyE.cons rfl (fun K9 hK => ?_) AllReadyE.nil
          go_simp
          refine HQ.mono ?_
          rintro e u2 ⟨ar, nr, cr, rfl, HF⟩
          refine hK.out _ _ trivial (fun hS9 => ?_)
          try simp only [Act.put, List.setIfInBounds_toArray, List.set_cons_zero, List.set_cons_succ]
          clear hK K9 HQ
          obtain ⟨HF0, r0, r1, rf⟩ := HF
          refine wpAnyE_ready (rs := [9]) (by kernel_rfl) (by simp) ?_
          refine AllReadyE.cons rfl (fun K9 hK => ?_) AllReadyE.nil
          go_simp
          refine hK.out _ _ trivial (fun hS9 => ?_)
          try simp only [Act.put, List.setIfInBounds_toArray, List.set_cons_zero, List.set_cons_succ]
          clear hK K9
          refine wpAnyE_ready (rs := [10]) (by kernel_rfl) (by simp) ?_
          refine AllReadyE.last rfl (fun K9 hK => ?_)
          go_simp
          refine hK.out _ _ ?_
          try simp only [Act.put, List.setIfInBounds_toArray, List.set_cons_zero, List.set_cons_succ]
          clear hK K9
          refine wpAnyE_done (by kernel_rfl) ?_ _
          go_simp
          go_wp2_with fail
          refine bodyPost_ret (v := .agg #[.int .i64 0, .slice ar nr cr]) (by simp [results, Try.results16, go_sem, *]) rfl ?_
          refine HF0.out _ ?_ (by simp [World.setCell])
          repeat (first | with_reducible exact Writes.refl _ _ _ | with_reducible refine Writes.setCell ?_ (by first | omega | (simp <;> omega)) (by first | omega | (simp <;> omega)) _)
        · have e1 : co = f := by omega
          have e2 : L = co := by omega
          subst e1
          subst e2
          clear HLk HVO
          refine wp_region_E 10 (S := fun _ => True) (by kernel_rfl) trivial (fun hS => ?_)
          obtain ⟨u0, hu0⟩ : ∃ y, y = W.drew := ⟨_, rfl⟩
          have hbu : Below W.heap.size W u0 := by rw [hu0]; exact (Below.refl _ _).drew
          rw [← hu0]
          clear hu0
          refine wpAnyE_takeD (L := 10) (i := 0) (v := .slice (some ⟨g, 0, none⟩) L L) (some 48) rfl rfl (by kernel_rfl) (by kernel_rfl) (by kernel_rfl) (by kernel_rfl) (fun _ _ _ h => h) (Or.inl ⟨by kernel_rfl, by intro u hSu; go_simp⟩) hS ?_
          try simp only [Act.put, List.setIfInBounds_toArray, List.set_cons_zero, List.set_cons_succ]
          refine wpAnyE_takeD (L := 10) (i := 1) (v := .int .i64 (L : Int)) (some 49) rfl rfl (by kernel_rfl) (by kernel_rfl) (by kernel_rfl) (by kernel_rfl) (fun _ _ _ h => h) (Or.inl ⟨by kernel_rfl, by intro u hSu; go_simp⟩) hS ?_
          try simp only [Act.put, List.setIfInBounds_toArray, List.set_cons_zero, List.set_cons_succ]
          refine wpAnyE_takeD (L := 10) (i := 2) (v := .slice (some ⟨g, 0, none⟩) L L) (some 50) rfl rfl (by kernel_rfl) (by kernel_rfl) (by kernel_rfl) (by kernel_rfl) (fun _ _ _ h => h) (Or.inl ⟨by kernel_rfl, by intro u hSu; go_simp⟩) hS ?_
          try simp only [Act.put, List.setIfInBounds_toArray, List.set_cons_zero, List.set_cons_succ]
          refine wpAnyE_takeD (L := 10) (i := 3) (v := .slice va K ca) (some 51) rfl rfl (by kernel_rfl) (by kernel_rfl) (by kernel_rfl) (by kernel_rfl) (fun _ _ _ h => h) (Or.inl ⟨by kernel_rfl, by intro u hSu; go_simp⟩) hS ?_
          try simp only [Act.put, List.setIfInBounds_toArray, List.set_cons_zero, List.set_cons_succ]
          refine wpAnyE_takeD (L := 10) (i := 4) (v := .slice (some ⟨g, 0, none⟩) L L) (some 52) rfl rfl (by kernel_rfl) (by kernel_rfl) (by kernel_rfl) (by kernel_rfl) (fun _ _ _ h => h) (Or.inl ⟨by kernel_rfl, by intro u hSu; go_simp⟩) hS ?_
          try simp only [Act.put, List.setIfInBounds_toArray, List.set_cons_zero, List.set_cons_succ]
          refine wpAnyE_takeD (L := 10) (i := 5) (v := .int .i64 (L : Int)) (some 53) rfl rfl (by kernel_rfl) (by kernel_rfl) (by kernel_rfl) (by kernel_rfl) (fun _ _ _ h => h) (Or.inl ⟨by kernel_rfl, by intro u hSu; go_simp⟩) hS ?_
          try simp only [Act.put, List.setIfInBounds_toArray, List.set_cons_zero, List.set_cons_succ]
          refine wpAnyE_takeD (L := 10) (i := 6) (v := .slice (some ⟨g, 0, none⟩) 0 (0)) (some 54) rfl rfl (by kernel_rfl) (by kernel_rfl) (by kernel_rfl) (by kernel_rfl) (fun _ _ _ h => h) (Or.inl ⟨by kernel_rfl, by intro u hSu; go_simp⟩) hS ?_
          try simp only [Act.put, List.setIfInBounds_toArray, List.set_cons_zero, List.set_cons_succ]
          have HQ := HJ.out u0 (some ⟨g, 0, none⟩) (0) hbu (HZ0.out rfl)
          clear hbu
          rw [Nat.sub_self] at HQ
          refine wpAnyE_ready (rs := [7]) (by kernel_rfl) (by simp) ?_
          refine AllReadyE.cons rfl (fun K9 hK => ?_) AllReadyE.nil
          refine step_bs3 u0 (some 55) rfl rfl (.tmp 50) (.tmp 51) (.tmp 54) rfl (some ⟨g, 0, none⟩) L L rfl va K ca rfl (some ⟨g, 0, none⟩) 0 (0) rfl ?_
          refine hK.out _ _ trivial (fun hS9 => ?_)
          try simp only [Act.put, List.setIfInBounds_toArray, List.set_cons_zero, List.set_cons_succ]
          clear hK K9
          refine wpAnyE_ready (rs := [8]) (by kernel_rfl) (by simp) ?_
          refine AllReadyE.cons rfl (fun K9 hK => ?_) AllReadyE.nil
          go_simp
          refine HQ.mono ?_
          rintro e u2 ⟨ar, nr, cr, rfl, HF⟩
          refine hK.out _ _ trivial (fun hS9 => ?_)
          try simp only [Act.put, List.setIfInBounds_toArray, List.set_cons_zero, List.set_cons_succ]
          clear hK K9 HQ
          obtain ⟨HF0, r0, r1, rf⟩ := HF
          refine wpAnyE_ready (rs := [9]) (by kernel_rfl) (by simp) ?_
          refine AllReadyE.cons rfl (fun K9 hK => ?_) AllReadyE.nil
          go_simp
          refine hK.out _ _ trivial (fun hS9 => ?_)
          try simp only [Act.put, List.setIfInBounds_toArray, List.set_cons_zero, List.set_cons_succ]
          clear hK K9
          refine wpAnyE_ready (rs := [10]) (by kernel_rfl) (by simp) ?_
          refine AllReadyE.last rfl (fun K9 hK => ?_)
          go_simp
          refine hK.out _ _ ?_
          try simp only [Act.put, List.setIfInBounds_toArray, List.set_cons_zero, List.set_cons_succ]
          clear hK K9
          refine wpAnyE_done (by kernel_rfl) ?_ _
          go_simp
          go_wp2_with fail
          refine bodyPost_ret (v := .agg #[.int .i64 0, .slice ar nr cr]) (by simp [results, Try.results16, go_sem, *]) rfl ?_
          refine HF0.out _ ?_ (by simp [World.setCell])
          repeat (first | with_reducible exact Writes.refl _ _ _ | with_reducible refine Writes.setCell ?_ (by first | omega | (simp <;> omega)) (by first | omega | (simp <;> omega)) _)
end Go.Proofs.Ytcfenhnggccmmaa
