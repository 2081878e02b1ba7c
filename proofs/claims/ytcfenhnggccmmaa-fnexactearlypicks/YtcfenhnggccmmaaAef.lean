/- spec.EarlyPicks. -/
import Derived.Test.YtcfenhnggccmmaaAee
namespace Go.Proofs.Ytcfenhnggccmmaa
open Go.ChangeShapes Go.WideShapes Go.ChangeAt Go.RowKit Go.Deep Go.Joins
set_option linter.unusedVariables false
set_option linter.unusedSimpArgs false
set_option maxRecDepth 20000

set_option maxHeartbeats 16000000 in
theorem specEp_any (n : Nat) (T : Nat → Al) (a : Option Addr) (cap : Nat) (m : Nat) (P : Nat → Int) (d : Option Addr) (dc : Nat) (v : Int) (w : World) (hn : n ≤ 1048576) (hL : SmAl n T) (hm : m ≤ 1048576) (h : AlsAt w a n T) (hd : IntsAt w d m P) :
    Calls Try.prog 14 #[.slice a n cap, .slice d m dc, .int .i64 v] w (IRes (epF n T m P v) (eaL P v m) w) := by
  have HA : Hid (AlsAt w a n T) := h
  have HD : Hid (IntsAt w d m P) := hd
  have HL : Hid (SmAl n T) := hL
  generalize hC : epF n T m P v = C
  have HC : Hid (C = if mgF n T m P = 0 then (if inB v 0 ((n : Int) - 1) = true then 0 else 3) else mgF n T m P) := hC.symm
  clear h hd hL hC
  go_enter Try.func14, Try.ntmps14
  go_wp2_with fail
  refine (l16Asked_any n T a cap m P d dc _ hn HL.out hm (HA.out.below (below_new _ _)) (HD.out.below (below_new _ _))).mono ?_
  rintro e w1 ⟨rfl, hw1⟩
  have hb1 := below_new w (.cells #[.int .i64 0, .slice none 0 0] 33)
  have B2 := Box2.new w (.int .i64 0) (.slice none 0 0) 33
  have rf : ∀ i, (w.alloc (.cells #[.int .i64 0, .slice none 0 0] 33)).frozen? ⟨w.heap.size, i, none⟩ = false := fun i => by simp [go_sem]
  have hs1 : w.heap.size + 1 ≤ (w.alloc (.cells #[.int .i64 0, .slice none 0 0] 33)).heap.size := by simp
  rw [← hw1] at hb1 B2 rf hs1
  clear hw1
  have HBW : Hid (Below w.heap.size w w1) := hb1
  have HD1 : Hid (IntsAt w1 d m P) := HD.out.below hb1
  clear hb1
  obtain ⟨r0, r1⟩ := B2
  by_cases hc : mgF n T m P = 0
  case neg =>
    have hc2 : (mgF n T m P != 0) = true := by simpa using hc
    have hCe : C = mgF n T m P := by have := HC.out; rwa [if_neg hc] at this
    have HF : Hid (∀ w7, Below w.heap.size w w7 → IRes C (eaL P v m) w (.returned (.agg #[.int .i64 (mgF n T m P), .slice none 0 0])) w7) := fun w7 hb => by rw [hCe]; exact ires_bad hb hc
    clear hc hCe HC
    generalize mgF n T m P = uu at *
    go_wp2_with fail
    refine bodyPost_ret (v := .agg #[.int .i64 uu, .slice none 0 0]) (by simp [results, Try.results14, go_sem, *]) rfl ?_
    refine HF.out _ ?_
    repeat (first | with_reducible exact HBW.out | with_reducible refine Below.setCell ?_ (by first | omega | (simp <;> omega)) _)
  have HC1 : Hid (C = if inB v 0 ((n : Int) - 1) = true then 0 else 3) := by have := HC.out; rwa [if_pos hc] at this
  have hm8 : m ≤ 80 := (mgF_ok hc).2.1
  have hn1 : 1 ≤ n := (sF_few (mgF_ok hc).1).1
  rw [hc]
  clear hc HC
  go_wp2_with fail
  refine (l1In_any v 0 ((n : Int) - 1) _).mono ?_
  rintro e w2 ⟨rfl, hw2⟩
  obtain rfl := hw2.symm
  rcases (bool_or9 (inB v 0 ((n : Int) - 1))).symm with hb | hb
  · have hCe : C = 3 := by have := HC1.out; rwa [hb, if_neg (by simp)] at this
    have HF : Hid (∀ w7, Below w.heap.size w w7 → IRes C (eaL P v m) w (.returned (.agg #[.int .i64 3, .slice none 0 0])) w7) := fun w7 hb => by rw [hCe]; exact ires_bad hb (by decide)
    rw [hb]
    clear hb hCe HC1
    go_wp2_with fail
    refine bodyPost_ret (v := .agg #[.int .i64 3, .slice none 0 0]) (by simp [results, Try.results14, go_sem, *]) rfl ?_
    refine HF.out _ ?_
    repeat (first | with_reducible exact HBW.out | with_reducible refine Below.setCell ?_ (by first | omega | (simp <;> omega)) _)
  have HC0 : Hid (C = 0) := by have := HC1.out; rwa [hb, if_pos rfl] at this
  rw [hb]
  clear hb HC1
  have HI : Hid (∀ o : Obj, o = .cells #[.int .i64 0, .slice none 0 0] 33 → EpI w (w1.alloc o) w1.heap.size (.slice none 0 0) []) := by
    rintro o rfl
    exact ⟨below_then HBW.out (below_new _ _), hs1, by simp, ⟨cell_alloc r0 _, cell_alloc r1 _⟩, fun i => ((bcell29 (below_new w1 _)).2 _ _ (by omega)).trans (rf i), Box2.new _ _ _ _, fun i => by simp [go_sem], World.ownsRow_nil _ _ _ _⟩
  clear r0 r1 rf
  go_wp2_with fail
  go_loop [8, 9] (fun c i => ∃ k : Nat, k ≤ m ∧ i = .int .i64 k ∧ c = .int .i64 ((wL P v k).length : Nat)) (fun _ i => m - (intOf i).toNat)
  case atStart => exact ⟨0, Nat.zero_le _, rfl, rfl⟩
  case round =>
    obtain ⟨k, hk, rfl, rfl⟩ := hrel
    by_cases hlt : k < m
    · have hlt' : (k : Int) < (m : Int) := by omega
      have hk0 : (0 : Int) ≤ (k : Int) := by omega
      rcases HD1.out with h | ⟨bb, off, rfl, hl, hcc⟩
      · omega
      have x0 := hcc k hlt
      have hwl := wL_len P v k
      clear hcc
      by_cases hst : P k = v
      · have HE1 : Hid ((wL P v (k + 1)).length = (wL P v k).length + 1) := by show _ = _; rw [wL, if_pos hst, List.length_append]; rfl
        have hst2 : (P k == v) = true := by simp [hst]
        clear hst
        generalize (wL P v k).length = c at *
        go_wp2_with fail
        go_round
        case rel => exact ⟨k + 1, hlt, by go_num, by rw [HE1.out]; go_num⟩
        case measure => first | (simp [intOf]; done) | (simp [intOf]; omega)
      · have HE1 : Hid ((wL P v (k + 1)).length = (wL P v k).length) := by show _ = _; rw [wL, if_neg hst]
        have hst2 : (P k == v) = false := by simp [hst]
        clear hst
        generalize (wL P v k).length = c at *
        go_wp2_with fail
        go_round
        case rel => exact ⟨k + 1, hlt, by go_num, by rw [HE1.out]⟩
        case measure => first | (simp [intOf]; done) | (simp [intOf]; omega)
    · obtain rfl : m = k := by omega
      have hnl : ¬ ((m : Int) < (m : Int)) := by omega
      have HI0 : Hid (∀ o : Obj, o = .cells #[.int .i64 0, .slice none 0 0] 33 → EpI w (w1.alloc o) w1.heap.size (.slice none 0 0) (eK P v m 0)) := fun o ho => HI.out o ho
      have hN0 : (cK P v m 0 : Int) = ((wL P v m).length : Nat) := rfl
      have HNN : Hid ((wL P v m).length ≤ m) := wL_len P v m
      clear HI
      rw [← hN0]
      clear hN0
      clear HD1
      go_wp2_with fail
      go_loopw [8, 11] (fun c i wr => ∃ k : Nat, ∃ u, k ≤ m ∧ i = .int .i64 k ∧ c = .int .i64 (cK P v m k : Nat) ∧ Hid (EpI w wr w1.heap.size u (eK P v m k))) (fun _ i _ => m - (intOf i).toNat)
      case atStart => exact ⟨0, _, Nat.zero_le _, rfl, rfl, HI0.out _ rfl⟩
      case round =>
        clear hlt hnl hk HI0
        obtain ⟨k, u, hk, rfl, rfl, HO⟩ := hrel
        by_cases hlt : k < m
        · have hlt' : (k : Int) < (m : Int) := by omega
          have hk0 : (0 : Int) ≤ (k : Int) := by omega
          rcases HD.out.below HO.out.below with h | ⟨bb, off, rfl, hl, hcc⟩
          · omega
          have x0 := hcc k hlt
          have HLK : Hid ((eK P v m k).length ≤ 100000) := by have := eK_len P v m k hk; show _ ≤ _; omega
          clear hcc
          by_cases hst : P k = v
          · have hst2 : (P k != v) = false := by simp [hst]
            have HNX : Hid (eK P v m (k + 1) = eK P v m k ++ List.replicate (cK P v m k) v ∧ cK P v m (k + 1) = 0 ∧ cK P v m k ≤ m) := by
              by_cases h0 : (wL P v k).length = 0
              · obtain ⟨e1, e2, e3, e4⟩ := eK_first hlt h0 hst
                refine ⟨?_, e2, ?_⟩
                · rw [e1, e3, e4, ← wL_rep]
                · rw [e4]; exact HNN.out
              · obtain ⟨e1, e2, e3⟩ := eK_again (m := m) h0 hst
                refine ⟨?_, e2, ?_⟩
                · rw [e1, e3]; simp
                · rw [e3]; omega
            have hN : cK P v m k ≤ 80 := by have := HNX.out.2.2; omega
            have HX0 : Hid (EpI w wr w1.heap.size u (eK P v m k ++ List.replicate 0 v)) := by show EpI _ _ _ _ _; simp only [List.replicate_zero, List.append_nil]; exact HO.out
            generalize cK P v m k = N at *
            clear hst HO
            go_wp2_with fail
            clear x0
            go_loopw [8] (fun c wr => ∃ j : Nat, ∃ u, j ≤ N ∧ c = .int .i64 ((N - j : Nat) : Int) ∧ Hid (EpI w wr w1.heap.size u (eK P v m k ++ List.replicate j v))) (fun c _ => (intOf c).toNat)
            case atStart => exact ⟨0, _, Nat.zero_le _, rfl, HX0⟩
            case round =>
              clear HX0
              clear u
              obtain ⟨j, u, hj, rfl, HO⟩ := hrel
              by_cases hjt : j < N
              · have hpos : ((N - j : Nat) : Int) > 0 := by omega
                have c1 := HO.out.b.2
                have bf := HO.out.bf
                have hsz := HO.out.hsz
                have HE : Hid (eK P v m k ++ List.replicate (j + 1) v = (eK P v m k ++ List.replicate j v) ++ [v]) := by show _ = _; rw [List.replicate_succ', List.append_assoc]
                have HLJ : Hid ((eK P v m k ++ List.replicate j v).length ≤ 100000) := by have := HLK.out; have := eK_len P v m k hk; show _ ≤ _; rw [List.length_append, List.length_replicate]; omega
                have HOA : Hid (∀ o1 : Obj, EpI w (wr.alloc o1) w1.heap.size u (eK P v m k ++ List.replicate j v)) := fun o1 => HO.out.mono (below_new _ _)
                have hsub : ((N - (j + 1) : Nat) : Int) = ((N - j : Nat) : Int) - 1 := by omega
                generalize ((N - j : Nat) : Int) = nj at *
                go_wp2_with (at_builtin; refine wpList_appI _ rfl (.tmp 67) (.tmp 69) rfl (w1.heap.size + 1) u (eK P v m k ++ List.replicate j v) rfl (HOA.out _).own wr.heap.size 0 1 v rfl (by simp [go_sem]) (by simp; omega) HLJ.out ?_)
                intro v2 w3 ho3 hg3
                obtain ⟨va2, vc2, rfl⟩ := row1_slice ho3
                have ho4 : w3.ownsRow (w1.heap.size + 1) 2 1 (.slice va2 ((eK P v m k).length + (j + 1)) vc2) (eK P v m k ++ List.replicate (j + 1) v).length (il (eK P v m k ++ List.replicate (j + 1) v)) := by
                  rw [HE.out]
                  simpa [Nat.add_assoc] using ho3
                obtain ⟨hn, c2, cf⟩ := EpI.app (HOA.out _) hg3 ho4
                have HN3 : Hid (EpI w (w3.setCell ⟨w1.heap.size, 1, none⟩ (.slice va2 ((eK P v m k).length + (j + 1)) vc2)) w1.heap.size (.slice va2 ((eK P v m k).length + (j + 1)) vc2) (eK P v m k ++ List.replicate (j + 1) v)) := hn
                clear hn ho3 ho4 hg3 c1 bf
                go_wp2_with fail
                go_roundw
                case rel => exact ⟨j + 1, _, hjt, by rw [hsub], HN3⟩
                case measure => first | (simp [intOf]; done) | (simp [intOf]; omega)
              · have hjN : j = N := by omega
                subst hjN
                have hnl : ¬ ((j - j : Nat) : Int) > 0 := by omega
                rw [Nat.sub_self] at hnl ⊢
                have HO2 : Hid (EpI w wr w1.heap.size u (eK P v m (k + 1))) := by rw [HNX.out.1]; exact HO
                have HC9 : Hid (cK P v m (k + 1) = 0) := HNX.out.2.1
                clear HO HNX
                go_wp2_with fail
                go_roundw
                case rel => exact ⟨k + 1, u, hlt, by go_num, by rw [HC9.out], HO2⟩
                case measure => first | (simp [intOf]; done) | (simp [intOf]; omega)
          · have hst2 : (P k != v) = true := by simp [hst]
            obtain ⟨e1, e2⟩ := eK_other hlt hst
            have HE1 : Hid (eK P v m (k + 1) = eK P v m k ++ [P k]) := e1
            have HE2 : Hid (cK P v m (k + 1) = cK P v m k) := e2
            have hck : cK P v m k ≤ 80 := by unfold cK; have := HNN.out; split <;> omega
            have c1 := HO.out.b.2
            have hsz := HO.out.hsz
            have HOA : Hid (∀ o1 : Obj, EpI w (wr.drew.alloc o1) w1.heap.size u (eK P v m k)) := fun o1 => (HO.out.mono ((Below.refl _ _).drew)).mono (below_new _ _)
            have d1 := fun o : Obj => cell_alloc c1 o
            have d2 := fun o : Obj => cell_alloc x0 o
            have HDZ : Hid (wr.drew.heap.size = wr.heap.size) := by simp [Hid]
            have HLT : Hid (k < m) := hlt
            clear hst HO e1 e2
            go_wp2_with fail
            go_region_law (first | (refine step_appI _ rfl (.tmp 54) (.tmp 59) rfl (w1.heap.size + 1) u (eK P v m k) rfl (HOA.out _).own wr.heap.size 0 1 (P k) rfl (by simp [go_sem]) (by simp; omega) HLK.out ?_; intro v2 w3 ho3 hg3; obtain ⟨va2, vc2, rfl⟩ := row1_slice ho3; obtain ⟨hn, c2, cf⟩ := EpI.app (HOA.out _) hg3 ho3; have HN : Hid (EpI w (w3.setCell ⟨w1.heap.size, 1, none⟩ (.slice va2 (eK P v m k ++ [P k]).length vc2)) w1.heap.size (.slice va2 (eK P v m k ++ [P k]).length vc2) (eK P v m k ++ [P k])) := hn; clear hn ho3 hg3))
            all_goals
              go_wp2_with fail
              go_roundw
              case rel => exact ⟨k + 1, _, HLT.out, by go_num, by rw [HE2.out], by rw [HE1.out]; first | exact HN | (have h := HN.out; simp only [List.length_append, List.length_cons, List.length_nil, Nat.zero_add] at h; exact h)⟩
              case measure => first | (simp [intOf]; done) | (simp [intOf]; omega)
        · have hkn : k = m := by omega
          subst hkn
          have hnl : ¬ ((k : Int) < (k : Int)) := by omega
          obtain ⟨va, vc, rfl, -⟩ := ownI_of_row HO.out.own
          have hhB := HO.out.hB
          have HF : Hid (∀ w7, Writes w.heap.size (w.heap.size + 1) wr w7 → w7.heap.size = wr.heap.size → IRes C (eaL P v k) w (.returned (.agg #[.int .i64 0, .slice va (eK P v k k).length vc])) w7) := fun w7 hw hs7 => by
            have hO := HO.out
            rw [eK_all] at hO ⊢
            rw [HC0.out]
            exact ires_ok rfl hO.below (by omega) (by omega) (by omega) hO.own hw hs7
          obtain ⟨r0, r1⟩ := HO.out.r
          obtain ⟨g0, g1⟩ := HO.out.b
          have rf := HO.out.rf
          clear HO
          generalize (eK P v k k).length = len at *
          go_wp2_with fail
          refine bodyPost_ret (v := .agg #[.int .i64 0, .slice va len vc]) (by simp [results, Try.results14, go_sem, *]) rfl ?_
          refine HF.out _ ?_ (by simp [World.setCell])
          repeat (first | with_reducible exact Writes.refl _ _ _ | with_reducible refine Writes.setCell ?_ (by first | omega | (simp <;> omega)) (by first | omega | (simp <;> omega)) _)
end Go.Proofs.Ytcfenhnggccmmaa
