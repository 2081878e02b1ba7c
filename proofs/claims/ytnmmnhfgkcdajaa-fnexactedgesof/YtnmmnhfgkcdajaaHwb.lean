/- WritersOf, both sides. -/
import Derived.Test.YtnmmnhfgkcdajaaHwa
namespace Go.Proofs.Ytnmmnhfgkcdajaa
open Go.RowKit Go.Deep
set_option linter.unusedVariables false
set_option maxRecDepth 20000

theorem own_down {w : World} {base base' n s : Nat} {e : TypeId} {v : Value} {xs : List Value} (h : w.ownsRow base e s v n xs) (hb : base' ≤ base) : w.ownsRow base' e s v n xs := by
  obtain ⟨h1, h2 | ⟨g, cap, cur, rfl, k1, k2, k3⟩⟩ := h
  · exact ⟨h1, .inl h2⟩
  · exact ⟨h1, .inr ⟨g, cap, cur, rfl, Nat.le_trans hb k1, k2, k3⟩⟩
theorem zI_at {w : World} {base : Nat} {v : Value} {zs : List Int} (h : w.ownsRow base 2 1 v zs.length (il zs)) : ∃ a cap, v = .slice a zs.length cap ∧ IntsAt w a zs.length (zI zs) := by
  obtain ⟨a, cap, rfl, ho⟩ := ownI_of_row h
  exact ⟨a, cap, rfl, ho.at⟩
set_option maxHeartbeats 4000000 in
theorem l10Writers_l (n : Nat) (R : Nat → Hp) (l : List Int) (HLE : Hid (cmL R n = l)) (a : Option Addr) (cap : Nat) (y : Int) (w : World) (hn : n ≤ 400) (h : HopsAt w a n R) :
    Calls Try.prog 30 #[.slice a n cap, .int .i64 y] w (LRes (wrL R n y l) w) := by
  have HX : Hid (HopsAt w a n R) := h
  clear h
  go_enter Try.func30, Try.ntmps30
  go_wp2_with fail
  refine (l10Committed_any n R a cap _ hn (HX.out.below (below_new _ _))).mono ?_
  rintro e w1 ⟨v1, rfl, hb1, ho1⟩
  rw [HLE.out] at ho1
  obtain ⟨va, vc, rfl⟩ := row1_slice ho1
  have HT : Hid (TwoI w.heap.size w1 (.slice va l.length vc) (.slice (some ⟨w.heap.size, 0, none⟩) 0 0) l (wrL R n y (l.take 0))) := by
    refine ⟨own_down ho1 (by simp), own_belowI (own_lit w) hb1, fun q hq hq2 => ?_⟩
    have h1 := (ownI_lt ho1 q hq).1
    simp [Value.ownBlock] at hq2 h1
    omega
  have HB : Hid (Below w.heap.size w w1) := below_then (below_new _ _) hb1
  have HL : Hid (l.length ≤ 400) := by rw [← HLE.out]; exact Nat.le_trans (cmL_len R n) hn
  clear hb1 ho1
  go_wp2_with fail
  go_loopw [5, 7] (fun v i wr => ∃ k : Nat, k ≤ l.length ∧ i = .int .i64 k ∧ Hid (Below w.heap.size w wr) ∧ Hid (TwoI w.heap.size wr (.slice va l.length vc) v l (wrL R n y (l.take k)))) (fun _ i _ => l.length - (intOf i).toNat)
  case atStart => exact ⟨0, Nat.zero_le _, rfl, HB, HT⟩
  case round =>
    clear HT HB
    obtain ⟨k, hk, rfl, HB, HT⟩ := hrel
    by_cases hlt : k < l.length
    · have hlt' : (k : Int) < (l.length : Int) := by omega
      have hk4 : k ≤ 400 := by have := HL.out; omega
      have hk0 : (0 : Int) ≤ (k : Int) := by omega
      obtain ⟨va', vc', hve, hia⟩ := zI_at HT.out.1
      obtain ⟨rfl, rfl⟩ : va' = va ∧ vc' = vc := by injection hve with e1 e2 e3; exact ⟨e1.symm, e3.symm⟩
      clear hve
      rcases hia with h | ⟨lb, lo, rfl, hlb, hlc⟩
      · omega
      have lx := hlc k hlt
      have HHX : Hid (HopsAt wr a n R) := HX.out.below HB.out
      have hszr := HB.out.size
      have HLK : Hid ((wrL R n y (l.take k)).length ≤ 100000) := by have := wrL_take R n y l k; have := HL.out; show _ ≤ _; omega
      have HYS : Hid (wrB R (zI l k) y n = true → wrL R n y (l.take (k + 1)) = wrL R n y (l.take k) ++ [zI l k]) := fun e => wrL_yes hlt e
      have HNO : Hid (wrB R (zI l k) y n = false → wrL R n y (l.take (k + 1)) = wrL R n y (l.take k)) := fun e => wrL_no hlt e
      clear hlc
      generalize zI l k = z at *
      obtain hst | hst := boolor (wrB R z y n)
      · have HE1 := HYS.out hst
        replace HE1 : Hid (wrL R n y (l.take (k + 1)) = wrL R n y (l.take k) ++ [z]) := HE1
        have HOA : Hid (∀ o1 : Obj, TwoI w.heap.size (wr.alloc o1) (.slice (some ⟨lb, lo, none⟩) l.length vc') _ l (wrL R n y (l.take k))) := fun o1 => HT.out.below (below_new _ _)
        clear HYS HNO
        go_wp2_with (first | (go_at_call 55; refine (l10Wrote_any n R a cap _ _ _ (by omega) HHX.out).mono ?_; rintro e w' ⟨rfl, hq⟩; have hq2 := hq.symm; clear hq; subst hq2) | (at_builtin; refine wpList_appIL _ rfl (.tmp 24) (.tmp 29) rfl w.heap.size _ (wrL R n y (l.take k)) rfl (HOA.out _).2.1 wr.heap.size 0 1 z rfl (by simp [go_sem]) (by simp; omega) HLK.out ?_))
        intro g gc w3 ho3 hg3 hlo3 hgl
        have ho4 : w3.ownsRow w.heap.size 2 1 (.slice (some ⟨g, 0, none⟩) (wrL R n y (l.take k) ++ [z]).length gc) (wrL R n y (l.take k) ++ [z]).length (il (wrL R n y (l.take k) ++ [z])) := by rw [List.length_append]; exact ho3
        have HT3 := (HOA.out _).grow2 hg3 ho4 (by rw [World.size_alloc]; exact hlo3)
        have HB3 : Hid (Below w.heap.size w w3) := by
          refine (below_then HB.out (below_new _ _)).grown hg3 (by simp; omega) fun q hq => ?_
          exact (ownI_lt HT.out.2.1 q hq).1
        have HT4 : Hid (TwoI w.heap.size w3 (.slice (some ⟨lb, lo, none⟩) l.length vc') (.slice (some ⟨g, 0, none⟩) (wrL R n y (l.take k) ++ [z]).length gc) l (wrL R n y (l.take (k + 1)))) := by
          show TwoI _ _ _ _ _ _
          rw [HE1.out]; exact HT3
        clear ho3 hg3 hlo3 hgl HT3 HE1 HHX lx
        go_wp2_with fail
        go_roundw
        case rel => exact ⟨k + 1, hlt, by go_num, HB3, by first | exact HT4 | (have h := HT4.out; simp only [List.length_append, List.length_cons, List.length_nil, Nat.zero_add] at h; exact h)⟩
        case measure => simp [intOf]; omega
      · have HE1 := HNO.out hst
        replace HE1 : Hid (wrL R n y (l.take (k + 1)) = wrL R n y (l.take k)) := HE1
        clear HYS HNO
        go_wp2_with (first | (go_at_call 55; refine (l10Wrote_any n R a cap _ _ _ (by omega) HHX.out).mono ?_; rintro e w' ⟨rfl, hq⟩; have hq2 := hq.symm; clear hq; subst hq2))
        go_roundw
        case rel => exact ⟨k + 1, hlt, by go_num, HB, by rw [HE1.out]; exact HT⟩
        case measure => simp [intOf]; omega
    · have hkn : k = l.length := by omega
      have hnl : ¬ ((k : Int) < (l.length : Int)) := by omega
      obtain ⟨oa, oc, rfl⟩ := row1_slice HT.out.2.1
      have HF : Hid (LRes (wrL R n y l) w (.returned (.slice oa (wrL R n y (l.take k)).length oc)) wr) := ⟨_, rfl, HB.out, by have h := HT.out.2.1; rw [hkn, List.take_length] at h ⊢; exact h⟩
      clear HT HB
      generalize (wrL R n y (l.take k)).length = len at *
      go_wp2_with fail
      go_ret
      exact HF.out
theorem l10Writers_any (n : Nat) (R : Nat → Hp) (a : Option Addr) (cap : Nat) (y : Int) (w : World) (hn : n ≤ 400) (h : HopsAt w a n R) :
    Calls Try.prog 30 #[.slice a n cap, .int .i64 y] w (LRes (wrL R n y (cmL R n)) w) := l10Writers_l n R _ rfl a cap y w hn h
set_option maxHeartbeats 4000000 in
theorem specWr_any (n : Nat) (R : Nat → Hp) (a : Option Addr) (y : Int) (w : World) (hn : n ≤ 1048576) (h : HopsAt w a n R) :
    Calls Try.prog 9 #[.slice a n n, .int .i64 y] w (IRes (wrC R n y) (wrL R n y (cmL R n)) w) := by
  have HX : Hid (HopsAt w a n R) := h
  clear h
  go_enter Try.func9, Try.ntmps9
  go_wp2_with fail
  refine (specHf_any n R a _ hn (HX.out.below (below_new _ _))).mono ?_
  rintro e w1 ⟨rfl, hb1⟩
  have B2 := (Box2.new w (.int .i64 0) (.slice none 0 0) 26).below hb1
  have rf : ∀ i, w1.frozen? ⟨w.heap.size, i, none⟩ = false := fun i => ((bcell hb1).2 _ _ (by simp)).trans (by simp [go_sem])
  have HBW : Hid (Below w.heap.size w w1) := below_then (below_new _ _) hb1
  have hs1 : w.heap.size + 1 ≤ w1.heap.size := by have := hb1.size; rw [World.size_alloc] at this; exact this
  clear hb1
  obtain ⟨r0, r1⟩ := B2
  by_cases hc : hsC R n = 0
  case neg =>
    have hc2 : (hsC R n != 0) = true := by simp [hc]
    have HF : Hid (∀ w7, Below w.heap.size w w7 → IRes (wrC R n y) (wrL R n y (cmL R n)) w (.returned (.agg #[.int .i64 (hsC R n), .slice none 0 0])) w7) := fun w7 hb => by rw [← wrC_bad (y := y) hc]; exact ires_bad hb (by rw [wrC_bad hc]; exact hc)
    clear hc
    generalize hsC R n = uu at *
    go_wp2_with fail
    refine bodyPost_ret (v := .agg #[.int .i64 uu, .slice none 0 0]) (by simp [results, Try.results9, go_sem, *]) rfl ?_
    refine HF.out _ ?_
    repeat (first | with_reducible exact HBW.out | with_reducible refine Below.setCell ?_ (by first | omega | (simp <;> omega)) _)
  obtain hk | hk := boolor (inB y 0 31)
  · have hn4 := hs_few hc
    have HC0 : Hid (wrC R n y = 0) := wrC_ok hc hk
    rw [hc]
    clear hc
    go_wp2_with (first | (go_at_call 29; refine (l1Key_any _ _).mono ?_; rintro e w' ⟨rfl, rfl⟩))
    refine (l10Writers_any n R a n y _ hn4 (HX.out.below HBW.out)).mono ?_
    rintro e w2 ⟨v, rfl, hb2, ho⟩
    obtain ⟨va, vc, rfl⟩ := row1_slice ho
    have HF : Hid (∀ w7, Writes w.heap.size (w.heap.size + 1) w2 w7 → w7.heap.size = w2.heap.size → IRes (wrC R n y) (wrL R n y (cmL R n)) w (.returned (.agg #[.int .i64 0, .slice va (wrL R n y (cmL R n)).length vc])) w7) := fun w7 hw hs7 => by
      exact ires_ok HC0.out (below_then HBW.out hb2) (Nat.le_refl _) (by omega) hs1 ho hw hs7
    replace rf : ∀ i, w2.frozen? ⟨w.heap.size, i, none⟩ = false := fun i => ((bcell hb2).2 _ _ (by omega)).trans (rf i)
    replace r0 := cell_below r0 hb2
    replace r1 := cell_below r1 hb2
    clear ho hb2 HBW
    generalize (wrL R n y (cmL R n)).length = len at *
    go_wp2_with fail
    refine bodyPost_ret (v := .agg #[.int .i64 0, .slice va len vc]) (by simp [results, Try.results9, go_sem, *]) rfl ?_
    refine HF.out _ ?_ (by simp [World.setCell])
    repeat (first | with_reducible exact Writes.refl _ _ _ | with_reducible refine Writes.setCell ?_ (by first | omega | (simp <;> omega)) (by first | omega | (simp <;> omega)) _)
  · have HF : Hid (∀ w7, Below w.heap.size w w7 → IRes (wrC R n y) (wrL R n y (cmL R n)) w (.returned (.agg #[.int .i64 3, .slice none 0 0])) w7) := fun w7 hb => by rw [wrC_key hc hk]; exact ires_bad hb (by omega)
    rw [hc]
    clear hc
    go_wp2_with (first | (go_at_call 29; refine (l1Key_any _ _).mono ?_; rintro e w' ⟨rfl, rfl⟩))
    refine bodyPost_ret (v := .agg #[.int .i64 3, .slice none 0 0]) (by simp [results, Try.results9, go_sem, *]) rfl ?_
    refine HF.out _ ?_
    repeat (first | with_reducible exact HBW.out | with_reducible refine Below.setCell ?_ (by first | omega | (simp <;> omega)) _)
set_option maxHeartbeats 4000000 in
theorem writersAmong_any (n : Nat) (R : Nat → Hp) (l : List Int) (a la : Option Addr) (cap lc : Nat) (y : Int) (w : World) (hn : n ≤ 1048576) (hhi : hiF R n = 0) (hl : l.length ≤ 400) (h : HopsAt w a n R) (hi : IntsAt w la l.length (zI l)) :
    Calls Try.prog 34 #[.slice a n cap, .slice la l.length lc, .int .i64 y] w (LRes (wrL R n y l) w) := by
  have HX : Hid (HopsAt w a n R) := h
  have HI : Hid (IntsAt w la l.length (zI l)) := hi
  have HWA : Hid (∀ z, decide (0 ≤ hopAt R ⟨3, z, y, 0⟩ n) = wrB R z y n) := fun z => wrB_at hhi z y
  have HL : Hid (l.length ≤ 400) := hl
  clear h hi hhi hl
  go_enter Try.func34, Try.ntmps34
  go_wp2_with fail
  go_loopw [7, 9, 12] (fun v _ i wr => ∃ k : Nat, k ≤ l.length ∧ i = .int .i64 k ∧ Hid (Below w.heap.size w wr) ∧ Hid (wr.ownsRow w.heap.size 2 1 v (wrL R n y (l.take k)).length (il (wrL R n y (l.take k))))) (fun _ _ i _ => l.length - (intOf i).toNat)
  case atStart => exact ⟨0, Nat.zero_le _, rfl, Below.refl _ _, World.ownsRow_nil _ _ _ _⟩
  case round =>
    obtain ⟨k, hk2, rfl, HB, HO⟩ := hrel
    by_cases hlt : k < l.length
    · have hlt' : (k : Int) < (l.length : Int) := by omega
      have hk4 : k ≤ 400 := by have := HL.out; omega
      have hk0 : (0 : Int) ≤ (k : Int) := by omega
      rcases HI.out.below HB.out with h | ⟨lb, lo, rfl, hlb, hlc⟩
      · omega
      have lx := hlc k hlt
      have HHX : Hid (HopsAt wr a n R) := HX.out.below HB.out
      have hszr := HB.out.size
      have HLK : Hid ((wrL R n y (l.take k)).length ≤ 100000) := by have := wrL_take R n y l k; have := HL.out; show _ ≤ _; omega
      have HYS : Hid (wrB R (zI l k) y n = true → wrL R n y (l.take (k + 1)) = wrL R n y (l.take k) ++ [zI l k]) := fun e => wrL_yes hlt e
      have HNO : Hid (wrB R (zI l k) y n = false → wrL R n y (l.take (k + 1)) = wrL R n y (l.take k)) := fun e => wrL_no hlt e
      clear hlc
      generalize zI l k = z at *
      go_wp2_with fail
      refine (contains_any n R a cap ⟨3, z, y, 0⟩ _ hn HHX.out).mono ?_
      rintro e w4 ⟨rfl, hb4⟩
      rw [HWA.out z]
      have HB4 : Hid (Below w.heap.size w w4) := below_then HB.out hb4
      have HO4 : Hid (w4.ownsRow w.heap.size 2 1 _ (wrL R n y (l.take k)).length (il (wrL R n y (l.take k)))) := own_belowI HO.out hb4
      have hsz4 := Nat.le_trans hszr hb4.size
      clear HB HO hb4 HHX lx
      obtain hst | hst := boolor (wrB R z y n)
      · have HE1 := HYS.out hst
        replace HE1 : Hid (wrL R n y (l.take (k + 1)) = wrL R n y (l.take k) ++ [z]) := HE1
        have HOA : Hid (∀ o1 : Obj, (w4.alloc o1).ownsRow w.heap.size 2 1 _ (wrL R n y (l.take k)).length (il (wrL R n y (l.take k)))) := fun o1 => own_belowI HO4.out (below_new _ _)
        clear HYS HNO
        go_wp2_with (at_builtin; refine wpList_appI _ rfl (.tmp 21) (.tmp 23) rfl w.heap.size _ (wrL R n y (l.take k)) rfl (HOA.out _) w4.heap.size 0 1 z rfl (by simp [go_sem]) (by simp; omega) HLK.out ?_)
        intro v2 w5 ho5 hg5
        have HB5 : Hid (Below w.heap.size w w5) := by
          refine (below_then HB4.out (below_new _ _)).grown hg5 (by simp; omega) fun q hq => ?_
          exact (HO4.out.lt q hq).1
        have HO5 : Hid (w5.ownsRow w.heap.size 2 1 v2 (wrL R n y (l.take (k + 1))).length (il (wrL R n y (l.take (k + 1))))) := by
          show w5.ownsRow _ _ _ _ _ _
          rw [HE1.out]
          first | exact ho5 | simpa using ho5
        clear ho5 hg5 HOA HE1
        go_wp2_with fail
        go_roundw
        case rel => exact ⟨k + 1, hlt, by go_num, HB5, HO5⟩
        case measure => simp [intOf]; omega
      · have HE1 := HNO.out hst
        have HO5 := HO4.out
        rw [← HE1] at HO5
        have HO6 : Hid (w4.ownsRow w.heap.size 2 1 _ (wrL R n y (l.take (k + 1))).length (il (wrL R n y (l.take (k + 1))))) := HO5
        clear HO5
        clear HYS HNO HE1
        go_wp2_with fail
        go_roundw
        case rel => exact ⟨k + 1, hlt, by go_num, HB4, HO6⟩
        case measure => simp [intOf]; omega
    · have hkn : k = l.length := by omega
      have hnl : ¬ ((k : Int) < (l.length : Int)) := by omega
      obtain ⟨va, vc, rfl⟩ := row1_slice HO.out
      have HF : Hid (LRes (wrL R n y l) w (.returned (.slice va (wrL R n y (l.take k)).length vc)) wr) := ⟨_, rfl, HB.out, by have h := HO.out; rw [hkn, List.take_length] at h ⊢; exact h⟩
      clear HO HB hkn
      generalize (wrL R n y (l.take k)).length = len at *
      go_wp2_with fail
      go_ret
      exact HF.out
set_option maxHeartbeats 8000000 in
theorem implWr_l (n : Nat) (R : Nat → Hp) (l : List Int) (HLE : Hid (cmL R n = l)) (a : Option Addr) (cap : Nat) (y : Int) (w : World) (hn : n ≤ 1048576) (hw : HpW n R) (h : HopsAt w a n R) :
    Calls Try.prog 11 #[.slice a n cap, .int .i64 y] w (IRes (wrC R n y) (wrL R n y l) w) := by
  have HX : Hid (HopsAt w a n R) := h
  have HW : Hid (HpW n R) := hw
  clear h hw
  go_enter Try.func11, Try.ntmps11
  go_wp2_with fail
  refine (implCm_any n R a cap _ hn HW.out (HX.out.below (below_new _ _))).mono ?_
  rintro e w1 ⟨ca, cc, rfl, hb1, OC⟩
  rw [HLE.out] at OC ⊢
  have B2 := (Box2.new w (.int .i64 0) (.slice none 0 0) 26).below hb1
  have rf : ∀ i, w1.frozen? ⟨w.heap.size, i, none⟩ = false := fun i => ((bcell hb1).2 _ _ (by simp)).trans (by simp [go_sem])
  have HBW : Hid (Below w.heap.size w w1) := below_then (below_new _ _) hb1
  have hs1 : w.heap.size + 1 ≤ w1.heap.size := by have := hb1.size; rw [World.size_alloc] at this; exact this
  have HOC : Hid (IntsAt w1 ca (if hsC R n = 0 then l else []).length (zI (if hsC R n = 0 then l else []))) := OC.at
  have HOW : Hid (OwnI w1 (w.heap.size + 1) w1.heap.size ca (if hsC R n = 0 then l else []).length (zI (if hsC R n = 0 then l else []))) := by have h := OC; rw [World.size_alloc] at h; exact h
  clear hb1 OC
  have BC := fun o : Nat => Box2.new w1 (.int .i64 (hsC R n)) (.slice ca (if hsC R n = 0 then l else []).length cc) 26
  have rfa : ∀ i, ∀ o : Obj, (w1.alloc o).frozen? ⟨w.heap.size, i, none⟩ = false := fun i o => ((bcell (below_new w1 o)).2 _ _ (by omega)).trans (rf i)
  obtain ⟨r0, r1⟩ := B2
  have r0a := fun o : Obj => cell_alloc r0 o
  have r1a := fun o : Obj => cell_alloc r1 o
  by_cases hc : hsC R n = 0
  case neg =>
    have hc2 : (hsC R n != 0) = true := by simp [hc]
    have HF : Hid (∀ w7, Below w.heap.size w w7 → IRes (wrC R n y) (wrL R n y l) w (.returned (.agg #[.int .i64 (hsC R n), .slice ca (if hsC R n = 0 then l else []).length cc])) w7) := fun w7 hb => by
      rw [IRes, wrC_bad hc]
      simp only [if_neg hc]
      exact ⟨ca, cc, rfl, hb, Nat.le_refl _, .inl rfl⟩
    clear hc BC HOC HOW
    generalize (if hsC R n = 0 then l else []).length = len at *
    generalize hsC R n = uu at *
    go_wp2_with fail
    refine bodyPost_ret (v := .agg #[.int .i64 uu, .slice ca len cc]) (by simp [results, Try.results11, go_sem, *]) rfl ?_
    refine HF.out _ ?_
    repeat (first | with_reducible exact HBW.out | with_reducible refine Below.alloc ?_ (by first | omega | (simp <;> omega)) _ | with_reducible refine Below.setCell ?_ (by first | omega | (simp <;> omega)) _)
  have hhi : hiF R n = 0 := by rw [← hsC_few (hs_few hc)]; exact hc
  simp only [if_pos hc] at *
  obtain hk | hk := boolor (inB y 0 31)
  case inr =>
    have HF : Hid (∀ w7, Below w.heap.size w w7 → IRes (wrC R n y) (wrL R n y l) w (.returned (.agg #[.int .i64 3, .slice none 0 0])) w7) := fun w7 hb => by rw [wrC_key hc hk]; exact ires_bad hb (by omega)
    rw [hc]
    clear hc BC HOC HOW hhi
    generalize l.length = len at *
    go_wp2_with (first | (go_at_call 33; refine (isKey_any _ _).mono ?_; rintro e w' ⟨rfl, rfl⟩))
    refine bodyPost_ret (v := .agg #[.int .i64 3, .slice none 0 0]) (by simp [results, Try.results11, go_sem, *]) rfl ?_
    refine HF.out _ ?_
    repeat (first | with_reducible exact HBW.out | with_reducible refine Below.alloc ?_ (by first | omega | (simp <;> omega)) _ | with_reducible refine Below.setCell ?_ (by first | omega | (simp <;> omega)) _)
  have hn4 := hs_few hc
  have HC0 : Hid (wrC R n y = 0) := wrC_ok hc hk
  have HHI : Hid (hiF R n = 0) := hhi
  have HL : Hid (l.length ≤ 400) := by rw [← HLE.out]; exact Nat.le_trans (cmL_len R n) hn4
  rw [hc]
  clear BC rfa r0a r1a
  obtain ⟨w2, hw2⟩ : ∃ x, x = w1.alloc (.cells #[.int .i64 (hsC R n), .slice ca l.length cc] 26) := ⟨_, rfl⟩
  rw [hc] at hw2
  clear hc hhi
  have hb2 : Below w1.heap.size w1 w2 := by rw [hw2]; exact below_new _ _
  have HRB : Hid (Box2 w2 w.heap.size (.int .i64 0) (.slice none 0 0) ∧ ∀ i, w2.frozen? ⟨w.heap.size, i, none⟩ = false) := ⟨⟨cell_below r0 hb2, cell_below r1 hb2⟩, fun i => ((bcell hb2).2 _ _ (by omega)).trans (rf i)⟩
  have HB2 : Hid (Below w.heap.size w w2) := below_then HBW.out hb2
  have hs2 : w.heap.size + 1 ≤ w2.heap.size := Nat.le_trans hs1 hb2.size
  have HI2 : Hid (IntsAt w2 ca l.length (zI l)) := HOC.out.below hb2
  clear HOC HOW hb2 r0 r1 rf hs1 HBW
  go_wp2_with (first | (go_at_call 33; refine (isKey_any _ _).mono ?_; rintro e w' ⟨rfl, rfl⟩))
  rw [← hw2]
  clear hw2
  refine (writersAmong_any n R l a ca cap _ y w2 hn HHI.out HL.out (HX.out.below HB2.out) HI2.out).mono ?_
  rintro e w3 ⟨v, rfl, hb3, ho⟩
  obtain ⟨va, vc, rfl⟩ := row1_slice ho
  have HF : Hid (∀ w7, Writes w.heap.size (w.heap.size + 1) w3 w7 → w7.heap.size = w3.heap.size → IRes (wrC R n y) (wrL R n y l) w (.returned (.agg #[.int .i64 0, .slice va (wrL R n y l).length vc])) w7) := fun w7 hw hs7 => by
    exact ires_ok HC0.out (below_then HB2.out hb3) (Nat.le_refl _) (by omega) hs2 ho hw hs7
  obtain ⟨⟨r0, r1⟩, rf⟩ := HRB.out
  replace rf : ∀ i, w3.frozen? ⟨w.heap.size, i, none⟩ = false := fun i => ((bcell hb3).2 _ _ (by omega)).trans (rf i)
  replace r0 := cell_below r0 hb3
  replace r1 := cell_below r1 hb3
  clear ho hb3 HRB
  generalize (wrL R n y l).length = len at *
  go_wp2_with fail
  refine bodyPost_ret (v := .agg #[.int .i64 0, .slice va len vc]) (by simp [results, Try.results11, go_sem, *]) rfl ?_
  refine HF.out _ ?_ (by simp [World.setCell])
  repeat (first | with_reducible exact Writes.refl _ _ _ | with_reducible refine Writes.setCell ?_ (by first | omega | (simp <;> omega)) (by first | omega | (simp <;> omega)) _)
theorem implWr_any (n : Nat) (R : Nat → Hp) (a : Option Addr) (cap : Nat) (y : Int) (w : World) (hn : n ≤ 1048576) (hw : HpW n R) (h : HopsAt w a n R) :
    Calls Try.prog 11 #[.slice a n cap, .int .i64 y] w (IRes (wrC R n y) (wrL R n y (cmL R n)) w) := implWr_l n R _ rfl a cap y w hn hw h
end Go.Proofs.Ytnmmnhfgkcdajaa
