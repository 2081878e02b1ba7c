/- DirtyReads: both sides. -/
import Derived.Test.YtbmjlahiggollaaDyb
namespace Go.Proofs.Ytbmjlahiggollaa
open Go.RowKit Go.Deep
set_option linter.unusedVariables false
set_option maxRecDepth 20000

theorem upto_zI (l : List Int) : upto (zI l) l.length = l := zL_zI l
set_option maxHeartbeats 8000000 in
theorem implDr_l (n : Nat) (R : Nat → Hp) (l : List Int) (HLE : Hid (cmL R n = l)) (a : Option Addr) (w : World) (hn : n ≤ 1048576) (hw : HpW n R) (h : HopsAt w a n R) :
    Calls Try.prog 7 #[.slice a n n] w (IRes (hsC R n) (drS R n n) w) := by
  have HX : Hid (HopsAt w a n R) := h
  have HW : Hid (HpW n R) := hw
  clear h hw
  go_enter Try.func7, Try.ntmps7
  go_wp2_with fail
  refine (implCm_any n R a n _ hn HW.out (HX.out.below (below_new _ _))).mono ?_
  rintro e w1 ⟨ca, cc, rfl, hb1, OC⟩
  rw [HLE.out] at OC ⊢
  have B2 := (Box2.new w (.int .i64 0) (.slice none 0 0) 26).below hb1
  have rf : ∀ i, w1.frozen? ⟨w.heap.size, i, none⟩ = false := fun i => ((bcell hb1).2 _ _ (by simp)).trans (by simp [go_sem])
  have HBW : Hid (Below w.heap.size w w1) := below_then (below_new _ _) hb1
  have hs1 : w.heap.size + 1 ≤ w1.heap.size := by have := hb1.size; rw [World.size_alloc] at this; exact this
  have HOC : Hid (IntsAt w1 ca (if hsC R n = 0 then l else []).length (zI (if hsC R n = 0 then l else []))) := OC.at
  have HOW : Hid (OwnI w1 (w.heap.size + 1) w1.heap.size ca (if hsC R n = 0 then l else []).length (zI (if hsC R n = 0 then l else []))) := by have h := OC; rw [World.size_alloc] at h; exact h
  clear hb1 OC
  have BC := fun o : Nat => Box2.new w1 (.int .i64 (hsC R n)) (.slice ca (if hsC R n = 0 then l else []).length cc) 26
  have rfa : ∀ i, ∀ o : Obj, (w1.alloc o).frozen? ⟨w.heap.size, i, none⟩ = false := fun i o => ((bcell (below_new w1 o)).2 _ _ (by omega)).trans (rf i)
  obtain ⟨r0, r1⟩ := B2
  have r0a := fun o : Obj => cell_alloc r0 o
  have r1a := fun o : Obj => cell_alloc r1 o
  by_cases hc : hsC R n = 0
  case neg =>
    have hc2 : (hsC R n != 0) = true := by simp [hc]
    have HF : Hid (∀ w7, Below w.heap.size w w7 → IRes (hsC R n) (drS R n n) w (.returned (.agg #[.int .i64 (hsC R n), .slice ca (if hsC R n = 0 then l else []).length cc])) w7) := fun w7 hb => by
      rw [IRes]
      simp only [if_neg hc]
      exact ⟨ca, cc, rfl, hb, Nat.le_refl _, .inl rfl⟩
    clear hc BC HOC HOW
    generalize (if hsC R n = 0 then l else []).length = len at *
    generalize hsC R n = uu at *
    go_wp2_with fail
    refine bodyPost_ret (v := .agg #[.int .i64 uu, .slice ca len cc]) (by simp [results, Try.results7, go_sem, *]) rfl ?_
    refine HF.out _ ?_
    repeat (first | with_reducible exact HBW.out | with_reducible refine Below.alloc ?_ (by first | omega | (simp <;> omega)) _ | with_reducible refine Below.setCell ?_ (by first | omega | (simp <;> omega)) _)
  have hhi : hiF R n = 0 := by rw [← hsC_few (hs_few hc)]; exact hc
  simp only [if_pos hc] at *
  have hn4 := hs_few hc
  have HHI : Hid (hiF R n = 0) := hhi
  have HL : Hid (l.length ≤ 400) := by rw [← HLE.out]; exact Nat.le_trans (cmL_len R n) hn4
  have HC0 : Hid (hsC R n = 0) := hc
  have HSE : Hid (drL R n (sortL l) = drS R n n) := by rw [← HLE.out]; exact dr_eq hhi
  clear BC rfa r0a r1a
  obtain ⟨w2, hw2⟩ : ∃ x, x = w1.alloc (.cells #[.int .i64 (hsC R n), .slice ca l.length cc] 26) := ⟨_, rfl⟩
  rw [hc] at hw2 ⊢
  clear hc hhi
  have hb2 : Below w1.heap.size w1 w2 := by rw [hw2]; exact below_new _ _
  have HRB : Hid (Box2 w2 w.heap.size (.int .i64 0) (.slice none 0 0) ∧ ∀ i, w2.frozen? ⟨w.heap.size, i, none⟩ = false) := ⟨⟨cell_below r0 hb2, cell_below r1 hb2⟩, fun i => ((bcell hb2).2 _ _ (by omega)).trans (rf i)⟩
  have HBX : Hid (Box2 w2 w1.heap.size (.int .i64 0) (.slice ca l.length cc)) := by rw [hw2]; exact Box2.new _ _ _ _
  have HB2 : Hid (Below w.heap.size w w2) := below_then HBW.out hb2
  have hs2 : w.heap.size + 1 ≤ w2.heap.size := Nat.le_trans hs1 hb2.size
  have HI2 : Hid (IntsAt w2 ca l.length (zI l)) := HOC.out.below hb2
  clear HOC HOW hb2 r0 r1 rf hs1 HBW
  go_wp2_with fail
  rw [← hw2]
  clear hw2
  refine (values_any ca l.length cc w2).mono ?_
  rintro e w3 ⟨rfl, hw3⟩
  have hb3 : Below w2.heap.size w2 w3 := by rw [hw3]; exact below_new _ _
  have HSQ := sorted_any w3 (.func (.func 33) #[] #[.pointer (some ⟨w2.heap.size, 0, none⟩)]) l.length (zI l) (by have := HL.out; omega) ⟨w2.heap.size, ca, cc, rfl, by rw [hw3]; simp, by rw [hw3]; simp [go_sem], HI2.out.below hb3⟩
  rw [upto_zI] at HSQ
  clear hw3
  go_wp2_with fail
  refine HSQ.mono ?_
  clear HSQ
  rintro e w4 ⟨v, rfl, ho4, hb4⟩
  obtain ⟨sa, sc, rfl⟩ := row1_slice ho4
  obtain ⟨sa', sc', hse, hoi⟩ := ownI_of_row ho4
  obtain ⟨rfl, rfl⟩ : sa' = sa ∧ sc' = sc := by injection hse with e1 e2 e3; exact ⟨e1.symm, e3.symm⟩
  have HI4 : Hid (IntsAt w4 sa' (sortL l).length (zI (sortL l))) := hoi.at
  have HB4 : Hid (Below w.heap.size w w4) := below_then HB2.out (below_then hb3 hb4)
  have hb24 := below_then hb3 hb4
  have HRB4 : Hid (Box2 w4 w.heap.size (.int .i64 0) (.slice none 0 0) ∧ ∀ i, w4.frozen? ⟨w.heap.size, i, none⟩ = false) := ⟨HRB.out.1.below hb24, fun i => ((bcell hb24).2 _ _ (by omega)).trans (HRB.out.2 i)⟩
  have hs4 : w.heap.size + 1 ≤ w4.heap.size := Nat.le_trans hs2 hb24.size
  have HLS : Hid ((sortL l).length ≤ 400) := by have := HL.out; show _ ≤ _; rw [sortL_len]; exact this
  clear hse hoi ho4 hb3 hb4 hb24 HRB HB2 HBX HI2 hs2
  generalize sortL l = s at *
  go_wp2_with fail
  go_loopw [4, 6, 18] (fun v _ i wr => ∃ k : Nat, k ≤ s.length ∧ i = .int .i64 k ∧ Hid (Below w4.heap.size w4 wr) ∧ Hid (wr.ownsRow w4.heap.size 2 1 v (drL R n (s.take k)).length (il (drL R n (s.take k))))) (fun _ _ i _ => s.length - (intOf i).toNat)
  case atStart => exact ⟨0, Nat.zero_le _, rfl, Below.refl _ _, World.ownsRow_nil _ _ _ _⟩
  case round =>
    obtain ⟨k, hk2, rfl, HB, HO⟩ := hrel
    by_cases hlt : k < s.length
    · have hlt' : (k : Int) < (s.length : Int) := by omega
      have hk4 : k ≤ 400 := by have := HLS.out; omega
      have hk0 : (0 : Int) ≤ (k : Int) := by omega
      rcases HI4.out.below HB.out with h | ⟨lb, lo, rfl, hlb, hlc⟩
      · omega
      have lx := hlc k hlt
      have HHX : Hid (HopsAt wr a n R) := HX.out.below (below_then HB4.out HB.out)
      have hszr := HB.out.size
      have HLK : Hid ((drL R n (s.take k)).length ≤ 100000) := by have := drL_take R n s k; have := HLS.out; show _ ≤ _; omega
      have HYS : Hid (drT R n (zI s k) n = true → drL R n (s.take (k + 1)) = drL R n (s.take k) ++ [zI s k]) := fun e => drL_yes hlt e
      have HNO : Hid (drT R n (zI s k) n = false → drL R n (s.take (k + 1)) = drL R n (s.take k)) := fun e => drL_no hlt e
      clear hlc
      generalize zI s k = z at *
      go_wp2_with fail
      refine (readsDirty_any n R a z _ hn4 HHI.out HHX.out).mono ?_
      rintro e w5 ⟨rfl, hb5⟩
      have HB5 : Hid (Below w4.heap.size w4 w5) := below_then HB.out hb5
      have HO5 : Hid (w5.ownsRow w4.heap.size 2 1 _ (drL R n (s.take k)).length (il (drL R n (s.take k)))) := own_belowI HO.out hb5
      have hsz5 := Nat.le_trans hszr hb5.size
      clear HB HO hb5 HHX lx
      obtain hst | hst := boolor (drT R n z n)
      · have HE1 : Hid (drL R n (s.take (k + 1)) = drL R n (s.take k) ++ [z]) := HYS.out hst
        have HOA : Hid (∀ o1 : Obj, (w5.alloc o1).ownsRow w4.heap.size 2 1 _ (drL R n (s.take k)).length (il (drL R n (s.take k)))) := fun o1 => own_belowI HO5.out (below_new _ _)
        rw [hst]
        clear HYS HNO
        go_wp2_with (at_builtin; refine wpList_appI _ rfl (.tmp 25) (.tmp 27) rfl w4.heap.size _ (drL R n (s.take k)) rfl (HOA.out _) w5.heap.size 0 1 z rfl (by simp [go_sem]) (by simp; omega) HLK.out ?_)
        intro v2 w6 ho6 hg6
        have HB6 : Hid (Below w4.heap.size w4 w6) := by
          refine (below_then HB5.out (below_new _ _)).grown hg6 (by simp; omega) fun q hq => ?_
          exact (HO5.out.lt q hq).1
        have HO6 : Hid (w6.ownsRow w4.heap.size 2 1 v2 (drL R n (s.take (k + 1))).length (il (drL R n (s.take (k + 1))))) := by
          show w6.ownsRow _ _ _ _ _ _
          rw [HE1.out]
          first | exact ho6 | simpa using ho6
        clear ho6 hg6 HOA HE1
        go_wp2_with fail
        go_roundw
        case rel => exact ⟨k + 1, hlt, by go_num, HB6, HO6⟩
        case measure => simp [intOf]; omega
      · have HE1 := HNO.out hst
        have HO6 := HO5.out
        rw [← HE1] at HO6
        have HO7 : Hid (w5.ownsRow w4.heap.size 2 1 _ (drL R n (s.take (k + 1))).length (il (drL R n (s.take (k + 1))))) := HO6
        rw [hst]
        clear HO6
        clear HYS HNO HE1
        go_wp2_with fail
        go_roundw
        case rel => exact ⟨k + 1, hlt, by go_num, HB5, HO7⟩
        case measure => simp [intOf]; omega
    · have hkn : k = s.length := by omega
      have hnl : ¬ ((k : Int) < (s.length : Int)) := by omega
      obtain ⟨va, vc, rfl⟩ := row1_slice HO.out
      have HF : Hid (∀ w7, Writes w.heap.size (w.heap.size + 1) wr w7 → w7.heap.size = wr.heap.size → IRes (hsC R n) (drS R n n) w (.returned (.agg #[.int .i64 0, .slice va (drL R n (s.take k)).length vc])) w7) := fun w7 hw hs7 => by
        have hO := HO.out
        rw [hkn, List.take_length] at hO ⊢
        rw [HSE.out] at hO ⊢
        exact ires_ok HC0.out (below_then HB4.out HB.out) (Nat.le_refl _) (by omega) hs4 hO hw hs7
      obtain ⟨⟨r0, r1⟩, rf⟩ := HRB4.out
      replace rf : ∀ i, wr.frozen? ⟨w.heap.size, i, none⟩ = false := fun i => ((bcell HB.out).2 _ _ (by omega)).trans (rf i)
      replace r0 := cell_below r0 HB.out
      replace r1 := cell_below r1 HB.out
      clear HO HB hkn HRB4 HSE
      generalize (drL R n (s.take k)).length = len at *
      go_wp2_with fail
      refine bodyPost_ret (v := .agg #[.int .i64 0, .slice va len vc]) (by simp [results, Try.results7, go_sem, *]) rfl ?_
      refine HF.out _ ?_ ?_
      · repeat (first | with_reducible exact Writes.refl _ _ _ | with_reducible refine Writes.setCell ?_ (by first | omega | (simp <;> omega)) (by first | omega | (simp <;> omega)) _)
      · simp [World.setCell]
theorem implDr_any (n : Nat) (R : Nat → Hp) (a : Option Addr) (w : World) (hn : n ≤ 1048576) (hw : HpW n R) (h : HopsAt w a n R) :
    Calls Try.prog 7 #[.slice a n n] w (IRes (hsC R n) (drS R n n) w) := implDr_l n R _ rfl a w hn hw h
end Go.Proofs.Ytbmjlahiggollaa
