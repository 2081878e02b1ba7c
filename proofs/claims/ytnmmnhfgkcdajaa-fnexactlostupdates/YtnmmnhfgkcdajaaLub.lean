/- LostUpdates: both sides. -/
import Derived.Test.YtnmmnhfgkcdajaaLua
import Derived.Test.YtnmmnhfgkcdajaaRif
namespace Go.Proofs.Ytnmmnhfgkcdajaa
open Go.RowKit Go.Deep
set_option linter.unusedVariables false
set_option maxRecDepth 20000

theorem wrK_len {R : Nat → Hp} {n y : Nat} (h : n ≤ 400) : (wrK R n y).length ≤ 400 := Nat.le_trans (wrL_len R n _ _) (Nat.le_trans (cmL_len R n) h)
set_option maxHeartbeats 8000000 in
theorem implLu_l (n : Nat) (R : Nat → Hp) (l : List Int) (HLE : Hid (cmL R n = l)) (a : Option Addr) (w : World) (hn : n ≤ 1048576) (hw : HpW n R) (h : HopsAt w a n R) :
    Calls Try.prog 20 #[.slice a n n] w (IRes (hsC R n) (luL R n 32) w) := by
  have HX : Hid (HopsAt w a n R) := h
  have HW : Hid (HpW n R) := hw
  clear h hw
  go_enter Try.func20, Try.ntmps20
  go_wp2_with fail
  refine (implCm_any n R a n _ hn HW.out (HX.out.below (below_new _ _))).mono ?_
  rintro e w1 ⟨ca, cc, rfl, hb1, OC⟩
  rw [HLE.out] at OC ⊢
  have B2 := (Box2.new w (.int .i64 0) (.slice none 0 0) 26).below hb1
  have rf : ∀ i, w1.frozen? ⟨w.heap.size, i, none⟩ = false := fun i => ((bcell hb1).2 _ _ (by simp)).trans (by simp [go_sem])
  have HBW : Hid (Below w.heap.size w w1) := below_then (below_new _ _) hb1
  have hs1 : w.heap.size + 1 ≤ w1.heap.size := by have := hb1.size; rw [World.size_alloc] at this; exact this
  have HOC : Hid (IntsAt w1 ca (if hsC R n = 0 then l else []).length (zI (if hsC R n = 0 then l else []))) := OC.at
  have HOW : Hid (OwnI w1 (w.heap.size + 1) w1.heap.size ca (if hsC R n = 0 then l else []).length (zI (if hsC R n = 0 then l else []))) := by have h := OC; rw [World.size_alloc] at h; exact h
  clear hb1 OC
  have BC := fun o : Nat => Box2.new w1 (.int .i64 (hsC R n)) (.slice ca (if hsC R n = 0 then l else []).length cc) 26
  have rfa : ∀ i, ∀ o : Obj, (w1.alloc o).frozen? ⟨w.heap.size, i, none⟩ = false := fun i o => ((bcell (below_new w1 o)).2 _ _ (by omega)).trans (rf i)
  obtain ⟨r0, r1⟩ := B2
  have r0a := fun o : Obj => cell_alloc r0 o
  have r1a := fun o : Obj => cell_alloc r1 o
  by_cases hc : hsC R n = 0
  case neg =>
    have hc2 : (hsC R n != 0) = true := by simp [hc]
    have HF : Hid (∀ w7, Below w.heap.size w w7 → IRes (hsC R n) (luL R n 32) w (.returned (.agg #[.int .i64 (hsC R n), .slice ca (if hsC R n = 0 then l else []).length cc])) w7) := fun w7 hb => by
      rw [IRes]
      simp only [if_neg hc]
      exact ⟨ca, cc, rfl, hb, Nat.le_refl _, .inl rfl⟩
    clear hc BC HOC HOW
    generalize (if hsC R n = 0 then l else []).length = len at *
    generalize hsC R n = uu at *
    go_wp2_with fail
    refine bodyPost_ret (v := .agg #[.int .i64 uu, .slice ca len cc]) (by simp [results, Try.results20, go_sem, *]) rfl ?_
    refine HF.out _ ?_
    repeat (first | with_reducible exact HBW.out | with_reducible refine Below.alloc ?_ (by first | omega | (simp <;> omega)) _ | with_reducible refine Below.setCell ?_ (by first | omega | (simp <;> omega)) _)
  have hhi : hiF R n = 0 := by rw [← hsC_few (hs_few hc)]; exact hc
  simp only [if_pos hc] at *
  have hn4 := hs_few hc
  have HHI : Hid (hiF R n = 0) := hhi
  have HL : Hid (l.length ≤ 400) := by rw [← HLE.out]; exact Nat.le_trans (cmL_len R n) hn4
  have HC0 : Hid (hsC R n = 0) := hc
  have HWK : Hid (∀ y : Nat, wrL R n (y : Int) l = wrK R n y) := fun y => by rw [← HLE.out]; rfl
  clear BC rfa r0a r1a
  obtain ⟨w2, hw2⟩ : ∃ x, x = w1.alloc (.cells #[.int .i64 (hsC R n), .slice ca l.length cc] 26) := ⟨_, rfl⟩
  rw [hc] at hw2 ⊢
  clear hc hhi
  have hb2 : Below w1.heap.size w1 w2 := by rw [hw2]; exact below_new _ _
  have HRB : Hid (Box2 w2 w.heap.size (.int .i64 0) (.slice none 0 0) ∧ ∀ i, w2.frozen? ⟨w.heap.size, i, none⟩ = false) := ⟨⟨cell_below r0 hb2, cell_below r1 hb2⟩, fun i => ((bcell hb2).2 _ _ (by omega)).trans (rf i)⟩
  have HBX : Hid (Box2 w2 w1.heap.size (.int .i64 0) (.slice ca l.length cc)) := by rw [hw2]; exact Box2.new _ _ _ _
  have HB2 : Hid (Below w.heap.size w w2) := below_then HBW.out hb2
  have hs2 : w.heap.size + 1 ≤ w2.heap.size := Nat.le_trans hs1 hb2.size
  have HI2 : Hid (IntsAt w2 ca l.length (zI l)) := HOC.out.below hb2
  clear HOC HOW hb2 r0 r1 rf hs1 HBW
  go_wp2_with fail
  rw [← hw2]
  clear hw2
  go_loopw [4, 5, 12] (fun v _ i wr => ∃ y : Nat, y ≤ 32 ∧ i = .int .i64 y ∧ Hid (Below w2.heap.size w2 wr) ∧ Hid (wr.ownsRow w2.heap.size 2 1 v (luL R n y).length (il (luL R n y)))) (fun _ _ i _ => 32 - (intOf i).toNat)
  case atStart => exact ⟨0, Nat.zero_le _, rfl, Below.refl _ _, World.ownsRow_nil _ _ _ _⟩
  case round =>
    obtain ⟨y, hy, rfl, HB, HO⟩ := hrel
    by_cases hlt : y < 32
    · have hlt' : (y : Int) < 32 := by omega
      have hy0 : (0 : Int) ≤ (y : Int) := by omega
      have HHX : Hid (HopsAt wr a n R) := HX.out.below (below_then HB2.out HB.out)
      have HII : Hid (IntsAt wr ca l.length (zI l)) := HI2.out.below HB.out
      obtain ⟨b0, b1⟩ := HBX.out.below HB.out
      have hszr := HB.out.size
      go_wp2_with fail
      refine (writersAmong_any n R l a ca n cc _ wr hn HHI.out HL.out HHX.out HII.out).mono ?_
      rintro e w3 ⟨u, rfl, hb3, ho3⟩
      rw [HWK.out y] at ho3
      obtain ⟨ua, uc, rfl⟩ := row1_slice ho3
      have huc := own_capN ho3
      obtain ⟨ua', uc', hue, hoi⟩ := ownI_of_row ho3
      obtain ⟨rfl, rfl⟩ : ua' = ua ∧ uc' = uc := by injection hue with e1 e2 e3; exact ⟨e1.symm, e3.symm⟩
      have HU : Hid (IntsAt w3 ua' (wrK R n y).length (zI (wrK R n y))) := hoi.at
      have HUL : Hid ((wrK R n y).length ≤ 400 ∧ (wrK R n y).length ≤ uc') := ⟨wrK_len hn4, huc⟩
      have HX3 : Hid (HopsAt w3 a n R) := HHX.out.below hb3
      have HB3 : Hid (Below w2.heap.size w2 w3) := below_then HB.out hb3
      have HO3 : Hid (w3.ownsRow w2.heap.size 2 1 _ (luL R n y).length (il (luL R n y))) := own_belowI HO.out hb3
      have HSO := fun wv hx hi => someOverlap_any n R (wrK R n y) a ua' uc' wv hn HHI.out HUL.out.1 HUL.out.2 hx hi
      have HSO' : Hid (∀ wv, HopsAt wv a n R → IntsAt wv ua' (wrK R n y).length (zI (wrK R n y)) → Calls Try.prog 43 #[.slice a n n, .slice ua' (wrK R n y).length uc'] wv fun e w' => e = .returned (.bool (soB R n (wrK R n y))) ∧ Below wv.heap.size wv w') := HSO
      clear HSO hue hoi ho3 hb3 HB HO HHX HII b0 b1 huc
      have HYS : Hid (soB R n (wrK R n y) = true → luL R n (y + 1) = luL R n y ++ [(y : Int)]) := fun e => luL_yes e
      have HNO : Hid (soB R n (wrK R n y) = false → luL R n (y + 1) = luL R n y) := fun e => luL_no e
      generalize wrK R n y = ws at *
      have HSB := HSO'.out w3 HX3.out HU.out
      clear HSO' HUL HU
      generalize ws.length = wl at *
      go_wp2_with fail
      refine HSB.mono ?_
      rintro e w4 ⟨rfl, hb4⟩
      have HB4 : Hid (Below w2.heap.size w2 w4) := below_then HB3.out hb4
      have HO4 : Hid (w4.ownsRow w2.heap.size 2 1 _ (luL R n y).length (il (luL R n y))) := own_belowI HO3.out hb4
      have hsz4 := HB4.out.size
      clear HB3 HO3 hb4 HX3 HSB
      have HLK : Hid ((luL R n y).length ≤ 100000) := by have := luL_len R n y; show _ ≤ _; omega
      obtain hst | hst := boolor (soB R n ws)
      · have HE1 : Hid (luL R n (y + 1) = luL R n y ++ [(y : Int)]) := HYS.out hst
        have HOA : Hid (∀ o1 : Obj, (w4.alloc o1).ownsRow w2.heap.size 2 1 _ (luL R n y).length (il (luL R n y))) := fun o1 => own_belowI HO4.out (below_new _ _)
        rw [hst]
        clear HYS HNO
        go_wp2_with (at_builtin; refine wpList_appI _ rfl (.tmp 22) (.tmp 24) rfl w2.heap.size _ (luL R n y) rfl (HOA.out _) w4.heap.size 0 1 (y : Int) rfl (by simp [go_sem]) (by simp; omega) HLK.out ?_)
        intro v2 w5 ho5 hg5
        have HB5 : Hid (Below w2.heap.size w2 w5) := by
          refine (below_then HB4.out (below_new _ _)).grown hg5 (by simp; omega) fun q hq => ?_
          exact (HO4.out.lt q hq).1
        have HO5 : Hid (w5.ownsRow w2.heap.size 2 1 v2 (luL R n (y + 1)).length (il (luL R n (y + 1)))) := by
          show w5.ownsRow _ _ _ _ _ _
          rw [HE1.out]
          first | exact ho5 | simpa using ho5
        clear ho5 hg5 HOA HE1
        go_wp2_with fail
        go_roundw
        case rel => exact ⟨y + 1, hlt, by go_num, HB5, HO5⟩
        case measure => simp [intOf]; omega
      · have HE1 := HNO.out hst
        have HO5 := HO4.out
        rw [← HE1] at HO5
        have HO6 : Hid (w4.ownsRow w2.heap.size 2 1 _ (luL R n (y + 1)).length (il (luL R n (y + 1)))) := HO5
        rw [hst]
        clear HO5
        clear HYS HNO HE1
        go_wp2_with fail
        go_roundw
        case rel => exact ⟨y + 1, hlt, by go_num, HB4, HO6⟩
        case measure => simp [intOf]; omega
    · have hkn : y = 32 := by omega
      have hnl : ¬ ((y : Int) < 32) := by omega
      obtain ⟨va, vc, rfl⟩ := row1_slice HO.out
      have HF : Hid (∀ w7, Writes w.heap.size (w.heap.size + 1) wr w7 → w7.heap.size = wr.heap.size → IRes (hsC R n) (luL R n 32) w (.returned (.agg #[.int .i64 0, .slice va (luL R n y).length vc])) w7) := fun w7 hw hs7 => by
        have hO := HO.out
        rw [hkn] at hO ⊢
        exact ires_ok HC0.out (below_then HB2.out HB.out) (Nat.le_refl _) (by omega) hs2 hO hw hs7
      obtain ⟨⟨r0, r1⟩, rf⟩ := HRB.out
      replace rf : ∀ i, wr.frozen? ⟨w.heap.size, i, none⟩ = false := fun i => ((bcell HB.out).2 _ _ (by omega)).trans (rf i)
      replace r0 := cell_below r0 HB.out
      replace r1 := cell_below r1 HB.out
      clear HO HB hkn HRB
      generalize (luL R n y).length = len at *
      go_wp2_with fail
      refine bodyPost_ret (v := .agg #[.int .i64 0, .slice va len vc]) (by simp [results, Try.results20, go_sem, *]) rfl ?_
      refine HF.out _ ?_ ?_
      · repeat (first | with_reducible exact Writes.refl _ _ _ | with_reducible refine Writes.setCell ?_ (by first | omega | (simp <;> omega)) (by first | omega | (simp <;> omega)) _)
      · simp [World.setCell]
theorem implLu_any (n : Nat) (R : Nat → Hp) (a : Option Addr) (w : World) (hn : n ≤ 1048576) (hw : HpW n R) (h : HopsAt w a n R) :
    Calls Try.prog 20 #[.slice a n n] w (IRes (hsC R n) (luL R n 32) w) := implLu_l n R _ rfl a w hn hw h
end Go.Proofs.Ytnmmnhfgkcdajaa
