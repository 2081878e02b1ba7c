/- Edges: the model's list. -/
import Derived.Test.YtnmmnhfgkcdajaaEdj
namespace Go.Proofs.Ytnmmnhfgkcdajaa
open Go.RowKit Go.Deep
set_option linter.unusedVariables false
set_option maxRecDepth 20000

theorem own_litE (w : World) : OwnE (w.alloc (.cells #[] 61)) w.heap.size (.slice (some ⟨w.heap.size, 0, none⟩) 0 0) [] :=
  World.ownsRow_made w #[] (e := 61) (size := 3) (base := w.heap.size) 0 (Nat.le_refl _) (by unfold maxLen; omega) rfl
/-- Those of a key: the model adds them one by one. -/
theorem eR_add (r : Hp) (cm ws : List Int) (L : List Ed) : addAll L (eR r cm ws) = addAll (addAll L (r1 r cm)) (r2 r ws) := addAll_app _ _ _
set_option maxHeartbeats 4000000 in
theorem l11Edges_l (M : Nat) (hM : M = 32) (n : Nat) (R : Nat → Hp) (cm : List Int) (HLE : Hid (cmL R n = cm)) (a : Option Addr) (cap : Nat) (w : World) (hn : n ≤ 400) (hhi : hiF R n = 0) (h : HopsAt w a n R) :
    Calls Try.prog 44 #[.slice a n cap] w (ERs (addAll [] (eI R n cm M)) w) := by
  have HX : Hid (HopsAt w a n R) := h
  have HM : Hid (M = 32) := hM
  have HCL : Hid (cm.length ≤ 400) := by rw [← HLE.out]; exact Nat.le_trans (cmL_len R n) hn
  have HIL : Hid (∀ y, y ≤ 32 → (addAll [] (eI R n cm y)).length ≤ 38400) := fun y hy => by
    have h1 := addAll_len (eI R n cm y) []
    have h2 := eI_len R n cm hn HCL.out y
    simp at h1; omega
  have HAL : Hid (∀ y : Int, (eA R n cm y).length ≤ 1200) := fun y => eA_len2 R n cm y hn HCL.out
  have HTWO : Hid (∀ y : Int, ∀ x ∈ wrL R n y cm, 2 ≤ x) := fun y => by rw [← HLE.out]; exact wr_two hhi
  have HOF : Hid (∀ k, k < n → 0 ≤ (R k).o) := fun k hk => of_pos hhi hk
  have HWR : Hid (∀ (y : Nat) wv, HopsAt wv a n R → Calls Try.prog 30 #[.slice a n cap, .int .i64 (y : Int)] wv (LRes (wrL R n (y : Int) cm) wv)) := fun y wv h => by have h9 := l10Writers_any n R a cap y wv hn h; rw [HLE.out] at h9; exact h9
  have HCC := l10Committed_any n R a cap (w.alloc (.cells #[] 61)) hn (h.below (below_new _ _))
  rw [HLE.out] at HCC
  have HE0 : Hid (OwnE (w.alloc (.cells #[] 61)) w.heap.size (.slice (some ⟨w.heap.size, 0, none⟩) 0 0) []) := own_litE w
  clear h hM hhi HLE
  go_enter Try.func44, Try.ntmps44
  go_wp2_with fail
  refine HCC.mono ?_
  clear HCC
  rintro e w1 ⟨v, rfl, hb1, ho1⟩
  obtain ⟨da, dc, rfl⟩ := row1_slice ho1
  have HB1 : Hid (Below w.heap.size w w1) := below_then (below_new _ _) hb1
  have HC1 : Hid (w1.ownsRow w.heap.size 2 1 (.slice da cm.length dc) cm.length (il cm)) := own_down ho1 (by simp)
  have HO1 : Hid (OwnE w1 w.heap.size (.slice (some ⟨w.heap.size, 0, none⟩) 0 0) (addAll [] (eI R n cm 0))) := own_belowI HE0.out hb1
  clear hb1 ho1 HE0
  have HHA : Hid (∀ t wv, IntsAt wv da cm.length (zI cm) → Calls Try.prog 60 #[.slice da cm.length dc, .int .i64 t] wv fun e w' => e = .returned (.bool (decide (t ∈ cm))) ∧ w' = wv) := fun t wv h => l1Has_any cm da dc t wv (by have := HCL.out; omega) h
  go_wp2_with fail
  go_loopw [3, 5, 6, 7, 8, 9, 10] (fun v i _ _ _ _ _ wr => ∃ y : Nat, y ≤ 32 ∧ i = .int .i64 y ∧ Hid (Below w.heap.size w wr) ∧ Hid (wr.ownsRow w.heap.size 2 1 (.slice da cm.length dc) cm.length (il cm)) ∧ Hid (OwnE wr w.heap.size v (addAll [] (eI R n cm y)))) (fun _ i _ _ _ _ _ _ => 32 - (intOf i).toNat)
  case atStart => exact ⟨0, Nat.zero_le _, rfl, HB1, HC1, HO1⟩
  case round =>
    clear HB1 HC1 HO1
    obtain ⟨y, hy, rfl, HB, HC, HO⟩ := hrel
    by_cases hlt : y < 32
    · have hlt' : (y : Int) ≤ 31 := by omega
      obtain ⟨oa, oc, rfl⟩ := rowE_slice HO.out
      have HLY : Hid ((addAll [] (eI R n cm y)).length ≤ 38400) := HIL.out y hy
      have HAY : Hid ((eA R n cm (y : Int)).length ≤ 1200) := HAL.out y
      have HTW : Hid (∀ x ∈ wrL R n (y : Int) cm, 2 ≤ x) := HTWO.out y
      have HEA : Hid (eA R n cm (y : Int) = eW (wrL R n (y : Int) cm) ((wrL R n (y : Int) cm).length - 1) ++ eH R cm (wrL R n (y : Int) cm) (y : Int) n) := rfl
      have HEND : Hid (addAll (addAll [] (eI R n cm y)) (eA R n cm (y : Int)) = addAll [] (eI R n cm (y + 1))) := (addAll_app (eI R n cm y) [] (eA R n cm (y : Int))).symm
      have HWL : Hid ((wrL R n (y : Int) cm).length ≤ 400) := Nat.le_trans (wrL_len R n _ cm) HCL.out
      have HWK := HWR.out y wr (HX.out.below HB.out)
      have HELN : Hid (∀ ws : List Int, ∀ k, (eH R cm ws (y : Int) k).length ≤ 2 * k) := fun ws k => eH_len R cm ws y k
      have hsz0 := HB.out.size
      go_wp2_with fail
      refine HWK.mono ?_
      clear HWK
      rintro e w2 ⟨u, rfl, hb2, ho2⟩
      obtain ⟨wa, wc, rfl⟩ := row1_slice ho2
      generalize wrL R n (y : Int) cm = ws at *
      generalize hL0 : addAll [] (eI R n cm y) = L0 at *
      have HXS : Hid (XS w w2 cm ws (.slice da cm.length dc) (.slice wa ws.length wc) (.slice oa L0.length oc) (addAll L0 (eW ws 0))) := ⟨below_then HB.out hb2, own_belowI HC.out hb2, own_down ho2 hsz0, own_belowI HO.out hb2⟩
      clear hb2 ho2 HB HC HO hsz0 hL0
      go_wp2_with fail
      go_loopw [3, 7] (fun v i wr => ∃ k : Nat, k ≤ ws.length - 1 ∧ i = .int .i64 ((k : Int) + 1) ∧ Hid (XS w wr cm ws (.slice da cm.length dc) (.slice wa ws.length wc) v (addAll L0 (eW ws k)))) (fun _ i _ => ws.length - (intOf i).toNat)
      case atStart => exact ⟨0, Nat.zero_le _, rfl, HXS⟩
      case round =>
        clear HXS
        obtain ⟨k, hk, rfl, HS⟩ := hrel
        have hw4 := HWL.out
        have hk4 : k ≤ 400 := by omega
        by_cases hlt2 : k + 1 < ws.length
        · have hlt2' : (k : Int) + 1 < (ws.length : Int) := by omega
          have hk0 : (0 : Int) ≤ (k : Int) := by omega
          have hk1 : (0 : Int) ≤ (k : Int) + 1 := by omega
          have hk2 : (k : Int) < (ws.length : Int) := by omega
          have hkN : k < ws.length := by omega
          have hwk : IntKind.i64.wrap (k : Int) = (k : Int) := by rw [IntKind.wrap_i64]; omega
          rcases ints_at HS.out.wsr with h | ⟨lb, lo, rfl, hlb, hlx⟩
          · omega
          have x0 := hlx k (by omega)
          have x1 := hlx (k + 1) hlt2
          clear hlx
          have HST : Hid (adE (addAll L0 (eW ws k)) ⟨zI ws k, zI ws (k + 1), 1⟩ = addAll L0 (eW ws (k + 1))) := by
            show _ = addAll L0 (eW ws k ++ [⟨zI ws k, zI ws (k + 1), 1⟩])
            rw [addAll_app]; rfl
          have HLN : Hid ((addAll L0 (eW ws k)).length ≤ 90000) := by have h1 := addAll_len (eW ws k) L0; rw [eW_len] at h1; have := HLY.out; show _ ≤ _; omega
          obtain ⟨va, vc, rfl⟩ := rowE_slice HS.out.out
          generalize zI ws (k + 1) = z1 at *
          generalize zI ws k = z0 at *
          have HAD : Hid (∀ wv, Below wr.heap.size wr wv → Calls Try.prog 59 #[.slice va (addAll L0 (eW ws k)).length vc, .agg #[.int .i64 z0, .int .i64 z1, .int .i64 1]] wv (AdR (addAll L0 (eW ws k)) ⟨z0, z1, 1⟩ w.heap.size (.slice va (addAll L0 (eW ws k)).length vc) wv)) := fun wv hb => l11Add_any (addAll L0 (eW ws k)) ⟨z0, z1, 1⟩ w.heap.size va vc wv HLN.out (below_then HS.out.bel hb).size (own_belowI HS.out.out hb)
          go_wp2_with fail
          go_region_law (first | (go_simp; go_at_call 59; refine (HAD.out _ ((Below.refl _ _).drew)).mono ?_; rintro en w4 ⟨v', rfl, ho4, hg4⟩) | fail)
          all_goals
            have HS4 : Hid (XS w w4 cm ws (.slice da cm.length dc) (.slice (some ⟨lb, lo, none⟩) ws.length wc) v' (addAll L0 (eW ws (k + 1)))) := by
              show XS _ _ _ _ _ _ _ _
              rw [← HST.out]
              exact (HS.out.below ((Below.refl _ _).drew)).grow hg4 ho4
            obtain ⟨xa, xc, rfl⟩ := rowE_slice ho4
            clear HS ho4 hg4 HAD HST x0 x1
            go_wp2_with fail
            go_roundw
            case rel => exact ⟨k + 1, by omega, by go_num, HS4⟩
            case measure => simp [intOf]; omega
        · have hnl : ¬ ((k : Int) + 1 < (ws.length : Int)) := by omega
          have hkk : k = ws.length - 1 := by omega
          obtain ⟨va0, vc0, rfl⟩ := rowE_slice HS.out.out
          have HS0 : Hid (XS w wr cm ws (.slice da cm.length dc) (.slice wa ws.length wc) (.slice va0 (addAll L0 (eW ws k)).length vc0) (addAll L0 (eW ws (ws.length - 1) ++ eH R cm ws (y : Int) 0))) := by
            have h9 := HS.out
            show XS _ _ _ _ _ _ _ _
            rw [show eH R cm ws (y : Int) 0 = [] from rfl, List.append_nil, ← hkk]
            exact h9
          have HEWL : Hid ((eW ws (ws.length - 1)).length ≤ 400) := by show _ ≤ _; rw [eW_len]; omega
          clear HS hkk
          generalize (addAll L0 (eW ws k)).length = ln0 at *
          generalize eW ws (ws.length - 1) = ew at *
          go_wp2_with fail
          go_loopw [3, 8, 9, 10] (fun v i _ _ wr => ∃ k : Nat, k ≤ n ∧ i = .int .i64 k ∧ Hid (XS w wr cm ws (.slice da cm.length dc) (.slice wa ws.length wc) v (addAll L0 (ew ++ eH R cm ws (y : Int) k)))) (fun _ i _ _ _ => n - (intOf i).toNat)
          case atStart => exact ⟨0, Nat.zero_le _, rfl, HS0⟩
          case round =>
            clear HS0
            obtain ⟨k, hk, rfl, HS⟩ := hrel
            by_cases hlt2 : k < n
            · have hlt2' : (k : Int) < (n : Int) := by omega
              have hk0 : (0 : Int) ≤ (k : Int) := by omega
              have hk4 : k ≤ 400 := by omega
              rcases HX.out.below HS.out.bel with h | ⟨bb, off, rfl, hbl, hcc⟩
              · omega
              obtain ⟨x0, x1, x2, x3⟩ := hcc k hlt2
              clear hcc
              obtain ⟨va, vc, rfl⟩ := rowE_slice HS.out.out
              have HDA : Hid (∀ o, IntsAt (wr.alloc o) da cm.length (zI cm)) := fun o => (ints_at HS.out.cmr).below (below_new _ _)
              have HSA : Hid (∀ o, XS w (wr.alloc o) cm ws (.slice da cm.length dc) (.slice wa ws.length wc) (.slice va (addAll L0 (ew ++ eH R cm ws (y : Int) k)).length vc) (addAll L0 (ew ++ eH R cm ws (y : Int) k))) := fun o => HS.out.below (below_new _ _)
              have hlt9 : ∀ q, (Value.slice va (addAll L0 (ew ++ eH R cm ws (y : Int) k)).length vc).ownBlock = some q → q < wr.heap.size := fun q hq => (ownI_lt HS.out.out q hq).2
              have HLT : Hid (∀ q, (Value.slice va (addAll L0 (ew ++ eH R cm ws (y : Int) k)).length vc).ownBlock = some q → q < wr.heap.size) := hlt9
              have HLK : Hid ((addAll L0 (ew ++ eH R cm ws (y : Int) k)).length ≤ 80000) := by
                have h1 := addAll_len (ew ++ eH R cm ws (y : Int) k) L0
                have h2 := HELN.out ws k
                have h3 := HEWL.out
                have h4 := HLY.out
                rw [List.length_append] at h1
                show _ ≤ _; omega
              have HL1 : Hid ((addAll (addAll L0 (ew ++ eH R cm ws (y : Int) k)) (r1 (R k) cm)).length ≤ 90000) := by
                have h1 := addAll_len (r1 (R k) cm) (addAll L0 (ew ++ eH R cm ws (y : Int) k))
                have h2 := r1_len (R k) cm
                have h3 := HLK.out
                show _ ≤ _; omega
              have HNO : Hid (rdB R cm (y : Int) k = false → addAll L0 (ew ++ eH R cm ws (y : Int) (k + 1)) = addAll L0 (ew ++ eH R cm ws (y : Int) k)) := fun e => by
                have h9 : eH R cm ws (y : Int) (k + 1) = eH R cm ws (y : Int) k ++ (if rdB R cm (y : Int) k = true then eR (R k) cm ws else []) := rfl
                rw [h9, e]; simp
              have HYS : Hid (rdB R cm (y : Int) k = true → ((nx ws (R k).o != 0 && nx ws (R k).o != (R k).t) = true → addAll L0 (ew ++ eH R cm ws (y : Int) (k + 1)) = adE (addAll (addAll L0 (ew ++ eH R cm ws (y : Int) k)) (r1 (R k) cm)) ⟨(R k).t, nx ws (R k).o, 4⟩) ∧ ((nx ws (R k).o != 0 && nx ws (R k).o != (R k).t) = false → addAll L0 (ew ++ eH R cm ws (y : Int) (k + 1)) = addAll (addAll L0 (ew ++ eH R cm ws (y : Int) k)) (r1 (R k) cm))) := fun e => by
                have h9 : eH R cm ws (y : Int) (k + 1) = eH R cm ws (y : Int) k ++ (if rdB R cm (y : Int) k = true then eR (R k) cm ws else []) := rfl
                have h8 := r2_nx (r := R k) HTW.out (HOF.out k hlt2)
                rw [h9, if_pos e, ← List.append_assoc, addAll_app, eR_add, h8]
                constructor
                · intro q; rw [if_pos q]; rfl
                · intro q; rw [if_neg (by rw [q]; simp)]; rfl
              have HRB : Hid (rdB R cm (y : Int) k = ((R k).k == 2 && (R k).y == (y : Int) && decide ((R k).t ∈ cm))) := rfl
              have HNX : Hid (∀ wv, IntsAt wv wa ws.length (zI ws) → Calls Try.prog 61 #[.slice wa ws.length wc, .int .i64 (R k).o] wv fun e w' => e = .returned (.int .i64 (nx ws (R k).o)) ∧ w' = wv) := fun wv h => l11Next_any ws wa wc (R k).o wv (by have := HWL.out; omega) h
              generalize R k = r at *
              obtain ⟨y0, y1, y2, y3⟩ := Box4.new wr (.int .i64 r.k) (.int .i64 r.t) (.int .i64 r.y) (.int .i64 r.o) 50
              obtain h1 | h1 := boolor (r.k != 2)
              · have HE := HNO.out (by rw [HRB.out]; have : (r.k == 2) = false := by simpa using h1
                                       rw [this]; rfl)
                clear HNO HYS HRB HNX HL1
                go_wp2_with fail
                go_roundw
                case rel => exact ⟨k + 1, hlt2, by go_num, by rw [HE]; exact HSA.out _⟩
                case measure => simp [intOf]; omega
              obtain h2 | h2 := boolor (r.y != (y : Int))
              · have HE := HNO.out (by rw [HRB.out]; have : (r.y == (y : Int)) = false := by simpa using h2
                                       rw [this]; simp)
                clear HNO HYS HRB HNX HL1
                go_wp2_with fail
                go_roundw
                case rel => exact ⟨k + 1, hlt2, by go_num, by rw [HE]; exact HSA.out _⟩
                case measure => simp [intOf]; omega
              obtain h3 | h3 := boolor (decide (r.t ∈ cm))
              case inr =>
                have HE := HNO.out (by rw [HRB.out, h3]; simp)
                clear HNO HYS HRB HNX HL1
                go_wp2_with (first | (go_at_call 60; refine (HHA.out _ _ (HDA.out _)).mono ?_; rintro e w' ⟨rfl, hq⟩; have hq2 := hq.symm; clear hq; subst hq2))
                go_roundw
                case rel => exact ⟨k + 1, hlt2, by go_num, by rw [HE]; exact HSA.out _⟩
                case measure => simp [intOf]; omega
              have HFIN := HYS.out (by
                rw [HRB.out, h3]
                have e1 : (r.k == 2) = true := by simpa using h1
                have e2 : (r.y == (y : Int)) = true := by simpa using h2
                rw [e1, e2]; rfl)
              replace HFIN : Hid (((nx ws r.o != 0 && nx ws r.o != r.t) = true → addAll L0 (ew ++ eH R cm ws (y : Int) (k + 1)) = adE (addAll (addAll L0 (ew ++ eH R cm ws (y : Int) k)) (r1 r cm)) ⟨r.t, nx ws r.o, 4⟩) ∧ ((nx ws r.o != 0 && nx ws r.o != r.t) = false → addAll L0 (ew ++ eH R cm ws (y : Int) (k + 1)) = addAll (addAll L0 (ew ++ eH R cm ws (y : Int) k)) (r1 r cm))) := HFIN
              clear HNO HYS HRB
              have HT0 : Hid (r1 r cm = [] → XS w (wr.alloc (.cells #[.int .i64 r.k, .int .i64 r.t, .int .i64 r.y, .int .i64 r.o] 50)) cm ws (.slice da cm.length dc) (.slice wa ws.length wc) (.slice va (addAll L0 (ew ++ eH R cm ws (y : Int) k)).length vc) (addAll (addAll L0 (ew ++ eH R cm ws (y : Int) k)) (r1 r cm)) ∧ Box4 (wr.alloc (.cells #[.int .i64 r.k, .int .i64 r.t, .int .i64 r.y, .int .i64 r.o] 50)) wr.heap.size (.int .i64 r.k) (.int .i64 r.t) (.int .i64 r.y) (.int .i64 r.o)) := fun e => by
                refine ⟨?_, Box4.new _ _ _ _ _ _⟩
                rw [e]; exact HSA.out _
              clear HS
              obtain h4 | h4 := boolor (r.o != r.t)
              · obtain h7 | h7 := boolor (decide (r.o ∈ cm))
                · have HR1 : Hid (r1 r cm = [⟨r.o, r.t, 2⟩]) := r1_yes h4 h7
                  have HAD := l11Add_any (addAll L0 (ew ++ eH R cm ws (y : Int) k)) ⟨r.o, r.t, 2⟩ w.heap.size va vc (wr.alloc (.cells #[.int .i64 r.k, .int .i64 r.t, .int .i64 r.y, .int .i64 r.o] 50)) (by have := HLK.out; omega) (HSA.out _).bel.size (HSA.out _).out
                  go_upto_region 17 with (first | (go_at_call 60; refine (HHA.out _ _ (HDA.out _)).mono ?_; rintro e w' ⟨rfl, hq⟩; have hq2 := hq.symm; clear hq; subst hq2))
                  go_wp2_with fail
                  refine HAD.mono ?_
                  clear HAD
                  rintro en W ⟨v5, rfl, ho5, hg5⟩
                  have HT : Hid (XS w W cm ws (.slice da cm.length dc) (.slice wa ws.length wc) v5 (addAll (addAll L0 (ew ++ eH R cm ws (y : Int) k)) (r1 r cm)) ∧ Box4 W wr.heap.size (.int .i64 r.k) (.int .i64 r.t) (.int .i64 r.y) (.int .i64 r.o)) := by
                    refine ⟨?_, box_grow (B0 := 0) (n := 0) (xs := []) (Box4.new _ _ _ _ _ _) hg5 HLT.out⟩
                    rw [HR1.out]
                    exact (HSA.out _).grow hg5 ho5
                  obtain ⟨va5, vc5, rfl⟩ := rowE_slice ho5
                  have hle5 : (adE (addAll L0 (ew ++ eH R cm ws (y : Int) k)) ({ f := r.o, t := r.t, k := 2 } : Ed)).length = (addAll (addAll L0 (ew ++ eH R cm ws (y : Int) k)) (r1 r cm)).length := by rw [HR1.out]; rfl
                  rw [hle5] at HT ⊢
                  clear ho5 hg5 hle5 HT0 HSA HLT hlt9 HDA y0 y1 y2 y3 x0 x1 x2 x3 h1 h2 h3 h4 h7 HR1
                  obtain ⟨va, hva⟩ : ∃ x, x = va5 := ⟨_, rfl⟩
                  obtain ⟨vc, hvc⟩ : ∃ x, x = vc5 := ⟨_, rfl⟩
                  rw [← hva, ← hvc] at HT ⊢
                  clear hva hvc
                  -- the second edge of the read
                  obtain ⟨z0, z1, z2, z3⟩ := HT.out.2
                  have HWI : Hid (IntsAt W wa ws.length (zI ws)) := ints_at HT.out.1.wsr
                  go_wp2_with fail
                  refine (HNX.out W HWI.out).mono ?_
                  rintro e w' ⟨rfl, hq⟩
                  have hq2 := hq.symm
                  clear hq
                  subst hq2
                  clear HNX
                  generalize nx ws r.o = q at *
                  obtain h5 | h5 := boolor (q != 0)
                  · obtain h6 | h6 := boolor (q != r.t)
                    · have HE : Hid (addAll L0 (ew ++ eH R cm ws (y : Int) (k + 1)) = adE (addAll (addAll L0 (ew ++ eH R cm ws (y : Int) k)) (r1 r cm)) ⟨r.t, q, 4⟩) := HFIN.out.1 (by rw [h5, h6]; rfl)
                      have HAD := l11Add_any (addAll (addAll L0 (ew ++ eH R cm ws (y : Int) k)) (r1 r cm)) ⟨r.t, q, 4⟩ w.heap.size va vc W HL1.out HT.out.1.bel.size HT.out.1.out
                      generalize addAll (addAll L0 (ew ++ eH R cm ws (y : Int) k)) (r1 r cm) = L1 at *
                      go_wp2_with fail
                      refine HAD.mono ?_
                      clear HAD
                      rintro en w4 ⟨v', rfl, ho4, hg4⟩
                      have HS4 : Hid (XS w w4 cm ws (.slice da cm.length dc) (.slice wa ws.length wc) v' (addAll L0 (ew ++ eH R cm ws (y : Int) (k + 1)))) := by
                        show XS _ _ _ _ _ _ _ _
                        rw [HE.out]
                        exact HT.out.1.grow hg4 ho4
                      obtain ⟨xa, xc, rfl⟩ := rowE_slice ho4
                      clear ho4 hg4 HE HT HFIN z0 z1 z2 z3
                      generalize (adE L1 ({ f := r.t, t := q, k := 4 } : Ed)).length = tl at *
                      go_wp2_with fail
                      go_roundw
                      case rel => exact ⟨k + 1, hlt2, by go_num, HS4⟩
                      case measure => simp [intOf]; omega
                    · have HE : Hid (addAll L0 (ew ++ eH R cm ws (y : Int) (k + 1)) = addAll (addAll L0 (ew ++ eH R cm ws (y : Int) k)) (r1 r cm)) := HFIN.out.2 (by rw [h5, h6]; rfl)
                      have HS4 : Hid (XS w W cm ws (.slice da cm.length dc) (.slice wa ws.length wc) (.slice va (addAll (addAll L0 (ew ++ eH R cm ws (y : Int) k)) (r1 r cm)).length vc) (addAll L0 (ew ++ eH R cm ws (y : Int) (k + 1)))) := by
                        show XS _ _ _ _ _ _ _ _
                        rw [HE.out]
                        exact HT.out.1
                      clear HE HT HFIN
                      go_wp2_with fail
                      go_roundw
                      case rel => exact ⟨k + 1, hlt2, by go_num, HS4⟩
                      case measure => simp [intOf]; omega
                  · have HE : Hid (addAll L0 (ew ++ eH R cm ws (y : Int) (k + 1)) = addAll (addAll L0 (ew ++ eH R cm ws (y : Int) k)) (r1 r cm)) := HFIN.out.2 (by rw [h5]; rfl)
                    have HS4 : Hid (XS w W cm ws (.slice da cm.length dc) (.slice wa ws.length wc) (.slice va (addAll (addAll L0 (ew ++ eH R cm ws (y : Int) k)) (r1 r cm)).length vc) (addAll L0 (ew ++ eH R cm ws (y : Int) (k + 1)))) := by
                      show XS _ _ _ _ _ _ _ _
                      rw [HE.out]
                      exact HT.out.1
                    clear HE HT HFIN
                    go_wp2_with fail
                    go_roundw
                    case rel => exact ⟨k + 1, hlt2, by go_num, HS4⟩
                    case measure => simp [intOf]; omega
                · have HT := HT0.out (r1_no (.inr h7))
                  have hle5 : Hid ((addAll L0 (ew ++ eH R cm ws (y : Int) k)).length = (addAll (addAll L0 (ew ++ eH R cm ws (y : Int) k)) (r1 r cm)).length) := by show _ = _; rw [r1_no (.inr h7)]; rfl
                  go_upto_region 18 with (first | (go_at_call 60; refine (HHA.out _ _ (HDA.out _)).mono ?_; rintro e w' ⟨rfl, hq⟩; have hq2 := hq.symm; clear hq; subst hq2))
                  rw [hle5.out] at HT ⊢
                  clear hle5 HT0 HSA HLT hlt9 HDA y0 y1 y2 y3 x0 x1 x2 x3 h1 h2 h3 h4 h7
                  generalize wr.alloc (.cells #[.int .i64 r.k, .int .i64 r.t, .int .i64 r.y, .int .i64 r.o] 50) = W at *
                  replace HT : Hid (XS w W cm ws (.slice da cm.length dc) (.slice wa ws.length wc) (.slice va (addAll (addAll L0 (ew ++ eH R cm ws (y : Int) k)) (r1 r cm)).length vc) (addAll (addAll L0 (ew ++ eH R cm ws (y : Int) k)) (r1 r cm)) ∧ Box4 W wr.heap.size (.int .i64 r.k) (.int .i64 r.t) (.int .i64 r.y) (.int .i64 r.o)) := HT
                  -- the second edge of the read
                  obtain ⟨z0, z1, z2, z3⟩ := HT.out.2
                  have HWI : Hid (IntsAt W wa ws.length (zI ws)) := ints_at HT.out.1.wsr
                  go_wp2_with fail
                  refine (HNX.out W HWI.out).mono ?_
                  rintro e w' ⟨rfl, hq⟩
                  have hq2 := hq.symm
                  clear hq
                  subst hq2
                  clear HNX
                  generalize nx ws r.o = q at *
                  obtain h5 | h5 := boolor (q != 0)
                  · obtain h6 | h6 := boolor (q != r.t)
                    · have HE : Hid (addAll L0 (ew ++ eH R cm ws (y : Int) (k + 1)) = adE (addAll (addAll L0 (ew ++ eH R cm ws (y : Int) k)) (r1 r cm)) ⟨r.t, q, 4⟩) := HFIN.out.1 (by rw [h5, h6]; rfl)
                      have HAD := l11Add_any (addAll (addAll L0 (ew ++ eH R cm ws (y : Int) k)) (r1 r cm)) ⟨r.t, q, 4⟩ w.heap.size va vc W HL1.out HT.out.1.bel.size HT.out.1.out
                      generalize addAll (addAll L0 (ew ++ eH R cm ws (y : Int) k)) (r1 r cm) = L1 at *
                      go_wp2_with fail
                      refine HAD.mono ?_
                      clear HAD
                      rintro en w4 ⟨v', rfl, ho4, hg4⟩
                      have HS4 : Hid (XS w w4 cm ws (.slice da cm.length dc) (.slice wa ws.length wc) v' (addAll L0 (ew ++ eH R cm ws (y : Int) (k + 1)))) := by
                        show XS _ _ _ _ _ _ _ _
                        rw [HE.out]
                        exact HT.out.1.grow hg4 ho4
                      obtain ⟨xa, xc, rfl⟩ := rowE_slice ho4
                      clear ho4 hg4 HE HT HFIN z0 z1 z2 z3
                      generalize (adE L1 ({ f := r.t, t := q, k := 4 } : Ed)).length = tl at *
                      go_wp2_with fail
                      go_roundw
                      case rel => exact ⟨k + 1, hlt2, by go_num, HS4⟩
                      case measure => simp [intOf]; omega
                    · have HE : Hid (addAll L0 (ew ++ eH R cm ws (y : Int) (k + 1)) = addAll (addAll L0 (ew ++ eH R cm ws (y : Int) k)) (r1 r cm)) := HFIN.out.2 (by rw [h5, h6]; rfl)
                      have HS4 : Hid (XS w W cm ws (.slice da cm.length dc) (.slice wa ws.length wc) (.slice va (addAll (addAll L0 (ew ++ eH R cm ws (y : Int) k)) (r1 r cm)).length vc) (addAll L0 (ew ++ eH R cm ws (y : Int) (k + 1)))) := by
                        show XS _ _ _ _ _ _ _ _
                        rw [HE.out]
                        exact HT.out.1
                      clear HE HT HFIN
                      go_wp2_with fail
                      go_roundw
                      case rel => exact ⟨k + 1, hlt2, by go_num, HS4⟩
                      case measure => simp [intOf]; omega
                  · have HE : Hid (addAll L0 (ew ++ eH R cm ws (y : Int) (k + 1)) = addAll (addAll L0 (ew ++ eH R cm ws (y : Int) k)) (r1 r cm)) := HFIN.out.2 (by rw [h5]; rfl)
                    have HS4 : Hid (XS w W cm ws (.slice da cm.length dc) (.slice wa ws.length wc) (.slice va (addAll (addAll L0 (ew ++ eH R cm ws (y : Int) k)) (r1 r cm)).length vc) (addAll L0 (ew ++ eH R cm ws (y : Int) (k + 1)))) := by
                      show XS _ _ _ _ _ _ _ _
                      rw [HE.out]
                      exact HT.out.1
                    clear HE HT HFIN
                    go_wp2_with fail
                    go_roundw
                    case rel => exact ⟨k + 1, hlt2, by go_num, HS4⟩
                    case measure => simp [intOf]; omega
              · have HT := HT0.out (r1_no (.inl h4))
                have hle5 : Hid ((addAll L0 (ew ++ eH R cm ws (y : Int) k)).length = (addAll (addAll L0 (ew ++ eH R cm ws (y : Int) k)) (r1 r cm)).length) := by show _ = _; rw [r1_no (.inl h4)]; rfl
                go_upto_region 18 with (first | (go_at_call 60; refine (HHA.out _ _ (HDA.out _)).mono ?_; rintro e w' ⟨rfl, hq⟩; have hq2 := hq.symm; clear hq; subst hq2))
                rw [hle5.out] at HT ⊢
                clear hle5 HT0 HSA HLT hlt9 HDA y0 y1 y2 y3 x0 x1 x2 x3 h1 h2 h3 h4
                generalize wr.alloc (.cells #[.int .i64 r.k, .int .i64 r.t, .int .i64 r.y, .int .i64 r.o] 50) = W at *
                replace HT : Hid (XS w W cm ws (.slice da cm.length dc) (.slice wa ws.length wc) (.slice va (addAll (addAll L0 (ew ++ eH R cm ws (y : Int) k)) (r1 r cm)).length vc) (addAll (addAll L0 (ew ++ eH R cm ws (y : Int) k)) (r1 r cm)) ∧ Box4 W wr.heap.size (.int .i64 r.k) (.int .i64 r.t) (.int .i64 r.y) (.int .i64 r.o)) := HT
                -- the second edge of the read
                obtain ⟨z0, z1, z2, z3⟩ := HT.out.2
                have HWI : Hid (IntsAt W wa ws.length (zI ws)) := ints_at HT.out.1.wsr
                go_wp2_with fail
                refine (HNX.out W HWI.out).mono ?_
                rintro e w' ⟨rfl, hq⟩
                have hq2 := hq.symm
                clear hq
                subst hq2
                clear HNX
                generalize nx ws r.o = q at *
                obtain h5 | h5 := boolor (q != 0)
                · obtain h6 | h6 := boolor (q != r.t)
                  · have HE : Hid (addAll L0 (ew ++ eH R cm ws (y : Int) (k + 1)) = adE (addAll (addAll L0 (ew ++ eH R cm ws (y : Int) k)) (r1 r cm)) ⟨r.t, q, 4⟩) := HFIN.out.1 (by rw [h5, h6]; rfl)
                    have HAD := l11Add_any (addAll (addAll L0 (ew ++ eH R cm ws (y : Int) k)) (r1 r cm)) ⟨r.t, q, 4⟩ w.heap.size va vc W HL1.out HT.out.1.bel.size HT.out.1.out
                    generalize addAll (addAll L0 (ew ++ eH R cm ws (y : Int) k)) (r1 r cm) = L1 at *
                    go_wp2_with fail
                    refine HAD.mono ?_
                    clear HAD
                    rintro en w4 ⟨v', rfl, ho4, hg4⟩
                    have HS4 : Hid (XS w w4 cm ws (.slice da cm.length dc) (.slice wa ws.length wc) v' (addAll L0 (ew ++ eH R cm ws (y : Int) (k + 1)))) := by
                      show XS _ _ _ _ _ _ _ _
                      rw [HE.out]
                      exact HT.out.1.grow hg4 ho4
                    obtain ⟨xa, xc, rfl⟩ := rowE_slice ho4
                    clear ho4 hg4 HE HT HFIN z0 z1 z2 z3
                    generalize (adE L1 ({ f := r.t, t := q, k := 4 } : Ed)).length = tl at *
                    go_wp2_with fail
                    go_roundw
                    case rel => exact ⟨k + 1, hlt2, by go_num, HS4⟩
                    case measure => simp [intOf]; omega
                  · have HE : Hid (addAll L0 (ew ++ eH R cm ws (y : Int) (k + 1)) = addAll (addAll L0 (ew ++ eH R cm ws (y : Int) k)) (r1 r cm)) := HFIN.out.2 (by rw [h5, h6]; rfl)
                    have HS4 : Hid (XS w W cm ws (.slice da cm.length dc) (.slice wa ws.length wc) (.slice va (addAll (addAll L0 (ew ++ eH R cm ws (y : Int) k)) (r1 r cm)).length vc) (addAll L0 (ew ++ eH R cm ws (y : Int) (k + 1)))) := by
                      show XS _ _ _ _ _ _ _ _
                      rw [HE.out]
                      exact HT.out.1
                    clear HE HT HFIN
                    go_wp2_with fail
                    go_roundw
                    case rel => exact ⟨k + 1, hlt2, by go_num, HS4⟩
                    case measure => simp [intOf]; omega
                · have HE : Hid (addAll L0 (ew ++ eH R cm ws (y : Int) (k + 1)) = addAll (addAll L0 (ew ++ eH R cm ws (y : Int) k)) (r1 r cm)) := HFIN.out.2 (by rw [h5]; rfl)
                  have HS4 : Hid (XS w W cm ws (.slice da cm.length dc) (.slice wa ws.length wc) (.slice va (addAll (addAll L0 (ew ++ eH R cm ws (y : Int) k)) (r1 r cm)).length vc) (addAll L0 (ew ++ eH R cm ws (y : Int) (k + 1)))) := by
                    show XS _ _ _ _ _ _ _ _
                    rw [HE.out]
                    exact HT.out.1
                  clear HE HT HFIN
                  go_wp2_with fail
                  go_roundw
                  case rel => exact ⟨k + 1, hlt2, by go_num, HS4⟩
                  case measure => simp [intOf]; omega
            · have hkn : k = n := by omega
              have hnl2 : ¬ ((k : Int) < (n : Int)) := by omega
              obtain ⟨va, vc, rfl⟩ := rowE_slice HS.out.out
              have HLE2 : Hid (addAll L0 (ew ++ eH R cm ws (y : Int) k) = addAll [] (eI R n cm (y + 1))) := by
                show _ = _
                rw [← HEND.out, HEA.out, hkn]
              have HO9 : Hid (OwnE wr w.heap.size (.slice va (addAll L0 (ew ++ eH R cm ws (y : Int) k)).length vc) (addAll [] (eI R n cm (y + 1)))) := by
                have h9 := HS.out.out
                show OwnE _ _ _ _
                rw [← HLE2.out]; exact h9
              have HB9 : Hid (Below w.heap.size w wr) := HS.out.bel
              have HC9 : Hid (wr.ownsRow w.heap.size 2 1 (.slice da cm.length dc) cm.length (il cm)) := HS.out.cmr
              clear HS HLE2 hkn
              go_wp2_with fail
              go_roundw
              case rel => exact ⟨y + 1, hlt, by go_num, HB9, HC9, HO9⟩
              case measure => simp [intOf]; omega
    · have hkn : y = 32 := by omega
      have hnl : ¬ ((y : Int) ≤ 31) := by omega
      obtain ⟨va, vc, rfl⟩ := rowE_slice HO.out
      have HF : Hid (ERs (addAll [] (eI R n cm M)) w (.returned (.slice va (addAll [] (eI R n cm y)).length vc)) wr) := by
        rw [HM.out, ← hkn]
        exact ⟨_, rfl, HB.out, HO.out⟩
      clear HO HB hkn HC
      generalize (addAll [] (eI R n cm y)).length = len at *
      go_wp2_with fail
      go_ret
      exact HF.out
end Go.Proofs.Ytnmmnhfgkcdajaa
