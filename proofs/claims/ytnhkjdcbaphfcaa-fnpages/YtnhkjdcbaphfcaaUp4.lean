/- spec.UnpackPage at 48 bytes. -/
import Derived.Test.YtnhkjdcbaphfcaaUp3
namespace Go.Proofs.Ytnhkjdcbaphfcaa
open Go.RowKit Go.Deep
set_option linter.unusedVariables false
set_option maxRecDepth 20000

set_option maxHeartbeats 4000000 in
theorem specUp_some (z : Nat → Int) (b off cap : Nat) (w : World) (hcap : 48 ≤ cap) (hbl : b < w.heap.size) (hz : Byt 48 z) (hc : BA w b off 48 z) :
    Calls Try.prog 11 #[.slice (some ⟨b, off, none⟩) 48 cap] w (PRes (upc z 48) (num z 0 1) (num z 1 4) (rpN z) (rpK z) (rpV z) w) := by
  have hb0 : ∀ o1 o2, Below w.heap.size w ((w.alloc o1).alloc o2) := fun o1 o2 => ((Below.refl _ _).alloc (Nat.le_refl _) _).alloc (by simp) _
  have c46 : ¬ cap = 46 := by omega
  have d46 : (46 : Int) ≤ (cap : Int) := by omega
  have HZ : Hid (Byt 48 z) := hz
  have HC : Hid (BA w b off 48 z) := hc
  have hz5 := hz 5 (by decide)
  have hbn2 : b ≠ w.heap.size + 1 := by omega
  have hA : BA (w.alloc (.cells #[.int .i64 0, .int .i64 0, .int .i64 0, .slice none 0 0] 29)) b off 48 z := hc.alloc _
  have hA0 : BA (w.alloc (.cells #[.int .i64 0, .int .i64 0, .int .i64 0, .slice none 0 0] 29)).drew b off 48 z := hA
  have hz00 := hz 0 (by decide)
  have hwz : IntKind.i64.wrap (z 0) = z 0 := by rw [IntKind.wrap_i64]; omega
  clear hz hc hz00
  by_cases hs : num z 46 2 = sumB z 46
  · have hs1 : (num z 46 2 != sumB z 46) = false := by simpa using hs
    have hs9 : Hid (num z 46 2 = sumB z 46) := hs
    clear hs
    go_enter Try.func11, Try.ntmps11
    go_upto_region 3 with fail
    go_cut [14] (fun s14 wx => s14 = .bool false ∧ wx = (w.alloc (.cells #[.int .i64 0, .int .i64 0, .int .i64 0, .slice none 0 0] 29)).drew)
    case first =>
      go_region_held3 (fun w' => BA w' b off 48 z) (first | with_reducible assumption | go_keep)
        (first | (go_at_call 36; refine (takeG z 46 2 _ (by assumption) HZ.out rfl rfl (by decide) (by decide) (by decide)).mono ?_; rintro e w' ⟨rfl, rfl⟩) | (go_at_call 37; refine (sumT z 48 _ (by assumption) HZ.out (by decide) (by decide)).mono ?_; rintro e w' ⟨rfl, rfl⟩))
      all_goals
        go_wp2_with fail
        go_meet
        exact ⟨rfl, rfl⟩
    case rest =>
      obtain ⟨rfl, rfl⟩ := hcut
      clear hs1
      have z0 : (w.alloc (.cells #[.int .i64 0, .int .i64 0, .int .i64 0, .slice none 0 0] 29)).cell? ⟨b, off, none⟩ = some (.int .u8 (z 0)) := by have := hA 0 (by decide); rwa [Nat.add_zero] at this
      have hA2 : BA (w.alloc (.cells #[.int .i64 0, .int .i64 0, .int .i64 0, .slice none 0 0] 29)).drew.drew b off 48 z ∧ (w.alloc (.cells #[.int .i64 0, .int .i64 0, .int .i64 0, .slice none 0 0] 29)).drew.drew.cell? ⟨b, off, none⟩ = some (.int .u8 (z 0)) := ⟨hA, z0⟩
      have hA1 : ∀ o : Obj, BA ((w.alloc (.cells #[.int .i64 0, .int .i64 0, .int .i64 0, .slice none 0 0] 29)).alloc o).drew.drew b off 48 z ∧ ((w.alloc (.cells #[.int .i64 0, .int .i64 0, .int .i64 0, .slice none 0 0] 29)).alloc o).drew.drew.cell? ⟨b, off, none⟩ = some (.int .u8 (z 0)) := fun o => ⟨hA.alloc o, cell_alloc z0 o⟩
      go_upto_region 5 with fail
      go_cut [3] (fun s3 wx => s3 = .pointer (some ⟨w.heap.size + 1, 0, none⟩) ∧ Hid (Rp z w ((w.alloc (.cells #[.int .i64 0, .int .i64 0, .int .i64 0, .slice none 0 0] 29)).alloc (.cells #[.int .i64 (z 0), .int .i64 (num z 1 4), .slice none 0 0] 27)) wx (.slice none 0 0) 0))
      case first =>
        go_region_held3 (fun w' => BA w' b off 48 z ∧ w'.cell? ⟨b, off, none⟩ = some (.int .u8 (z 0))) (first | with_reducible assumption | with_reducible exact hA1 _ | go_keep)
          (first | (go_at_call 36; refine (takeG z 1 4 _ (bz1 (by assumption)) HZ.out rfl rfl (by decide) (by decide) (by decide)).mono ?_; rintro e w' ⟨rfl, rfl⟩))
        all_goals
          clear hA hA0 hA1 hA2 z0
          go_wp2_with fail
          go_meet
          exact ⟨rfl, ⟨by first | exact (hb0 _ _).drew.drew | exact (hb0 _ _).drew, by show w.heap.size + 2 ≤ (World.alloc (World.alloc w _) _).heap.size; rw [World.size_alloc, World.size_alloc]; omega, by simp [num], by simp, by simp, fun i => by simp, rfl, World.ownsRow_nil _ _ _ _⟩⟩
      case rest =>
        obtain ⟨rfl, HR0⟩ := hcut
        clear hA hA0 hA1 hA2 z0
        go_wp2_with fail
        go_loopw [4] (fun i wr => ∃ k : Nat, k ≤ rsN z ∧ i = .int .i64 k ∧ ∃ v, Hid (Rp z w ((w.alloc (.cells #[.int .i64 0, .int .i64 0, .int .i64 0, .slice none 0 0] 29)).alloc (.cells #[.int .i64 (z 0), .int .i64 (num z 1 4), .slice none 0 0] 27)) wr v k)) (fun i _ => rsN z - (intOf i).toNat)
        case atStart => exact ⟨0, by omega, rfl, .slice none 0 0, HR0⟩
        case round =>
          obtain ⟨k, hk, rfl, v, HR⟩ := hrel
          have hBr : BA wr b off 48 z := HC.out.below HR.out.below
          have h5 := hBr 5 (by decide)
          have hn13 : rsN z ≤ 13 := rsN_le z
          have hw1 : IntKind.i64.wrap (3 * (k : Int)) = 3 * (k : Int) := by rw [IntKind.wrap_i64]; omega
          have hw2 : IntKind.i64.wrap (9 + 3 * (k : Int)) = 9 + 3 * (k : Int) := by rw [IntKind.wrap_i64]; omega
          have hw5 : IntKind.i64.wrap (z 5) = z 5 := by rw [IntKind.wrap_i64]; omega
          clear HR0
          by_cases hlt : k < rsN z
          · have hz5k : (k : Int) < z 5 := by unfold rsN at hlt; split at hlt <;> omega
            have hk12 : k ≤ 12 := by omega
            have hk13 : k ≤ 13 := by omega
            have hk46 : 9 + 3 * (k : Int) < 46 := by omega
            have hw3 : IntKind.i64.wrap (6 + 3 * (k : Int)) = 6 + 3 * (k : Int) := by rw [IntKind.wrap_i64]; omega
            have hw4 : IntKind.i64.wrap (7 + 3 * (k : Int)) = 7 + 3 * (k : Int) := by rw [IntKind.wrap_i64]; omega
            have hzk := HZ.out (6 + 3 * k) (by omega)
            have hw6 : IntKind.i64.wrap (z (6 + 3 * k)) = z (6 + 3 * k) := by rw [IntKind.wrap_i64]; omega
            have hi1 : (0 : Int) ≤ 6 + 3 * (k : Int) := by omega
            have hi2 : 6 + 3 * (k : Int) < 48 := by omega
            have hi3 : (6 + 3 * (k : Int)).toNat = 6 + 3 * k := by omega
            have hck := hBr (6 + 3 * k) (by omega)
            have hcka := fun o : Obj => cell_alloc hck o
            obtain ⟨va, vc, rfl⟩ := slice_of_cells HR.out.own
            have hc2 := HR.out.c2
            have hc2a := fun o : Obj => cell_alloc hc2 o
            have hx7 : (7 : Int) + 3 * (k : Int) = ((7 + 3 * k : Nat) : Int) := by omega
            have hm7 : 7 + 3 * k + 2 ≤ 48 := by omega
            have hBd : BA wr.drew b off 48 z := hBr
            have HX7 : Hid ((7 : Int) + 3 * (k : Int) = ((7 + 3 * k : Nat) : Int)) := hx7
            clear hzk hx7
            go_wp2_with fail
            go_region_law (first | (go_simp; go_at_call 36; refine (takeG (n := 48) z (7 + 3 * k) 2 wr.drew hBd HZ.out HX7.out rfl (by decide) hm7 (by decide)).mono ?_; rintro e w' ⟨rfl, rfl⟩) | (refine step_cell rfl (.tmp 38) (.tmp 52) rfl HR.out hk13 rfl ((below_new _ _).drew) rfl (cell_two_new3 _ _ _ _) (rpK_z _ _) rfl ?_; intro a1 cp1 w1 s2 sf HR1))
            all_goals
              clear hBd hc2 hc2a hck hcka hBr h5
              go_wp2_with fail
              go_roundw
              case rel => exact ⟨k + 1, hlt, by go_num, _, HR1⟩
              case measure => simp [intOf]; omega
          · have hkn : k = rsN z := by omega
            have HCA : Hid (Own wr (w.heap.size + 2) wr.heap.size (sliceA v) k (rpK z) (rpV z)) := own_rp HR.out
            obtain ⟨va, vc, rfl⟩ := slice_of_cells HR.out.own
            have c0 := HR.out.c0
            have c1 := HR.out.c1
            have c2 := HR.out.c2
            have HN : Hid (rsN z = k) := hkn.symm
            have hcond : (k : Int) < z 5 → ¬ (9 + 3 * (k : Int) < 46) := fun h => by
              unfold rsN at hkn
              split at hkn <;> omega
            have hn12 : k ≤ 140737488355328 := by omega
            have hBd : BA wr.drew b off 48 z := hBr
            have HZ5 : Hid (0 ≤ z 5 ∧ z 5 ≤ 255) := hz5
            clear hlt hkn hk hn13
            by_cases hq5 : (k : Int) < z 5
            · have hq6 := hcond hq5
              have hq7 : decide (9 + 3 * (k : Int) < 46) = false := by simpa using hq6
              clear hcond
              go_upto_region 10 with fail
              go_cut [65] (fun s65 wx => ∃ bb : Bool, s65 = .bool bb ∧ Hid (bb = !decide (upc z 48 = 0)) ∧ Hid (Below wr.heap.size wr wx))
              case first =>
                clear hq5 hw1 hw2 hw5 hz5 h5
                by_cases hp : pf (num z 0 1) (num z 1 4) k (rpK z) (rpV z) = 0
                · have HP : Hid (pf (num z 0 1) (num z 1 4) k (rpK z) (rpV z) = 0) := hp
                  have hk12 := (good_of hp).gn
                  have HU := up_good hs9.out HN.out HZ5.out hk12 hp
                  have HK : Hid (k = rpN z) := up_k HN.out HZ5.out hk12
                  obtain ⟨sA, hsA⟩ : ∃ s, s = strOfNums (again z) := ⟨_, rfl⟩
                  obtain ⟨sB, hsB⟩ : ∃ s, s = strOfNums (zL z 48) := ⟨_, rfl⟩
                  have hse : (sA.toList == sB.toList) = decide (again z = zL z 48) := by rw [hsA, hsB]; exact strEq (fun x hx => pgb_byt _ _ _ _ _ x hx) (zL_byt HZ.out)
                  have HSA : Hid (sA = strOfNums (again z)) := hsA
                  have HSB : Hid (sB = strOfNums (zL z 48)) := hsB
                  obtain ⟨bb, hbb⟩ : ∃ bb, bb = decide (again z = zL z 48) := ⟨_, rfl⟩
                  rw [← hbb] at hse
                  have HBB : Hid ((!bb) = !decide (upc z 48 = 0)) := by show (!bb) = _; rw [hbb, HU]; by_cases e : again z = zL z 48 <;> simp [e]
                  clear hp hsA hsB hbb HU hk12
                  first | go_region_law (first | (go_simp; go_at_call 13; refine (specFault_any (num z 0 1) (num z 1 4) k (rpK z) (rpV z) va vc wr.drew hn12 (HCA.out.at.below ((Below.refl _ _).drew))).mono ?_; rintro e w1 ⟨rfl, hb1⟩; rw [HP.out]; have p0 := cell_below (w := wr.drew) c0 hb1; have p1 := cell_below (w := wr.drew) c1 hb1; have p2 := cell_below (w := wr.drew) c2 hb1; have hcv1 := convS (cap := cap) HSB.out (BA.below (w := wr.drew) hBd hb1)) | (go_simp; go_at_call 38; refine (specPk_any (num z 0 1) (num z 1 4) k (rpK z) (rpV z) va vc w1 (good_of HP.out) (CellsAt.below (w := wr.drew) (HCA.out.at.below ((Below.refl _ _).drew)) hb1)).mono ?_; rintro e w2 ⟨vq, rfl, hb2, ho2⟩; obtain ⟨G, C, rfl, hcv2⟩ := convA HSA.out HK.out ho2; have hcv3 := convS (cap := cap) HSB.out ((BA.below (w := wr.drew) hBd hb1).below hb2); have HB2 : Hid (Below wr.heap.size wr w2) := below_then (drewB2 hb1) hb2)) | fail
                  all_goals
                    go_wp2_with fail
                    go_meet
                    exact ⟨!bb, rfl, HBB, HB2⟩
                · have HU : Hid (upc z 48 = 5) := up_bad hs9.out HN.out HZ5.out hp
                  have hp2 : (pf (num z 0 1) (num z 1 4) k (rpK z) (rpV z) != 0) = true := by simpa using hp
                  clear hp
                  first | go_region_law (first | (go_simp; go_at_call 13; refine (specFault_any (num z 0 1) (num z 1 4) k (rpK z) (rpV z) va vc wr.drew hn12 (HCA.out.at.below ((Below.refl _ _).drew))).mono ?_; rintro e w1 ⟨rfl, hb1⟩; have HB1 : Hid (Below wr.heap.size wr w1) := drewB2 hb1)) | fail
                  all_goals
                    go_wp2_with fail
                    go_meet
                    exact ⟨true, rfl, by show true = _; rw [HU.out]; rfl, HB1⟩
              case rest =>
                obtain ⟨bb, rfl, HBB, HBX⟩ := hcut
                have d0 := cell_below c0 HBX.out
                have d1 := cell_below c1 HBX.out
                have d2 := cell_below c2 HBX.out
                have hsz := HR.out.hsz
                have hres := (HBX.out.block w.heap.size (by omega)).trans HR.out.res
                have rc : ∀ o, wc.cell? ⟨w.heap.size, o, none⟩ = ((w.alloc (.cells #[.int .i64 0, .int .i64 0, .int .i64 0, .slice none 0 0] 29)).alloc (.cells #[.int .i64 (z 0), .int .i64 (num z 1 4), .slice none 0 0] 27)).cell? ⟨w.heap.size, o, none⟩ := fun o => World.cell?_of_block (a := ⟨w.heap.size, o, none⟩) hres
                have rf : ∀ o, wc.frozen? ⟨w.heap.size, o, none⟩ = false := fun o => (World.frozen?_of_block (a := ⟨w.heap.size, o, none⟩) hres).trans (by simp)
                have r0 : wc.cell? ⟨w.heap.size, 0, none⟩ = some (.int .i64 0) := by rw [rc]; simp
                have r1 : wc.cell? ⟨w.heap.size, 1, none⟩ = some (.int .i64 0) := by rw [rc]; simp
                have r2 : wc.cell? ⟨w.heap.size, 2, none⟩ = some (.int .i64 0) := by rw [rc]; simp
                have r3 : wc.cell? ⟨w.heap.size, 3, none⟩ = some (.slice none 0 0) := by rw [rc]; simp
                have HB9 : Hid (Below w.heap.size w wc) := below_then HR.out.below HBX.out
                have HSZ : Hid (wr.heap.size ≤ wc.heap.size) := HBX.out.size
                clear hres rc c0 c1 c2 hq5 hw1 hw2 hw5 hz5 h5 hBd hBr
                cases bb
                · have h0 : upc z 48 = 0 := by have h := HBB.out; by_cases e : upc z 48 = 0 <;> simp [e] at h ⊢
                  have HK : Hid (k = rpN z) := up_k0 HN.out HZ5.out hs9.out h0
                  have HU : Hid (upc z 48 = 0) := h0
                  clear h0
                  go_wp2_with fail
                  refine bodyPost_ret (v := .agg #[.int .i64 0, .int .i64 (num z 0 1), .int .i64 (num z 1 4), .slice va k vc]) (by simp [results, Try.results11, go_sem, *]) rfl ?_
                  have hO := HCA.out.below HBX.out
                  rw [HK.out] at hO ⊢
                  refine pres_ok (wq := wc) HU.out HB9.out (by omega) hO ?_ (by simp [World.setCell])
                  repeat (first | exact Writes.refl _ _ _ | apply Writes.drew | refine Writes.setCell ?_ (by first | omega | (simp <;> omega)) (by first | omega | (simp <;> omega)) _)
                · have HU : Hid (upc z 48 = 5) := up_5 hs9.out (by intro e; have h := HBB.out; simp [e] at h)
                  go_wp2_with fail
                  refine bodyPost_ret (v := .agg #[.int .i64 5, .int .i64 0, .int .i64 0, .slice none 0 0]) (by simp [results, Try.results11, go_sem, *]) rfl ?_
                  rw [HU.out]
                  refine pres_bad ?_ (by decide)
                  repeat (first | exact HB9.out | apply Below.drew | refine Below.setCell ?_ (by first | omega | (simp <;> omega)) _)
            · have hq7 : decide ((k : Int) < z 5) = false := by simpa using hq5
              clear hcond
              go_upto_region 10 with fail
              go_cut [65] (fun s65 wx => ∃ bb : Bool, s65 = .bool bb ∧ Hid (bb = !decide (upc z 48 = 0)) ∧ Hid (Below wr.heap.size wr wx))
              case first =>
                clear hq5 hw1 hw2 hw5 hz5 h5
                by_cases hp : pf (num z 0 1) (num z 1 4) k (rpK z) (rpV z) = 0
                · have HP : Hid (pf (num z 0 1) (num z 1 4) k (rpK z) (rpV z) = 0) := hp
                  have hk12 := (good_of hp).gn
                  have HU := up_good hs9.out HN.out HZ5.out hk12 hp
                  have HK : Hid (k = rpN z) := up_k HN.out HZ5.out hk12
                  obtain ⟨sA, hsA⟩ : ∃ s, s = strOfNums (again z) := ⟨_, rfl⟩
                  obtain ⟨sB, hsB⟩ : ∃ s, s = strOfNums (zL z 48) := ⟨_, rfl⟩
                  have hse : (sA.toList == sB.toList) = decide (again z = zL z 48) := by rw [hsA, hsB]; exact strEq (fun x hx => pgb_byt _ _ _ _ _ x hx) (zL_byt HZ.out)
                  have HSA : Hid (sA = strOfNums (again z)) := hsA
                  have HSB : Hid (sB = strOfNums (zL z 48)) := hsB
                  obtain ⟨bb, hbb⟩ : ∃ bb, bb = decide (again z = zL z 48) := ⟨_, rfl⟩
                  rw [← hbb] at hse
                  have HBB : Hid ((!bb) = !decide (upc z 48 = 0)) := by show (!bb) = _; rw [hbb, HU]; by_cases e : again z = zL z 48 <;> simp [e]
                  clear hp hsA hsB hbb HU hk12
                  first | go_region_law (first | (go_simp; go_at_call 13; refine (specFault_any (num z 0 1) (num z 1 4) k (rpK z) (rpV z) va vc wr.drew hn12 (HCA.out.at.below ((Below.refl _ _).drew))).mono ?_; rintro e w1 ⟨rfl, hb1⟩; rw [HP.out]; have p0 := cell_below (w := wr.drew) c0 hb1; have p1 := cell_below (w := wr.drew) c1 hb1; have p2 := cell_below (w := wr.drew) c2 hb1; have hcv1 := convS (cap := cap) HSB.out (BA.below (w := wr.drew) hBd hb1)) | (go_simp; go_at_call 38; refine (specPk_any (num z 0 1) (num z 1 4) k (rpK z) (rpV z) va vc w1 (good_of HP.out) (CellsAt.below (w := wr.drew) (HCA.out.at.below ((Below.refl _ _).drew)) hb1)).mono ?_; rintro e w2 ⟨vq, rfl, hb2, ho2⟩; obtain ⟨G, C, rfl, hcv2⟩ := convA HSA.out HK.out ho2; have hcv3 := convS (cap := cap) HSB.out ((BA.below (w := wr.drew) hBd hb1).below hb2); have HB2 : Hid (Below wr.heap.size wr w2) := below_then (drewB2 hb1) hb2)) | fail
                  all_goals
                    go_wp2_with fail
                    go_meet
                    exact ⟨!bb, rfl, HBB, HB2⟩
                · have HU : Hid (upc z 48 = 5) := up_bad hs9.out HN.out HZ5.out hp
                  have hp2 : (pf (num z 0 1) (num z 1 4) k (rpK z) (rpV z) != 0) = true := by simpa using hp
                  clear hp
                  first | go_region_law (first | (go_simp; go_at_call 13; refine (specFault_any (num z 0 1) (num z 1 4) k (rpK z) (rpV z) va vc wr.drew hn12 (HCA.out.at.below ((Below.refl _ _).drew))).mono ?_; rintro e w1 ⟨rfl, hb1⟩; have HB1 : Hid (Below wr.heap.size wr w1) := drewB2 hb1)) | fail
                  all_goals
                    go_wp2_with fail
                    go_meet
                    exact ⟨true, rfl, by show true = _; rw [HU.out]; rfl, HB1⟩
              case rest =>
                obtain ⟨bb, rfl, HBB, HBX⟩ := hcut
                have d0 := cell_below c0 HBX.out
                have d1 := cell_below c1 HBX.out
                have d2 := cell_below c2 HBX.out
                have hsz := HR.out.hsz
                have hres := (HBX.out.block w.heap.size (by omega)).trans HR.out.res
                have rc : ∀ o, wc.cell? ⟨w.heap.size, o, none⟩ = ((w.alloc (.cells #[.int .i64 0, .int .i64 0, .int .i64 0, .slice none 0 0] 29)).alloc (.cells #[.int .i64 (z 0), .int .i64 (num z 1 4), .slice none 0 0] 27)).cell? ⟨w.heap.size, o, none⟩ := fun o => World.cell?_of_block (a := ⟨w.heap.size, o, none⟩) hres
                have rf : ∀ o, wc.frozen? ⟨w.heap.size, o, none⟩ = false := fun o => (World.frozen?_of_block (a := ⟨w.heap.size, o, none⟩) hres).trans (by simp)
                have r0 : wc.cell? ⟨w.heap.size, 0, none⟩ = some (.int .i64 0) := by rw [rc]; simp
                have r1 : wc.cell? ⟨w.heap.size, 1, none⟩ = some (.int .i64 0) := by rw [rc]; simp
                have r2 : wc.cell? ⟨w.heap.size, 2, none⟩ = some (.int .i64 0) := by rw [rc]; simp
                have r3 : wc.cell? ⟨w.heap.size, 3, none⟩ = some (.slice none 0 0) := by rw [rc]; simp
                have HB9 : Hid (Below w.heap.size w wc) := below_then HR.out.below HBX.out
                have HSZ : Hid (wr.heap.size ≤ wc.heap.size) := HBX.out.size
                clear hres rc c0 c1 c2 hq5 hw1 hw2 hw5 hz5 h5 hBd hBr
                cases bb
                · have h0 : upc z 48 = 0 := by have h := HBB.out; by_cases e : upc z 48 = 0 <;> simp [e] at h ⊢
                  have HK : Hid (k = rpN z) := up_k0 HN.out HZ5.out hs9.out h0
                  have HU : Hid (upc z 48 = 0) := h0
                  clear h0
                  go_wp2_with fail
                  refine bodyPost_ret (v := .agg #[.int .i64 0, .int .i64 (num z 0 1), .int .i64 (num z 1 4), .slice va k vc]) (by simp [results, Try.results11, go_sem, *]) rfl ?_
                  have hO := HCA.out.below HBX.out
                  rw [HK.out] at hO ⊢
                  refine pres_ok (wq := wc) HU.out HB9.out (by omega) hO ?_ (by simp [World.setCell])
                  repeat (first | exact Writes.refl _ _ _ | apply Writes.drew | refine Writes.setCell ?_ (by first | omega | (simp <;> omega)) (by first | omega | (simp <;> omega)) _)
                · have HU : Hid (upc z 48 = 5) := up_5 hs9.out (by intro e; have h := HBB.out; simp [e] at h)
                  go_wp2_with fail
                  refine bodyPost_ret (v := .agg #[.int .i64 5, .int .i64 0, .int .i64 0, .slice none 0 0]) (by simp [results, Try.results11, go_sem, *]) rfl ?_
                  rw [HU.out]
                  refine pres_bad ?_ (by decide)
                  repeat (first | exact HB9.out | apply Below.drew | refine Below.setCell ?_ (by first | omega | (simp <;> omega)) _)

  · have hs1 : (num z 46 2 != sumB z 46) = true := by simpa using hs
    have HU : Hid (upc z 48 = 6) := by show upc z 48 = 6; rw [upc, if_neg (by omega), if_pos hs]
    clear hs
    go_enter Try.func11, Try.ntmps11
    go_wp2_with fail
    go_region_held3 (fun w' => BA w' b off 48 z) (first | assumption | go_keep)
      (first | (go_at_call 36; refine (takeG z 46 2 _ (by assumption) HZ.out rfl rfl (by decide) (by decide) (by decide)).mono ?_; rintro e w' ⟨rfl, rfl⟩) | (go_at_call 37; refine (sumT z 48 _ (by assumption) HZ.out (by decide) (by decide)).mono ?_; rintro e w' ⟨rfl, rfl⟩))
    all_goals
      go_wp2_with fail
      refine bodyPost_ret (v := .agg #[.int .i64 6, .int .i64 0, .int .i64 0, .slice none 0 0]) (by simp [results, Try.results11, go_sem]) rfl ?_
      rw [HU.out]
      refine pres_bad ?_ (by decide)
      repeat (first | exact (below_new _ _).drew | exact below_new _ _ | apply Below.drew | refine Below.setCell ?_ (by first | omega | (simp <;> omega)) _)
end Go.Proofs.Ytnhkjdcbaphfcaa
