/- spec.l14Images, spec.ImagesOf. -/
import Derived.Test.YtldnfiadafmomaaXic
import Derived.Test.YtldnfiadafmomaaSpa
import Derived.Deep.DeepCutAuto
namespace Go.Proofs.Ytldnfiadafmomaa
open Go.RowKit Go.Deep
set_option linter.unusedVariables false
set_option maxRecDepth 20000

theorem cell_new1 (w : World) (cs : Array Value) (t : TypeId) (i : Nat) : (w.alloc (.cells cs t)).cell? ⟨w.heap.size, i, none⟩ = cs[i]? := by
  have h := heap_alloc_last w (.cells cs t)
  simp only [World.cell?, h]
  simp
theorem below_then4 {n : Nat} {W w : World} {o : Obj} (h : Below n W w) (hn : n ≤ w.heap.size) : Below n W (w.alloc o) := h.alloc hn _
theorem cell3 {w : World} {o0 o1 o2 : Obj} {b p : Nat} {v : Value} (h : (w.alloc o0).cell? ⟨b, p, none⟩ = some v) : (((w.alloc o0).alloc o1).alloc o2).cell? ⟨b, p, none⟩ = some v := cell_alloc (cell_alloc h _) _
theorem ss_grow {w w' : World} {row : Option Nat} {n : Nat} {v0 v1 v2 : Value} (h : w.cell? ⟨n, 2, none⟩ = some v0 ∧ w.cell? ⟨n + 1, 2, none⟩ = some v1 ∧ w.cell? ⟨n + 1 + 1, 2, none⟩ = some v2) (hg : w.grownBy w' row) (hr : ∀ q, row = some q → q < n) :
    w'.cell? ⟨n, 2, none⟩ = some v0 ∧ w'.cell? ⟨n + 1, 2, none⟩ = some v1 ∧ w'.cell? ⟨n + 1 + 1, 2, none⟩ = some v2 :=
  ⟨hg.cell h.1 (fun e => by have := hr _ e.symm; simp at this), hg.cell h.2.1 (fun e => by have := hr _ e.symm; simp at this; omega), hg.cell h.2.2 (fun e => by have := hr _ e.symm; simp at this; omega)⟩
set_option maxHeartbeats 8000000 in
theorem l14Images_any (D : Dk) (idn B : Nat) (a a' : Option Addr) (cap cap' : Nat) (w : World) (hG : GoodD D) (hid : idn < D.n) (hB0 : w.cell? ⟨B, 0, none⟩ = some (.slice a D.n cap)) (hB1 : w.cell? ⟨B, 1, none⟩ = some (.slice a' D.m cap')) (h : DiskAt w a a' D) :
    Calls Try.prog 17 #[.pointer (some ⟨B, 0, none⟩), .int .i64 idn] w fun e w' => ∃ v, e = .returned v ∧ Below w.heap.size w w' ∧ AP w.heap.size w' v (imN D idn D.m) (fun _ => 48) (imZ D idn) := by
  have HL : Hid (LoosesAt w a' D.m D.P D.T D.M D.Y) := h.2
  have HM : Hid (∀ i, i < D.m → D.M i = 16) := hG.M
  have hm60 := hG.m
  have hBl : B < w.heap.size := Go.block_lt_of_cell hB0
  rcases h.1 with hp | ⟨b, off, rfl, hbl, hc⟩
  · omega
  obtain ⟨ai, ci, h1, hy, hci⟩ := hc idn hid
  rw [hG.L idn hid] at h1 hy hci
  have h1a := fun o : Obj => cell_alloc h1 o
  have hB0a := fun o : Obj => cell_alloc hB0 o
  have HY : Hid (BytesAt w ai 48 (D.Z idn)) := hy
  have hid' : (idn : Int) < (D.n : Int) := by omega
  have hid0 : (0 : Int) ≤ (idn : Int) := by omega
  clear h hc hy hG
  go_enter Try.func17, Try.ntmps17
  go_wp2_with (at_builtin; refine wpList_appB _ (by rfl) (.tmp 10) (.tmp 17) (by rfl) w.heap.size (.slice (some ⟨w.heap.size, 0, none⟩) 0 0) [] (by rfl) ?o1 ai 48 ci (D.Z idn) (by rfl) ?o2 (by decide) ?o3 ?_)
  case o1 => exact World.ownsRow_lit (base := w.heap.size) (size := 1) (e := 5) w #[] 0 (Nat.le_refl _) (by unfold maxLen; omega) rfl
  case o2 => exact HY.out.below (below_new _ _)
  case o3 => rw [World.size_alloc]; omega
  intro v1 w1 ho1 hg1
  have HB1 : Hid (Below w.heap.size w w1) := (below_new w _).grown hg1 (by rw [World.size_alloc]; omega) (fun q hq => by simp [Value.ownBlock] at hq; omega)
  obtain ⟨G, C, rfl, hG0, hG1, hrow, hC⟩ := page_row (List.nil_append _) ho1
  have HAP1 : Hid (AP w.heap.size (w1.alloc (.cells #[.slice (some ⟨G, 0, none⟩) 48 C] 55)) (.slice (some ⟨w1.heap.size, 0, none⟩) 1 1) 1 (fun _ => 48) (imZ D idn)) := AP.lit hG0 hG1 (by rw [imZ_zero]; exact hrow) hC
  clear ho1 hg1 hG0 hG1 hrow hC h1 h1a hB0a
  go_wp2_with fail
  go_loopw [5, 6, 7, 8, 9] (fun v i _ _ _ wr => ∃ k : Nat, k ≤ D.m ∧ i = .int .i64 k ∧ Hid (Below w.heap.size w wr) ∧ Hid (AP w.heap.size wr v (imN D idn k) (fun _ => 48) (imZ D idn))) (fun _ i _ _ _ _ => D.m - (intOf i).toNat)
  case atStart => exact ⟨0, Nat.zero_le _, rfl, below_then HB1.out (below_new _ _), HAP1⟩
  case round =>
    obtain ⟨k, hk, rfl, HB, HAP⟩ := hrel
    have hzr := HB.out.size
    have qB := (HB.out.cell (p := ⟨B, 1, none⟩) hBl).trans hB1
    have qBa := fun o : Obj => cell_alloc qB o
    have qBb := fun o1 o2 : Obj => cell_alloc (cell_alloc qB o1) o2
    by_cases hlt : k + 2 < D.m
    · have hlt' : (k : Int) + 2 < (D.m : Int) := by omega
      have hk0 : (0 : Int) ≤ (k : Int) := by omega
      have hk1 : (0 : Int) ≤ (k : Int) + 1 := by omega
      have hk2 : (0 : Int) ≤ (k : Int) + 2 := by omega
      have hm0 : (k : Int) < (D.m : Int) := by omega
      have hm1 : (k : Int) + 1 < (D.m : Int) := by omega
      rcases HL.out.below HB.out with q | ⟨b2, off2, rfl, hb2, hc⟩
      · omega
      obtain ⟨p0, t0, x0, y0, z0, hy0, -⟩ := hc k (by omega)
      obtain ⟨p1, t1, x1, y1, z1, hy1, -⟩ := hc (k + 1) (by omega)
      obtain ⟨p2, t2, x2, y2, z2, hy2, -⟩ := hc (k + 2) (by omega)
      rw [HM.out k (by omega)] at z0 hy0
      rw [HM.out (k + 1) (by omega)] at z1 hy1
      rw [HM.out (k + 2) (by omega)] at z2 hy2
      have HY0 : Hid (BytesAt wr x0 16 (D.Y k)) := hy0
      have HY1 : Hid (BytesAt wr x1 16 (D.Y (k + 1))) := hy1
      have HY2 : Hid (BytesAt wr x2 16 (D.Y (k + 2))) := hy2
      have p1a := fun o : Obj => cell_alloc p1 o
      have t1a := fun o : Obj => cell_alloc t1 o
      have z1a := fun o : Obj => cell_alloc z1 o
      have p2a := fun o1 o2 : Obj => cell_alloc (cell_alloc p2 o1) o2
      have t2a := fun o1 o2 : Obj => cell_alloc (cell_alloc t2 o1) o2
      have z2a := fun o1 o2 : Obj => cell_alloc (cell_alloc z2 o1) o2
      have HB3 : Hid (∀ o0 o1 o2, Below wr.heap.size wr (((wr.alloc o0).alloc o1).alloc o2)) := fun o0 o1 o2 => below_then (below_new _ _) (below_then (below_new _ _) (below_new _ _))
      have HBW3 : Hid (∀ o0 o1 o2, Below w.heap.size w (((wr.alloc o0).alloc o1).alloc o2)) := fun o0 o1 o2 => below_then HB.out (HB3.out o0 o1 o2)
      clear hc hy0 hy1 hy2
      by_cases d0 : ¬ D.P (k) = (idn : Int)
      · have hwh : whB D (idn : Int) k = false := by
          cases e9 : whB D (idn : Int) k
          · rfl
          · have h9 := whB_iff.1 e9; exact absurd h9.2.1.1 d0
        have HN : Hid (∀ o0 o1 o2, AP w.heap.size (((wr.alloc o0).alloc o1).alloc o2) u5 (imN D idn (k + 1)) (fun _ => 48) (imZ D idn)) := fun o0 o1 o2 => by rw [im_no hwh]; exact HAP.out.below (HB3.out o0 o1 o2)
        have e0 : (D.P (k) == (idn : Int)) = false := by simpa using d0
        clear hwh d0
        go_wp2_with fail
        go_roundw
        case rel => exact ⟨k + 1, by omega, by go_num, HBW3.out _ _ _, HN.out _ _ _⟩
        case measure => simp [intOf]; omega
      replace d0 : D.P (k) = (idn : Int) := Classical.not_not.1 d0
      have H0 : Hid (D.P (k) = (idn : Int)) := d0
      rw [d0] at p0
      clear d0
      by_cases d1 : ¬ D.P (k + 1) = (idn : Int)
      · have hwh : whB D (idn : Int) k = false := by
          cases e9 : whB D (idn : Int) k
          · rfl
          · have h9 := whB_iff.1 e9; exact absurd h9.2.2.1.1 d1
        have HN : Hid (∀ o0 o1 o2, AP w.heap.size (((wr.alloc o0).alloc o1).alloc o2) u5 (imN D idn (k + 1)) (fun _ => 48) (imZ D idn)) := fun o0 o1 o2 => by rw [im_no hwh]; exact HAP.out.below (HB3.out o0 o1 o2)
        have e1 : (D.P (k + 1) == (idn : Int)) = false := by simpa using d1
        clear hwh d1
        go_wp2_with fail
        go_roundw
        case rel => exact ⟨k + 1, by omega, by go_num, HBW3.out _ _ _, HN.out _ _ _⟩
        case measure => simp [intOf]; omega
      replace d1 : D.P (k + 1) = (idn : Int) := Classical.not_not.1 d1
      have H1 : Hid (D.P (k + 1) = (idn : Int)) := d1
      rw [d1] at p1
      simp only [d1] at p1a
      clear d1
      by_cases d2 : ¬ D.P (k + 2) = (idn : Int)
      · have hwh : whB D (idn : Int) k = false := by
          cases e9 : whB D (idn : Int) k
          · rfl
          · have h9 := whB_iff.1 e9; exact absurd h9.2.2.2.1 d2
        have HN : Hid (∀ o0 o1 o2, AP w.heap.size (((wr.alloc o0).alloc o1).alloc o2) u5 (imN D idn (k + 1)) (fun _ => 48) (imZ D idn)) := fun o0 o1 o2 => by rw [im_no hwh]; exact HAP.out.below (HB3.out o0 o1 o2)
        have e2 : (D.P (k + 2) == (idn : Int)) = false := by simpa using d2
        clear hwh d2
        go_wp2_with fail
        go_roundw
        case rel => exact ⟨k + 1, by omega, by go_num, HBW3.out _ _ _, HN.out _ _ _⟩
        case measure => simp [intOf]; omega
      replace d2 : D.P (k + 2) = (idn : Int) := Classical.not_not.1 d2
      have H2 : Hid (D.P (k + 2) = (idn : Int)) := d2
      rw [d2] at p2
      simp only [d2] at p2a
      clear d2
      by_cases d3 : ¬ D.T (k) = 0
      · have hwh : whB D (idn : Int) k = false := by
          cases e9 : whB D (idn : Int) k
          · rfl
          · have h9 := whB_iff.1 e9; exact absurd h9.2.1.2 d3
        have HN : Hid (∀ o0 o1 o2, AP w.heap.size (((wr.alloc o0).alloc o1).alloc o2) u5 (imN D idn (k + 1)) (fun _ => 48) (imZ D idn)) := fun o0 o1 o2 => by rw [im_no hwh]; exact HAP.out.below (HB3.out o0 o1 o2)
        have e3 : (D.T (k) == 0) = false := by simpa using d3
        clear hwh d3
        go_wp2_with fail
        go_roundw
        case rel => exact ⟨k + 1, by omega, by go_num, HBW3.out _ _ _, HN.out _ _ _⟩
        case measure => simp [intOf]; omega
      replace d3 : D.T (k) = 0 := Classical.not_not.1 d3
      have H3 : Hid (D.T (k) = 0) := d3
      rw [d3] at t0
      clear d3
      by_cases d4 : ¬ D.T (k + 1) = 1
      · have hwh : whB D (idn : Int) k = false := by
          cases e9 : whB D (idn : Int) k
          · rfl
          · have h9 := whB_iff.1 e9; exact absurd h9.2.2.1.2 d4
        have HN : Hid (∀ o0 o1 o2, AP w.heap.size (((wr.alloc o0).alloc o1).alloc o2) u5 (imN D idn (k + 1)) (fun _ => 48) (imZ D idn)) := fun o0 o1 o2 => by rw [im_no hwh]; exact HAP.out.below (HB3.out o0 o1 o2)
        have e4 : (D.T (k + 1) == 1) = false := by simpa using d4
        clear hwh d4
        go_wp2_with fail
        go_roundw
        case rel => exact ⟨k + 1, by omega, by go_num, HBW3.out _ _ _, HN.out _ _ _⟩
        case measure => simp [intOf]; omega
      replace d4 : D.T (k + 1) = 1 := Classical.not_not.1 d4
      have H4 : Hid (D.T (k + 1) = 1) := d4
      rw [d4] at t1
      simp only [d4] at t1a
      clear d4
      by_cases d5 : ¬ D.T (k + 2) = 2
      · have hwh : whB D (idn : Int) k = false := by
          cases e9 : whB D (idn : Int) k
          · rfl
          · have h9 := whB_iff.1 e9; exact absurd h9.2.2.2.2 d5
        have HN : Hid (∀ o0 o1 o2, AP w.heap.size (((wr.alloc o0).alloc o1).alloc o2) u5 (imN D idn (k + 1)) (fun _ => 48) (imZ D idn)) := fun o0 o1 o2 => by rw [im_no hwh]; exact HAP.out.below (HB3.out o0 o1 o2)
        have e5 : (D.T (k + 2) == 2) = false := by simpa using d5
        clear hwh d5
        go_wp2_with fail
        go_roundw
        case rel => exact ⟨k + 1, by omega, by go_num, HBW3.out _ _ _, HN.out _ _ _⟩
        case measure => simp [intOf]; omega
      replace d5 : D.T (k + 2) = 2 := Classical.not_not.1 d5
      have H5 : Hid (D.T (k + 2) = 2) := d5
      rw [d5] at t2
      simp only [d5] at t2a
      clear d5
      have hwh : whB D (idn : Int) k = true := whB_iff.2 ⟨hlt, ⟨H0.out, H3.out⟩, ⟨H1.out, H4.out⟩, ⟨H2.out, H5.out⟩⟩
      have HZ : Hid (imZ D idn (imN D idn k) = pcZ D k) := imZ_new hwh (by omega)
      have HE : Hid (imN D idn (k + 1) = imN D idn k + 1) := im_yes hwh
      have HLE : Hid (imN D idn k ≤ k + 1) := (imN_le D idn k).2
      clear hwh H0 H1 H2 H3 H4 H5
      go_upto_region 9 with fail
      obtain ⟨W9, hW9⟩ : ∃ W9, W9 = ((wr.alloc (.cells #[.int .i64 idn, .int .i64 0, .slice x0 16 y0] 60)).alloc (.cells #[.int .i64 idn, .int .i64 1, .slice x1 16 y1] 60)).alloc (.cells #[.int .i64 idn, .int .i64 2, .slice x2 16 y2] 60) := ⟨_, rfl⟩
      have HSS : Hid (W9.cell? ⟨wr.heap.size, 2, none⟩ = some (.slice x0 16 y0) ∧ W9.cell? ⟨wr.heap.size + 1, 2, none⟩ = some (.slice x1 16 y1) ∧ W9.cell? ⟨wr.heap.size + 1 + 1, 2, none⟩ = some (.slice x2 16 y2)) := by
        rw [hW9]
        refine ⟨cell3 (by simp [go_sem]), ?_, ?_⟩
        · have q := cell_new1 (wr.alloc (.cells #[.int .i64 idn, .int .i64 0, .slice x0 16 y0] 60)) #[.int .i64 idn, .int .i64 1, .slice x1 16 y1] 60 2
          rw [World.size_alloc] at q
          exact cell_alloc q _
        · have q := cell_new1 ((wr.alloc (.cells #[.int .i64 idn, .int .i64 0, .slice x0 16 y0] 60)).alloc (.cells #[.int .i64 idn, .int .i64 1, .slice x1 16 y1] 60)) #[.int .i64 idn, .int .i64 2, .slice x2 16 y2] 60 2
          rw [World.size_alloc, World.size_alloc] at q
          exact q
      have HBR : Hid (Below wr.heap.size wr W9) := by rw [hW9]; exact HB3.out _ _ _
      have hz9 : W9.heap.size = wr.heap.size + 3 := by rw [hW9, World.size_alloc, World.size_alloc, World.size_alloc]
      rw [← hW9]
      have HSZ : Hid (W9.heap.size = wr.heap.size + 3) := hz9
      have HBW : Hid (Below w.heap.size w W9) := below_then HB.out HBR.out
      have HW0 : Hid (w.heap.size ≤ W9.heap.size) := HBW.out.size
      replace HY0 : Hid (BytesAt W9 x0 16 (D.Y k)) := HY0.out.below HBR.out
      replace HY1 : Hid (BytesAt W9 x1 16 (D.Y (k + 1))) := HY1.out.below HBR.out
      replace HY2 : Hid (BytesAt W9 x2 16 (D.Y (k + 2))) := HY2.out.below HBR.out
      obtain ⟨g, c, hown, hj, hcc⟩ := HAP.out
      have HUO : Hid (∀ q, u5.ownBlock = some q → q < wr.heap.size) := fun q hq => (hown.lt q hq).2
      have HOW : Hid (W9.ownsRow w.heap.size 55 1 u5 (imN D idn k) (slv g (fun _ => 48) c (imN D idn k))) := own_below hown HBR.out
      have HJ : Hid (∀ i j, i < imN D idn k → j < imN D idn k → g i = g j → i = j) := hj
      have HCC : Hid (∀ i, i < imN D idn k → w.heap.size ≤ g i ∧ g i < W9.heap.size ∧ u5.ownBlock ≠ some (g i) ∧ Row1 W9 (g i) 0 48 (imZ D idn i) ∧ 48 ≤ c i) := fun i hi => by
        obtain ⟨h1, h2, h3, h4, h5⟩ := hcc i hi
        exact ⟨h1, Nat.lt_of_lt_of_le h2 HBR.out.size, h3, h4.block (HBR.out.block _ h2), h5⟩
      have HDR : Hid (∀ u, Below W9.drew.heap.size W9.drew u → Below W9.heap.size W9 u) := fun u hu => ((Below.refl _ _).drew).trans hu
      have HKS : Hid (∀ u, Below W9.heap.size W9 u → u.cell? ⟨wr.heap.size, 2, none⟩ = some (.slice x0 16 y0) ∧ u.cell? ⟨wr.heap.size + 1, 2, none⟩ = some (.slice x1 16 y1) ∧ u.cell? ⟨wr.heap.size + 1 + 1, 2, none⟩ = some (.slice x2 16 y2)) := fun u hu => ⟨cell_below HSS.out.1 hu, cell_below HSS.out.2.1 hu, cell_below HSS.out.2.2 hu⟩
      clear hW9 hz9 hown hj hcc p0 t0 z0 p1 t1 z1 p2 t2 z2 p1a t1a z1a p2a t2a z2a qB qBa qBb HB3 HBW3 HAP
      refine wp_region_E 13 (S := fun u => u.cell? ⟨wr.heap.size, 2, none⟩ = some (.slice x0 16 y0) ∧ u.cell? ⟨wr.heap.size + 1, 2, none⟩ = some (.slice x1 16 y1) ∧ u.cell? ⟨wr.heap.size + 1 + 1, 2, none⟩ = some (.slice x2 16 y2)) (by kernel_rfl) HSS.out (fun hS => ?_)
      refine wpAnyE_takeD (L := 13) (i := 0) (v := u5) (some 84) rfl rfl (by kernel_rfl) (by kernel_rfl) (by kernel_rfl) (by kernel_rfl) (fun _ _ _ h => h) (Or.inl ⟨by kernel_rfl, by intro u hSu; go_simp⟩) hS ?_
      try simp only [Act.put, List.setIfInBounds_toArray, List.set_cons_zero, List.set_cons_succ]
      refine wpAnyE_takeD (L := 13) (i := 2) (v := .pointer (some ⟨wr.heap.size, 2, none⟩)) (some 86) rfl rfl (by kernel_rfl) (by kernel_rfl) (by kernel_rfl) (by kernel_rfl) (fun _ _ _ h => h) (Or.inl ⟨by kernel_rfl, by intro u hSu; go_simp⟩) hS ?_
      try simp only [Act.put, List.setIfInBounds_toArray, List.set_cons_zero, List.set_cons_succ]
      refine wpAnyE_takeD (L := 13) (i := 3) (v := .slice x0 16 y0) (some 87) rfl rfl (by kernel_rfl) (by kernel_rfl) (by kernel_rfl) (by kernel_rfl) (fun _ _ _ h => h) (Or.inl ⟨by kernel_rfl, by intro u hSu; obtain ⟨g0, g1, g2⟩ := hSu; go_simp⟩) hS ?_
      try simp only [Act.put, List.setIfInBounds_toArray, List.set_cons_zero, List.set_cons_succ]
      refine wpAnyE_takeD (L := 13) (i := 5) (v := .pointer (some ⟨wr.heap.size + 1, 2, none⟩)) (some 89) rfl rfl (by kernel_rfl) (by kernel_rfl) (by kernel_rfl) (by kernel_rfl) (fun _ _ _ h => h) (Or.inl ⟨by kernel_rfl, by intro u hSu; go_simp⟩) hS ?_
      try simp only [Act.put, List.setIfInBounds_toArray, List.set_cons_zero, List.set_cons_succ]
      refine wpAnyE_takeD (L := 13) (i := 6) (v := .slice x1 16 y1) (some 90) rfl rfl (by kernel_rfl) (by kernel_rfl) (by kernel_rfl) (by kernel_rfl) (fun _ _ _ h => h) (Or.inl ⟨by kernel_rfl, by intro u hSu; obtain ⟨g0, g1, g2⟩ := hSu; go_simp⟩) hS ?_
      try simp only [Act.put, List.setIfInBounds_toArray, List.set_cons_zero, List.set_cons_succ]
      refine wpAnyE_takeD (L := 13) (i := 8) (v := .pointer (some ⟨wr.heap.size + 1 + 1, 2, none⟩)) (some 92) rfl rfl (by kernel_rfl) (by kernel_rfl) (by kernel_rfl) (by kernel_rfl) (fun _ _ _ h => h) (Or.inl ⟨by kernel_rfl, by intro u hSu; go_simp⟩) hS ?_
      try simp only [Act.put, List.setIfInBounds_toArray, List.set_cons_zero, List.set_cons_succ]
      refine wpAnyE_takeD (L := 13) (i := 9) (v := .slice x2 16 y2) (some 93) rfl rfl (by kernel_rfl) (by kernel_rfl) (by kernel_rfl) (by kernel_rfl) (fun _ _ _ h => h) (Or.inl ⟨by kernel_rfl, by intro u hSu; obtain ⟨g0, g1, g2⟩ := hSu; go_simp⟩) hS ?_
      try simp only [Act.put, List.setIfInBounds_toArray, List.set_cons_zero, List.set_cons_succ]
      refine wpAnyE_ready (rs := [1]) (by kernel_rfl) (by simp) ?_
      refine AllReadyE.cons rfl (fun K9 hK => ?_) AllReadyE.nil
      refine step_bsB0 _ (some 85) rfl rfl rfl (fun v1 w1 ho1 hb1 => ?_)
      have HB1 : Hid (Below W9.heap.size W9 w1) := HDR.out _ hb1
      refine hK.out _ _ (HKS.out _ HB1.out) (fun hS9 => ?_)
      try simp only [Act.put, List.setIfInBounds_toArray, List.set_cons_zero, List.set_cons_succ]
      clear hK K9 hS
      have hS := hS9
      clear hS9
      refine wpAnyE_ready (rs := [4]) (by kernel_rfl) (by simp) ?_
      refine AllReadyE.cons rfl (fun K9 hK => ?_) AllReadyE.nil
      refine step_appZD _ (some 88) rfl rfl (.tmp 85) (.tmp 87) rfl W9.heap.size v1 [] rfl ho1 x0 16 y0 (D.Y k) rfl (HY0.out.below HB1.out) (by decide) HB1.out.size (fun v2 w2 ho2 hb2 => ?_)
      have HB2 : Hid (Below W9.heap.size W9 w2) := HB1.out.trans hb2
      refine hK.out _ _ (HKS.out _ HB2.out) (fun hS9 => ?_)
      try simp only [Act.put, List.setIfInBounds_toArray, List.set_cons_zero, List.set_cons_succ]
      clear hK K9 hS
      have hS := hS9
      clear hS9
      refine wpAnyE_ready (rs := [7]) (by kernel_rfl) (by simp) ?_
      refine AllReadyE.cons rfl (fun K9 hK => ?_) AllReadyE.nil
      refine step_appZD _ (some 91) rfl rfl (.tmp 88) (.tmp 90) rfl W9.heap.size v2 _ rfl ho2 x1 16 y1 (D.Y (k + 1)) rfl (HY1.out.below HB2.out) (by rw [List.length_append, zL_len]; decide) HB2.out.size (fun v3 w3 ho3 hb3 => ?_)
      have HB3 : Hid (Below W9.heap.size W9 w3) := HB2.out.trans hb3
      refine hK.out _ _ (HKS.out _ HB3.out) (fun hS9 => ?_)
      try simp only [Act.put, List.setIfInBounds_toArray, List.set_cons_zero, List.set_cons_succ]
      clear hK K9 hS
      have hS := hS9
      clear hS9
      refine wpAnyE_ready (rs := [10]) (by kernel_rfl) (by simp) ?_
      refine AllReadyE.cons rfl (fun K9 hK => ?_) AllReadyE.nil
      refine step_appZD _ (some 94) rfl rfl (.tmp 91) (.tmp 93) rfl W9.heap.size v3 _ rfl ho3 x2 16 y2 (D.Y (k + 2)) rfl (HY2.out.below HB3.out) (by rw [List.length_append, List.length_append, zL_len, zL_len]; decide) HB3.out.size (fun v4 w4 ho4 hb4 => ?_)
      have HB4 : Hid (Below W9.heap.size W9 w4) := HB3.out.trans hb4
      obtain ⟨G, C, rfl, hG0, hG1, hrow, hC⟩ := page_row (three_pieces D k) ho4
      refine hK.out _ _ (HKS.out _ HB4.out) (fun hS9 => ?_)
      try simp only [Act.put, List.setIfInBounds_toArray, List.set_cons_zero, List.set_cons_succ]
      clear hK K9 hS
      have hS := hS9
      clear hS9
      refine wpAnyE_ready (rs := [11]) (by kernel_rfl) (by simp) ?_
      refine AllReadyE.cons rfl (fun K9 hK => ?_) AllReadyE.nil
      refine step_bsP _ (some 95) rfl rfl (.tmp 94) rfl (some ⟨G, 0, none⟩) 48 C rfl ?_
      refine hK.out _ _ (HKS.out _ (below_then4 HB4.out HB4.out.size)) (fun hS9 => ?_)
      try simp only [Act.put, List.setIfInBounds_toArray, List.set_cons_zero, List.set_cons_succ]
      clear hK K9 hS
      have hS := hS9
      clear hS9
      refine wpAnyE_ready (rs := [12]) (by kernel_rfl) (by simp) ?_
      refine AllReadyE.cons rfl (fun K9 hK => ?_) AllReadyE.nil
      have hcc4 : ∀ i, i < imN D idn k → w.heap.size ≤ g i ∧ g i < w4.heap.size ∧ u5.ownBlock ≠ some (g i) ∧ Row1 w4 (g i) 0 48 (imZ D idn i) ∧ 48 ≤ c i := fun i hi => by
        obtain ⟨h1, h2, h3, h4, h5⟩ := HCC.out i hi
        exact ⟨h1, Nat.lt_of_lt_of_le h2 HB4.out.size, h3, h4.block (HB4.out.block _ h2), h5⟩
      refine step_appP w4 (some 96) rfl rfl (.tmp 84) (.tmp 95) rfl w.heap.size (imN D idn k) u5 (imZ D idn) rfl g c (own_below HOW.out HB4.out) HJ.out hcc4 G C rfl (by have := HW0.out; omega) hG1 (fun e => by have := HUO.out _ e; have := HSZ.out; omega) (fun i hi => by have := (HCC.out i hi).2.1; omega) (by rw [HZ.out]; exact hrow) hC (by have := HLE.out; omega) (fun v5 w5 hap5 hg5 => ?_)
      have HB5 : Hid (Below w.heap.size w w5) := ((below_then HBW.out (HB4.out.trans (Below.refl _ _))).alloc (by have := HW0.out; have := HB4.out.size; omega) _).grown hg5 (by have := HW0.out; have := HB4.out.size; rw [World.size_alloc]; omega) (fun q hq => (HOW.out.lt q hq).1)
      refine hK.out _ _ (ss_grow (HKS.out _ (below_then4 HB4.out HB4.out.size)) hg5 (fun q hq => by have := HUO.out q hq; omega)) (fun hS9 => ?_)
      try simp only [Act.put, List.setIfInBounds_toArray, List.set_cons_zero, List.set_cons_succ]
      clear hK K9 hS
      have hS := hS9
      clear hS9
      refine wpAnyE_ready (rs := [13]) (by kernel_rfl) (by simp) ?_
      refine AllReadyE.last rfl (fun K9 hK => ?_)
      go_simp
      refine hK.out _ _ ?_
      try simp only [Act.put, List.setIfInBounds_toArray, List.set_cons_zero, List.set_cons_succ]
      clear hK K9 hS
      refine wpAnyE_done (by kernel_rfl) ?_ _
      go_simp
      have HN : Hid (AP w.heap.size w5 v5 (imN D idn (k + 1)) (fun _ => 48) (imZ D idn)) := by rw [HE.out]; exact hap5
      clear hap5
      go_wp2_with fail
      go_roundw
      case rel => exact ⟨k + 1, by omega, by go_num, HB5, HN⟩
      case measure => simp [intOf]; omega
    · have HN : Hid (AP w.heap.size wr u5 (imN D idn D.m) (fun _ => 48) (imZ D idn)) := by have q := HAP.out; rw [← imN_end (D := D) (idn := idn) (k := k) (by omega) hk] at q; exact q
      have hnl : ¬ ((k : Int) + 2 < (D.m : Int)) := by omega
      clear HAP
      go_wp2_with fail
      go_ret
      exact ⟨_, rfl, HB.out, HN.out⟩
end Go.Proofs.Ytldnfiadafmomaa
