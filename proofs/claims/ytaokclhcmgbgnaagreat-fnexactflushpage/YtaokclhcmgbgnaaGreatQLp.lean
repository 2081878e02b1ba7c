/- spec.l2Place: the walk. -/
import Derived.Test.YtaokclhcmgbgnaaGreatQLpx
namespace Go.Proofs.YtaokclhcmgbgnaaGreat
open Go.RowKit Go.Deep
set_option linter.unusedVariables false
set_option maxRecDepth 20000

theorem news16 {w : World} {pb po : Nat} {z : Nat → Int} {o : Obj} (h : ∀ i, i < 16 → w.cell? ⟨pb, po + i, none⟩ = some (.int .u8 (z i))) : ∀ j u, (bvs z 16)[j]? = some u → (w.alloc o).drew.cell? ((⟨pb, po, none⟩ : Addr).add j) = some u := fun j u hu => by
  obtain ⟨hj, rfl⟩ := bvs_get _ _ _ _ hu
  rw [Addr.add_mid]
  exact cell_alloc (h j hj) o
/-- Behind the first append: what lay in one block lies there. -/
theorem after4 {wr w1 : World} {o : Obj} {b q : Nat} {v : Value} (hg : (wr.alloc o).drew.grownBy w1 (some wr.heap.size)) (h : wr.cell? ⟨b, q, none⟩ = some v) (hf : wr.frozen? ⟨b, q, none⟩ = false) :
    w1.cell? ⟨b, q, none⟩ = some v ∧ w1.frozen? ⟨b, q, none⟩ = false ∧ (∀ o : Obj, (w1.alloc o).cell? ⟨b, q, none⟩ = some v) := by
  have hr : ∀ k, some wr.heap.size = some k → wr.heap.size ≤ k := fun k e => by simp at e; omega
  have hq : wr.heap.size ≤ (wr.alloc o).drew.heap.size := by rw [drew_size]; omega
  have l0 : b < wr.heap.size := Go.block_lt_of_cell h
  have k0 := grow_cells hg hq hr l0 (show (wr.alloc o).cell? _ = _ from cell_alloc h o)
  exact ⟨k0, grow_frozen hg hq hr l0 (show (wr.alloc o).frozen? _ = _ by rw [World.frozen?_alloc_past _ _ _ l0]; exact hf), fun o => cell_alloc k0 o⟩
theorem after5 {w1 w2 : World} {o2 : Obj} {b q : Nat} {v x : Value} (hg : (w1.alloc o2).grownBy w2 v.ownBlock) (hc : w1.cell? ⟨b, q, none⟩ = some x) (hf : w1.frozen? ⟨b, q, none⟩ = false) (hv : v.ownBlock ≠ some b) : w2.cell? ⟨b, q, none⟩ = some x ∧ w2.frozen? ⟨b, q, none⟩ = false := by
  have l0 : b < w1.heap.size := Go.block_lt_of_cell hc
  refine ⟨hg.cell (cell_alloc hc o2) (fun e => hv e.symm), ?_⟩
  rw [World.frozen?_of_block (hg.block b (by rw [World.size_alloc]; omega) (fun e => hv e.symm)), World.frozen?_alloc_past _ _ _ l0]
  exact hf
theorem range_new3 {p t : Int} {G C : Nat} (w : World) (ty : TypeId) : ∀ j u, (lv3 p t G 16 C)[j]? = some u → (w.alloc (.cells #[.int .i64 p, .int .i64 t, .slice (some ⟨G, 0, none⟩) 16 C] ty)).cell? ((⟨w.heap.size, 0, none⟩ : Addr).add j) = some u := fun j u hu => by
  rw [Addr.add_mid]
  exact range_block (cs := lv3 p t G 16 C) (heap_alloc_last w (.cells (lv3 p t G 16 C).toArray ty)) j u hu
theorem cat_z {α : Type} (f g : Nat → α) (m : Nat) : catF f g m m = g 0 := by simp [catF]
theorem le_bym {m j : Nat} (h : m ≤ 57) (hj : j < 3) : (m + j + 1) * 40 ≤ 140737488355328 := by omega
theorem le_maxm {m j : Nat} (h : m ≤ 57) (hj : j < 3) : m + j + 1 ≤ maxLen := by unfold maxLen; omega
set_option maxHeartbeats 4000000 in
theorem l2Place_ok (n m : Nat) (L : Nat → Nat) (Z : Nat → Nat → Int) (P T : Nat → Int) (M : Nat → Nat) (Y : Nat → Nat → Int) (idn : Int) (z : Nat → Int) (a a' a3 : Option Addr) (cap cap' cap3 : Nat) (w : World) (hn : n ≤ 8) (hm : m ≤ 57) (hcap : 48 ≤ cap3) (hL : ∀ i, i < n → L i = 48) (hM : ∀ i, i < m → M i = 16) (h : PagesAt w a n L Z) (h' : LoosesAt w a' m P T M Y) (h3 : BytesAt w a3 48 z) :
    Calls Tryz.prog 29 #[.agg #[.slice a n cap, .slice a' m cap'], .int .i64 idn, .slice a3 48 cap3] w fun e w' => ∃ a1 c1 a2 c2, e = .returned (.tuple #[.agg #[.slice a1 n c1, .slice a2 (m + 3) c2], .int .i64 0]) ∧ Below w.heap.size w w' ∧ OwnP w' w.heap.size w'.heap.size a1 n (fun _ => 48) Z ∧ OwnL w' w.heap.size w'.heap.size a2 (m + 3) (catF P (pcP idn) m) (catF T pcT m) (fun _ => 16) (catF Y (pcY z) m) := by
  obtain ⟨pb, po, rfl, hpb, hpc⟩ : ∃ b off, a3 = some ⟨b, off, none⟩ ∧ b < w.heap.size ∧ ∀ i, i < 48 → w.cell? ⟨b, off + i, none⟩ = some (.int .u8 (z i)) := by
    rcases h3 with h | h
    · omega
    · exact h
  obtain ⟨i1, hi, hz0, hz1, hz2⟩ := info_parts info5
  have HJ : Hid (Tryz.prog.info? 5 = some i1 ∧ i1.zero = some (.int .u8 0) ∧ i1.size = 1 ∧ i1.bytes = 1) := ⟨hi, hz0, hz1, hz2⟩
  clear hi hz0 hz1 hz2
  obtain ⟨i2, hi, hz0, hz1, hz2⟩ := info_parts info114
  have HK : Hid (Tryz.prog.info? 136 = some i2 ∧ i2.zero = some (.agg #[.int .i64 0, .int .i64 0, .slice none 0 0]) ∧ i2.size = 3 ∧ i2.bytes = 40) := ⟨hi, hz0, hz1, hz2⟩
  have HL : Hid (∀ i, i < n → L i = 48) := hL
  have HM : Hid (∀ i, i < m → M i = 16) := hM
  have HA : Hid (PagesAt w a n L Z) := h
  have HA' : Hid (LoosesAt w a' m P T M Y) := h'
  have HY : Hid (∀ i, i < 48 → w.cell? ⟨pb, po + i, none⟩ = some (.int .u8 (z i))) := hpc
  clear hi hz0 hz1 hz2 hL h hM h' h3 hpc
  have hb0 : ∀ o1 o2, Below w.heap.size w ((w.alloc o1).alloc o2) := fun o1 o2 => ((Below.refl _ _).alloc (Nat.le_refl _) _).alloc (by simp) _
  have hm60 : ¬ (60 < (m : Int) + 3) := by omega
  go_enter Tryz.func29, Tryz.ntmps29
  go_wp2_with fail
  refine (l2Copy_any n m L Z P T M Y a a' cap cap' _ hn (by omega) HL.out HM.out (HA.out.below (hb0 _ _)) (HA'.out.below (hb0 _ _))).mono ?_
  rintro e w1 ⟨av, cv, v0, mid, rfl, hb1, hmid, hop, hal⟩
  obtain ⟨va, vc, rfl, -, -⟩ := hal.own
  have e2 : ∀ o1 o2 : Obj, ((w.alloc o1).alloc o2).heap.size = w.heap.size + 2 := fun _ _ => by simp
  rw [e2] at hmid
  have hz1 : w.heap.size + 2 ≤ w1.heap.size := by have := hb1.size; rw [e2] at this; exact this
  obtain ⟨hcc, hff⟩ := bcell hb1
  have r0 : w1.cell? ⟨w.heap.size + 1, 0, none⟩ = some (.slice none 0 0) := by rw [hcc _ _ (by simp <;> omega)]; simp [go_sem]
  have r1 : w1.cell? ⟨w.heap.size + 1, 1, none⟩ = some (.slice none 0 0) := by rw [hcc _ _ (by simp <;> omega)]; simp [go_sem]
  have fz : ∀ i, w1.frozen? ⟨w.heap.size + 1, i, none⟩ = false := fun i => by rw [hff _ _ (by simp <;> omega)]; simp [go_sem]
  have HB1 : Hid (Below w.heap.size w w1) := below_then (hb0 _ _) hb1
  have HOP : Hid (OwnP w1 (w.heap.size + 2) mid av n (fun _ => 48) Z) := by rw [e2] at hop; exact hop
  have hml : mid ≤ w1.heap.size := hop.1
  obtain ⟨g0, c0, k1, k2, k3⟩ := hal
  have HA0 : Hid (ALx w1.heap.size mid (w1.alloc (.cells #[.slice av n cv, .slice va m vc] 38)) (.slice va m vc) (m + 0) (catF P (pcP idn) m) (catF T pcT m) (fun _ => 16) (catF Y (pcY z) m)) := by
    refine ⟨g0, c0, ?_, k2, fun i hi => ?_, fun i hi => ?_, fun e => ?_, by rw [World.size_alloc]; omega⟩
    · rw [llv_congr (P' := P) (T' := T) (g' := g0) (L' := fun _ => 16) (c' := c0) (fun i hi => cat_lt _ _ (by omega)) (fun i hi => cat_lt _ _ (by omega)) (fun _ _ => rfl) (fun _ _ => rfl) (fun _ _ => rfl)]
      exact k1.alloc _
    · obtain ⟨x1, x2, x3, x4, x5⟩ := k3 i (by omega)
      rw [cat_lt _ _ (by omega : i < m)]
      exact ⟨x1, by rw [World.size_alloc]; omega, x3, x4.block (Below.heap_alloc _ _ _ x2), x5⟩
    · have := (k3 i (by omega)).2.1; omega
    · have := (k1.lt _ e).2; omega
  clear hb1 hop k1 k2 k3 hcc hff hb0
  go_wp2_with fail
  go_loopw [9] (fun i wr => ∃ j : Nat, j ≤ 3 ∧ i = .int .i64 j ∧ ∃ v, Hid (Below w.heap.size w wr) ∧ Hid (Box2 wr (w.heap.size + 1) (.slice none 0 0) (.slice none 0 0)) ∧ Hid (∀ i, wr.frozen? ⟨w.heap.size + 1, i, none⟩ = false) ∧ Hid (Box2 wr w1.heap.size (.slice av n cv) v) ∧ Hid (wr.frozen? ⟨w1.heap.size, 1, none⟩ = false) ∧ Hid (OwnP wr (w.heap.size + 2) mid av n (fun _ => 48) Z) ∧ Hid (ALx w1.heap.size mid wr v (m + j) (catF P (pcP idn) m) (catF T pcT m) (fun _ => 16) (catF Y (pcY z) m)) ∧ Hid (mid ≤ wr.heap.size)) (fun i _ => 3 - (intOf i).toNat)
  case atStart =>
    refine ⟨0, by omega, rfl, .slice va m vc, HB1.out.alloc HB1.out.size _, ⟨cell_alloc r0 _, cell_alloc r1 _⟩, fun i => ?_, Box2.new _ _ _ _, frozen_block (heap_alloc_last _ _), HOP.out.below (below_new _ _), HA0.out, ?_⟩
    · show _ = false
      rw [World.frozen?_alloc_past _ _ _ (by show w.heap.size + 1 < _; omega)]; exact fz i
    · show mid ≤ _
      rw [World.size_alloc]; omega
  case round =>
    obtain ⟨j, hj0, rfl, v, HB, HR, HF, HX, HF1, HP, HAL, HSM⟩ := hrel
    by_cases hlt : j < 3
    · obtain ⟨g, c, hown, hjj, hcg, hgq, hvq, hQ⟩ := HAL.out
      obtain ⟨av3, cv3, rfl⟩ : ∃ a cap, v = .slice a (m + j) cap := by
        rcases hown.2 with ⟨rfl, h0⟩ | ⟨q, cq, _, rfl, _⟩
        · exact ⟨none, 0, by rw [h0]⟩
        · exact ⟨_, _, rfl⟩
      have HOW : Hid (wr.ownsRow mid 136 3 (.slice av3 (m + j) cv3) (m + j) (llv (catF P (pcP idn) m) (catF T pcT m) g (fun _ => 16) c (m + j))) := hown
      have HJ2 : Hid (∀ x y, x < m + j → y < m + j → g x = g y → x = y) := hjj
      have HCC : Hid (∀ i, i < m + j → mid ≤ g i ∧ g i < wr.heap.size ∧ (Value.slice av3 (m + j) cv3).ownBlock ≠ some (g i) ∧ Row1 wr (g i) 0 16 (catF Y (pcY z) m i) ∧ 16 ≤ c i) := hcg
      have HGQ : Hid (∀ i, i < m + j → g i ≠ w1.heap.size) := hgq
      have HVQ : Hid ((Value.slice av3 (m + j) cv3).ownBlock ≠ some w1.heap.size ∧ w1.heap.size < wr.heap.size) := ⟨hvq, hQ⟩
      obtain ⟨q0, q1⟩ := HX.out
      have f1 := HF1.out
      have HD : Hid (∀ q, q + 16 ≤ 48 → ∀ i, i < 16 → wr.cell? ⟨pb, po + q + i, none⟩ = some (.int .u8 (z (q + i)))) := fun q hq i hi => by
        rw [HB.out.cell (p := ⟨pb, _, none⟩) hpb, Nat.add_assoc]; exact HY.out (q + i) (by omega)
      have x0 : IntKind.i64.wrap 0 = 0 := by decide
      have x1 : IntKind.i64.wrap 1 = 1 := by decide
      have x2 : IntKind.i64.wrap 2 = 2 := by decide
      have x3 : IntKind.i64.wrap 3 = 3 := by decide
      have x4 : IntKind.i64.wrap 16 = 16 := by decide
      have x5 : IntKind.i64.wrap 32 = 32 := by decide
      have x6 : IntKind.i64.wrap 48 = 48 := by decide
      have d1 : ¬ cap3 = 0 := by omega
      have d2 : ¬ cap3 = 16 := by omega
      have d3 : ¬ cap3 = 32 := by omega
      have d4 : (16 : Int) ≤ (cap3 : Int) := by omega
      have d5 : (32 : Int) ≤ (cap3 : Int) := by omega
      have d6 : (48 : Int) ≤ (cap3 : Int) := by omega
      have a1 := fun o : Obj => cell_alloc q1 o
      have hk3 : j = 0 ∨ j = 1 ∨ j = 2 := by omega
      clear hown hjj hcg hgq hvq hQ
      rcases hk3 with rfl | rfl | rfl
      · have HDk : Hid (∀ i, i < 16 → wr.cell? ⟨pb, po + i, none⟩ = some (.int .u8 (pcY z 0 i))) := fun i hi => HD.out 0 (by omega) i hi
        simp only [Nat.add_zero] at HOW HJ2 HCC HGQ HVQ q1 a1 HX HAL
        go_wp2_with fail
        go_region_law (first | (refine step_append_lies (P := Tryz.prog) (wr.alloc (.cells #[] 5)).drew rfl (.tmp 26) (.tmp 33) 27 rfl wr.heap.size 5 i1 (.int .u8 0) 1 1 Tryz.underlying27 HJ.out.1 HJ.out.2.1 HJ.out.2.2.1 HJ.out.2.2.2 rfl (by decide) (.slice (some ⟨wr.heap.size, 0, none⟩) 0 0) 0 [] rfl (World.ownsRow_made wr #[] 0 (Nat.le_refl _) (by decide) rfl) ⟨pb, po, none⟩ 16 cap3 (bvs (pcY z 0) 16) rfl (bvs_len _ _) (news16 HDk.out) (bvs_one _ _) (by decide) (by decide) (by decide) (al_le _ _) (wr.heap.size + 1) (World.size_alloc _ _) ?_; intro G C w3 hown1 hg1 hat1 hlt1; obtain ⟨s0, s1, s2⟩ := after4 hg1 q1 f1) | (refine step_append_lies (P := Tryz.prog) (w3.alloc (.cells #[.int .i64 idn, .int .i64 0, .slice (some ⟨G, 0, none⟩) 16 C] 136)) rfl (.tmp 23) (.tmp 36) 36 rfl mid 136 i2 (.agg #[.int .i64 0, .int .i64 0, .slice none 0 0]) 3 40 Tryz.underlying36 HK.out.1 HK.out.2.1 HK.out.2.2.1 HK.out.2.2.2 rfl (by decide) (.slice av3 m cv3) m (llv (catF P (pcP idn) m) (catF T pcT m) g (fun _ => 16) c m) rfl (own_after HOW.out hg1) ⟨w3.heap.size, 0, none⟩ 1 1 (lv3 idn 0 G 16 C) rfl rfl (range_new3 _ _) lv3_one (by decide) (le_maxm (j := 0) hm (by decide)) (le_bym (j := 0) hm (by decide)) (le_al3 HSM.out hg1) (w3.heap.size + 1) (World.size_alloc _ _) ?_; intro g2 c2 w2 hown2 hg2 hat2 hlt2; obtain ⟨u0, u1⟩ := after5 hg2 s0 s1 HVQ.out.1))
        all_goals
          obtain ⟨hap, hkeep, hbl⟩ := roundX (j := m) (Y := catF Y (pcY z) m) (P := catF P (pcP idn) m) (T := catF T pcT m) HSM.out HJ2.out HCC.out HOW.out HGQ.out HVQ.out.1 HVQ.out.2 (by rw [cat_z]; exact hown1) hlt1 hg1 (by rw [cat_z, cat_z]; exact hown2) hg2 hat2 (.slice (some ⟨g2, 0, none⟩) (m + 1) c2)
          have HAP : Hid (ALx w1.heap.size mid (w2.setCell ⟨w1.heap.size, 1, none⟩ (.slice (some ⟨g2, 0, none⟩) (m + 1) c2)) (.slice (some ⟨g2, 0, none⟩) (m + 1) c2) (m + 1) (catF P (pcP idn) m) (catF T pcT m) (fun _ => 16) (catF Y (pcY z) m)) := hap
          have HBL : Hid (Below mid wr w2) := hbl
          have HQ0 : Hid (w2.cell? ⟨w1.heap.size, 0, none⟩ = some (.slice av n cv)) := (World.cell?_of_block (w := wr) (a := ⟨w1.heap.size, 0, none⟩) (hkeep _ HVQ.out.2 HVQ.out.1)).trans q0
          have HU : Hid (w2.cell? ⟨w1.heap.size, 1, none⟩ = some (.slice av3 m cv3) ∧ w2.frozen? ⟨w1.heap.size, 1, none⟩ = false) := ⟨u0, u1⟩
          clear hap hkeep hbl hown1 hlt1 hg1 hat1 hown2 hg2 hat2 hlt2 s0 s1 s2
          go_wp2_with fail
          go_roundw
          case rel =>
            have hs := HBL.out.size
            have hw := HVQ.out.2
            have hsm := HSM.out
            refine ⟨1, by omega, rfl, _, ?_, ⟨?_, ?_⟩, fun i => ?_, ⟨?_, setS HU.out.1⟩, ?_, ?_, HAP.out, ?_⟩
            · exact (HB.out.trans (HBL.out.mono (by omega))).setCell (p := ⟨w1.heap.size, 1, none⟩) (by show w.heap.size ≤ w1.heap.size; omega) _
            · rw [setB (by omega)]; exact (HBL.out.cell (p := ⟨w.heap.size + 1, 0, none⟩) (by show w.heap.size + 1 < mid; omega)).trans HR.out.1
            · rw [setB (by omega)]; exact (HBL.out.cell (p := ⟨w.heap.size + 1, 1, none⟩) (by show w.heap.size + 1 < mid; omega)).trans HR.out.2
            · show _ = false
              rw [World.frozen?_setCell]; exact (HBL.out.frozen (p := ⟨w.heap.size + 1, i, none⟩) (by show w.heap.size + 1 < mid; omega)).trans (HF.out i)
            · rw [setO (by omega)]; exact HQ0.out
            · show _ = false
              rw [World.frozen?_setCell]; exact HU.out.2
            · exact (HP.out.writes (Writes.of_below' HBL.out) (.inl (Nat.le_refl _))).writes (Writes.setCell (Writes.refl w1.heap.size (w1.heap.size + 1) _) (p := ⟨w1.heap.size, 1, none⟩) (Nat.le_refl _) (by show w1.heap.size < w1.heap.size + 1; omega) _) (.inl hml)
            · show mid ≤ _
              simp [World.setCell]; omega
          case measure => simp [intOf]
      · have HDk : Hid (∀ i, i < 16 → wr.cell? ⟨pb, po + 16 + i, none⟩ = some (.int .u8 (pcY z 1 i))) := fun i hi => HD.out 16 (by omega) i hi
        go_wp2_with fail
        go_region_law (first | (refine step_append_lies (P := Tryz.prog) (wr.alloc (.cells #[] 5)).drew rfl (.tmp 26) (.tmp 33) 27 rfl wr.heap.size 5 i1 (.int .u8 0) 1 1 Tryz.underlying27 HJ.out.1 HJ.out.2.1 HJ.out.2.2.1 HJ.out.2.2.2 rfl (by decide) (.slice (some ⟨wr.heap.size, 0, none⟩) 0 0) 0 [] rfl (World.ownsRow_made wr #[] 0 (Nat.le_refl _) (by decide) rfl) ⟨pb, po + 16, none⟩ 16 (cap3 - 16) (bvs (pcY z 1) 16) rfl (bvs_len _ _) (news16 HDk.out) (bvs_one _ _) (by decide) (by decide) (by decide) (al_le _ _) (wr.heap.size + 1) (World.size_alloc _ _) ?_; intro G C w3 hown1 hg1 hat1 hlt1; obtain ⟨s0, s1, s2⟩ := after4 hg1 q1 f1) | (refine step_append_lies (P := Tryz.prog) (w3.alloc (.cells #[.int .i64 idn, .int .i64 1, .slice (some ⟨G, 0, none⟩) 16 C] 136)) rfl (.tmp 23) (.tmp 36) 36 rfl mid 136 i2 (.agg #[.int .i64 0, .int .i64 0, .slice none 0 0]) 3 40 Tryz.underlying36 HK.out.1 HK.out.2.1 HK.out.2.2.1 HK.out.2.2.2 rfl (by decide) (.slice av3 (m + 1) cv3) (m + 1) (llv (catF P (pcP idn) m) (catF T pcT m) g (fun _ => 16) c (m + 1)) rfl (own_after HOW.out hg1) ⟨w3.heap.size, 0, none⟩ 1 1 (lv3 idn 1 G 16 C) rfl rfl (range_new3 _ _) lv3_one (by decide) (le_maxm hm (by decide)) (le_bym hm (by decide)) (le_al3 HSM.out hg1) (w3.heap.size + 1) (World.size_alloc _ _) ?_; intro g2 c2 w2 hown2 hg2 hat2 hlt2; obtain ⟨u0, u1⟩ := after5 hg2 s0 s1 HVQ.out.1))
        all_goals
          obtain ⟨hap, hkeep, hbl⟩ := roundX (j := m + 1) (Y := catF Y (pcY z) m) (P := catF P (pcP idn) m) (T := catF T pcT m) HSM.out HJ2.out HCC.out HOW.out HGQ.out HVQ.out.1 HVQ.out.2 (by rw [cat_ge]; exact hown1) hlt1 hg1 (by rw [cat_ge, cat_ge]; exact hown2) hg2 hat2 (.slice (some ⟨g2, 0, none⟩) (m + 1 + 1) c2)
          have HAP : Hid (ALx w1.heap.size mid (w2.setCell ⟨w1.heap.size, 1, none⟩ (.slice (some ⟨g2, 0, none⟩) (m + 1 + 1) c2)) (.slice (some ⟨g2, 0, none⟩) (m + 1 + 1) c2) (m + 1 + 1) (catF P (pcP idn) m) (catF T pcT m) (fun _ => 16) (catF Y (pcY z) m)) := hap
          have HBL : Hid (Below mid wr w2) := hbl
          have HQ0 : Hid (w2.cell? ⟨w1.heap.size, 0, none⟩ = some (.slice av n cv)) := (World.cell?_of_block (w := wr) (a := ⟨w1.heap.size, 0, none⟩) (hkeep _ HVQ.out.2 HVQ.out.1)).trans q0
          have HU : Hid (w2.cell? ⟨w1.heap.size, 1, none⟩ = some (.slice av3 (m + 1) cv3) ∧ w2.frozen? ⟨w1.heap.size, 1, none⟩ = false) := ⟨u0, u1⟩
          clear hap hkeep hbl hown1 hlt1 hg1 hat1 hown2 hg2 hat2 hlt2 s0 s1 s2
          go_wp2_with fail
          go_roundw
          case rel =>
            have hs := HBL.out.size
            have hw := HVQ.out.2
            have hsm := HSM.out
            refine ⟨2, by omega, rfl, _, ?_, ⟨?_, ?_⟩, fun i => ?_, ⟨?_, setS HU.out.1⟩, ?_, ?_, HAP.out, ?_⟩
            · exact (HB.out.trans (HBL.out.mono (by omega))).setCell (p := ⟨w1.heap.size, 1, none⟩) (by show w.heap.size ≤ w1.heap.size; omega) _
            · rw [setB (by omega)]; exact (HBL.out.cell (p := ⟨w.heap.size + 1, 0, none⟩) (by show w.heap.size + 1 < mid; omega)).trans HR.out.1
            · rw [setB (by omega)]; exact (HBL.out.cell (p := ⟨w.heap.size + 1, 1, none⟩) (by show w.heap.size + 1 < mid; omega)).trans HR.out.2
            · show _ = false
              rw [World.frozen?_setCell]; exact (HBL.out.frozen (p := ⟨w.heap.size + 1, i, none⟩) (by show w.heap.size + 1 < mid; omega)).trans (HF.out i)
            · rw [setO (by omega)]; exact HQ0.out
            · show _ = false
              rw [World.frozen?_setCell]; exact HU.out.2
            · exact (HP.out.writes (Writes.of_below' HBL.out) (.inl (Nat.le_refl _))).writes (Writes.setCell (Writes.refl w1.heap.size (w1.heap.size + 1) _) (p := ⟨w1.heap.size, 1, none⟩) (Nat.le_refl _) (by show w1.heap.size < w1.heap.size + 1; omega) _) (.inl hml)
            · show mid ≤ _
              simp [World.setCell]; omega
          case measure => simp [intOf]
      · have HDk : Hid (∀ i, i < 16 → wr.cell? ⟨pb, po + 32 + i, none⟩ = some (.int .u8 (pcY z 2 i))) := fun i hi => HD.out 32 (by omega) i hi
        go_wp2_with fail
        go_region_law (first | (refine step_append_lies (P := Tryz.prog) (wr.alloc (.cells #[] 5)).drew rfl (.tmp 26) (.tmp 33) 27 rfl wr.heap.size 5 i1 (.int .u8 0) 1 1 Tryz.underlying27 HJ.out.1 HJ.out.2.1 HJ.out.2.2.1 HJ.out.2.2.2 rfl (by decide) (.slice (some ⟨wr.heap.size, 0, none⟩) 0 0) 0 [] rfl (World.ownsRow_made wr #[] 0 (Nat.le_refl _) (by decide) rfl) ⟨pb, po + 32, none⟩ 16 (cap3 - 32) (bvs (pcY z 2) 16) rfl (bvs_len _ _) (news16 HDk.out) (bvs_one _ _) (by decide) (by decide) (by decide) (al_le _ _) (wr.heap.size + 1) (World.size_alloc _ _) ?_; intro G C w3 hown1 hg1 hat1 hlt1; obtain ⟨s0, s1, s2⟩ := after4 hg1 q1 f1) | (refine step_append_lies (P := Tryz.prog) (w3.alloc (.cells #[.int .i64 idn, .int .i64 2, .slice (some ⟨G, 0, none⟩) 16 C] 136)) rfl (.tmp 23) (.tmp 36) 36 rfl mid 136 i2 (.agg #[.int .i64 0, .int .i64 0, .slice none 0 0]) 3 40 Tryz.underlying36 HK.out.1 HK.out.2.1 HK.out.2.2.1 HK.out.2.2.2 rfl (by decide) (.slice av3 (m + 2) cv3) (m + 2) (llv (catF P (pcP idn) m) (catF T pcT m) g (fun _ => 16) c (m + 2)) rfl (own_after HOW.out hg1) ⟨w3.heap.size, 0, none⟩ 1 1 (lv3 idn 2 G 16 C) rfl rfl (range_new3 _ _) lv3_one (by decide) (le_maxm hm (by decide)) (le_bym hm (by decide)) (le_al3 HSM.out hg1) (w3.heap.size + 1) (World.size_alloc _ _) ?_; intro g2 c2 w2 hown2 hg2 hat2 hlt2; obtain ⟨u0, u1⟩ := after5 hg2 s0 s1 HVQ.out.1))
        all_goals
          obtain ⟨hap, hkeep, hbl⟩ := roundX (j := m + 2) (Y := catF Y (pcY z) m) (P := catF P (pcP idn) m) (T := catF T pcT m) HSM.out HJ2.out HCC.out HOW.out HGQ.out HVQ.out.1 HVQ.out.2 (by rw [cat_ge]; exact hown1) hlt1 hg1 (by rw [cat_ge, cat_ge]; exact hown2) hg2 hat2 (.slice (some ⟨g2, 0, none⟩) (m + 2 + 1) c2)
          have HAP : Hid (ALx w1.heap.size mid (w2.setCell ⟨w1.heap.size, 1, none⟩ (.slice (some ⟨g2, 0, none⟩) (m + 2 + 1) c2)) (.slice (some ⟨g2, 0, none⟩) (m + 2 + 1) c2) (m + 2 + 1) (catF P (pcP idn) m) (catF T pcT m) (fun _ => 16) (catF Y (pcY z) m)) := hap
          have HBL : Hid (Below mid wr w2) := hbl
          have HQ0 : Hid (w2.cell? ⟨w1.heap.size, 0, none⟩ = some (.slice av n cv)) := (World.cell?_of_block (w := wr) (a := ⟨w1.heap.size, 0, none⟩) (hkeep _ HVQ.out.2 HVQ.out.1)).trans q0
          have HU : Hid (w2.cell? ⟨w1.heap.size, 1, none⟩ = some (.slice av3 (m + 2) cv3) ∧ w2.frozen? ⟨w1.heap.size, 1, none⟩ = false) := ⟨u0, u1⟩
          clear hap hkeep hbl hown1 hlt1 hg1 hat1 hown2 hg2 hat2 hlt2 s0 s1 s2
          go_wp2_with fail
          go_roundw
          case rel =>
            have hs := HBL.out.size
            have hw := HVQ.out.2
            have hsm := HSM.out
            refine ⟨3, by omega, rfl, _, ?_, ⟨?_, ?_⟩, fun i => ?_, ⟨?_, setS HU.out.1⟩, ?_, ?_, HAP.out, ?_⟩
            · exact (HB.out.trans (HBL.out.mono (by omega))).setCell (p := ⟨w1.heap.size, 1, none⟩) (by show w.heap.size ≤ w1.heap.size; omega) _
            · rw [setB (by omega)]; exact (HBL.out.cell (p := ⟨w.heap.size + 1, 0, none⟩) (by show w.heap.size + 1 < mid; omega)).trans HR.out.1
            · rw [setB (by omega)]; exact (HBL.out.cell (p := ⟨w.heap.size + 1, 1, none⟩) (by show w.heap.size + 1 < mid; omega)).trans HR.out.2
            · show _ = false
              rw [World.frozen?_setCell]; exact (HBL.out.frozen (p := ⟨w.heap.size + 1, i, none⟩) (by show w.heap.size + 1 < mid; omega)).trans (HF.out i)
            · rw [setO (by omega)]; exact HQ0.out
            · show _ = false
              rw [World.frozen?_setCell]; exact HU.out.2
            · exact (HP.out.writes (Writes.of_below' HBL.out) (.inl (Nat.le_refl _))).writes (Writes.setCell (Writes.refl w1.heap.size (w1.heap.size + 1) _) (p := ⟨w1.heap.size, 1, none⟩) (Nat.le_refl _) (by show w1.heap.size < w1.heap.size + 1; omega) _) (.inl hml)
            · show mid ≤ _
              simp [World.setCell]; omega
          case measure => simp [intOf]
    · have hkn : j = 3 := by omega
      subst hkn
      obtain ⟨va2, vc2, rfl, -, hol⟩ := HAL.out.al.own
      have HOL : Hid (OwnL wr mid wr.heap.size va2 (m + 3) (catF P (pcP idn) m) (catF T pcT m) (fun _ => 16) (catF Y (pcY z) m)) := hol
      obtain ⟨q0, q1⟩ := HX.out
      obtain ⟨y0, y1⟩ := HR.out
      have fy := HF.out
      clear hol
      go_wp2_with fail
      refine bodyPost_ret (v := .tuple #[.agg #[.slice av n cv, .slice va2 (m + 3) vc2], .int .i64 0]) (by simp [results, Tryz.results29, go_sem, *]) rfl ⟨av, cv, va2, vc2, rfl, ?_, ?_, ?_⟩
      · exact (HB.out.setCell (p := ⟨w.heap.size + 1, 0, none⟩) (by show w.heap.size ≤ w.heap.size + 1; omega) _).setCell (p := ⟨w.heap.size + 1, 1, none⟩) (by show w.heap.size ≤ w.heap.size + 1; omega) _
      · have hw := Writes.setCell (Writes.setCell (Writes.refl (w.heap.size + 1) (w.heap.size + 2) wr) (p := ⟨w.heap.size + 1, 0, none⟩) (Nat.le_refl _) (by show w.heap.size + 1 < w.heap.size + 2; omega) (.slice av n cv)) (p := ⟨w.heap.size + 1, 1, none⟩) (Nat.le_refl _) (by show w.heap.size + 1 < w.heap.size + 2; omega) (.slice va2 (m + 3) vc2)
        have hsm := HSM.out
        exact (HP.out.writes hw (.inr (Nat.le_refl _))).wide (by omega) (by simp [World.setCell]; omega) (Nat.le_refl _)
      · have hw := Writes.setCell (Writes.setCell (Writes.refl (w.heap.size + 1) (w.heap.size + 2) wr) (p := ⟨w.heap.size + 1, 0, none⟩) (Nat.le_refl _) (by show w.heap.size + 1 < w.heap.size + 2; omega) (.slice av n cv)) (p := ⟨w.heap.size + 1, 1, none⟩) (Nat.le_refl _) (by show w.heap.size + 1 < w.heap.size + 2; omega) (.slice va2 (m + 3) vc2)
        exact (HOL.out.writes hw (.inr (by omega))).wide (by omega) (by simp [World.setCell]) (Nat.le_refl _)
end Go.Proofs.YtaokclhcmgbgnaaGreat
