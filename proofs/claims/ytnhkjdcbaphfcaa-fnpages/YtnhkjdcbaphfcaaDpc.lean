/- Draws: spec.DrawSetCell. -/
import Derived.Test.YtnhkjdcbaphfcaaDpb
namespace Go.Proofs.Ytnhkjdcbaphfcaa
open Go.RowKit Go.Deep
set_option linter.unusedVariables false
set_option linter.unusedSimpArgs false
set_option maxRecDepth 20000

theorem below_dw {w wr w2 : World} {S : Nat} {a : Option Addr} {kk cap : Nat} {z : Nat → Int} {t : Nat} (h : Below w.heap.size w wr) (hs : w.heap.size ≤ S) (d : Dw S a kk cap z t wr w2) : Below w.heap.size w w2 := by
  have h1 := d.1
  exact ⟨h1.os.trans h.os, h1.tape.trans h.tape, h1.output.trans h.output, Nat.le_trans h.size h1.size, fun b hbl => (h1.block b (Nat.lt_of_lt_of_le hbl h.size) (.inl (by omega))).trans (h.block b hbl)⟩
theorem Box3.dw {wr w2 : World} {S : Nat} {a : Option Addr} {kk cap : Nat} {z : Nat → Int} {t : Nat} {B : Nat} {c0 c1 c2 : Value} (h : Box3 wr B c0 c1 c2) (hb : B ≠ S) (d : Dw S a kk cap z t wr w2) : Box3 w2 B c0 c1 c2 := by
  have hl : B < wr.heap.size := Go.block_lt_of_cell h.1
  have e := d.1.block B hl (by omega)
  exact ⟨(World.cell?_of_block (w := wr) (a := ⟨B, 0, none⟩) e).trans h.1, (World.cell?_of_block (w := wr) (a := ⟨B, 1, none⟩) e).trans h.2.1, (World.cell?_of_block (w := wr) (a := ⟨B, 2, none⟩) e).trans h.2.2⟩
theorem Box3.set3 {w : World} {V B : Nat} {c0 c1 c2 u0 u1 u2 : Value} (h : Box3 w V c0 c1 c2) (hne : V ≠ B) : Box3 (((w.setCell ⟨B, 0, none⟩ u0).setCell ⟨B, 1, none⟩ u1).setCell ⟨B, 2, none⟩ u2) V c0 c1 c2 := by
  have e : ∀ i, (((w.setCell ⟨B, 0, none⟩ u0).setCell ⟨B, 1, none⟩ u1).setCell ⟨B, 2, none⟩ u2).cell? ⟨V, i, none⟩ = w.cell? ⟨V, i, none⟩ := fun i => by
    rw [World.cell?_setCell_other _ _ _ _ (by simp [hne]), World.cell?_setCell_other _ _ _ _ (by simp [hne]), World.cell?_setCell_other _ _ _ _ (by simp [hne])]
  exact ⟨(e 0).trans h.1, (e 1).trans h.2.1, (e 2).trans h.2.2⟩
def DrawScA (w : World) (e : Ending) (w' : World) : Prop := ∃ (id ls : Int) (b off n rc : Nat) (K V : Nat → Int) (x y u : Int), e = .returned (.tuple #[.agg #[.int .i64 id, .int .i64 ls, .slice (some ⟨b, off, none⟩) n rc], .int .i64 x, .int .i64 y, .int .i64 u]) ∧ n ≤ 13 ∧ n ≤ rc ∧ CellsAt w' (some ⟨b, off, none⟩) n K V ∧ Below w.heap.size w w'
set_option maxHeartbeats 16000000 in
theorem drawSc_any (a : Option Addr) (kk cap : Nat) (z : Nat → Int) (w : World) (hk : kk ≤ 1048576) (hz : Byt kk z) (h : BytesAt w a kk z) :
    Calls Try.prog 15 #[.slice a kk cap] w (DrawScA w) := by
  have HA : Hid (BytesAt w a kk z) := h
  have HZ : Hid (Byt kk z) := hz
  clear h hz
  go_enter Try.func15, Try.ntmps15
  go_wp2_with fail
  have BX := BxP.new w (.int .i64 0) (.int .i64 0) (.slice none 0 0) 27
  have HB : Hid (Below w.heap.size w (w.alloc (.cells #[.int .i64 0, .int .i64 0, .slice none 0 0] 27))) := below_new _ _
  have HA0 : Hid (BytesAt (w.alloc (.cells #[.int .i64 0, .int .i64 0, .slice none 0 0] 27)) a kk z) := HA.out.below (below_new _ _)
  obtain ⟨B, hB⟩ : ∃ B, B = w.heap.size := ⟨_, rfl⟩
  have HBW : Hid (w.heap.size ≤ B) := by show w.heap.size ≤ B; omega
  rw [← hB] at BX ⊢
  generalize (w.alloc (.cells #[.int .i64 0, .int .i64 0, .slice none 0 0] 27)) = w0 at *
  have hBl : B < w0.heap.size := BX.lt
  refine (l1Source_any a kk cap z w0 hk HZ.out HA0.out).mono ?_
  rintro e w1 ⟨rfl, hb1, hs1, hsrc⟩
  obtain ⟨S, hS⟩ : ∃ S, S = w0.heap.size := ⟨_, rfl⟩
  rw [← hS] at hsrc ⊢
  have hw0 := HB.out.size
  have HSw : Hid (w.heap.size ≤ S) := by show w.heap.size ≤ S; omega
  have HBS : Hid (B ≠ S) := by show B ≠ S; omega
  have HSr : Hid (Src w1 S a kk cap z 0) := hsrc
  replace BX := BX.below hb1
  replace HB : Hid (Below w.heap.size w w1) := below_then HB.out hb1
  clear hsrc hS hB hs1 hb1 HA HA0 hw0 hBl HZ
  obtain ⟨M, hM⟩ : ∃ M, M = w1.heap.size := ⟨_, rfl⟩
  have HSM : Hid (S < M) := by rw [hM]; exact HSr.out.lt
  have HBM : Hid (B < M) := by rw [hM]; exact BX.lt
  go_wp2_with fail
  refine (l1Bent_any S a kk cap z 0 w1 (by omega) HSr.out).mono ?_
  rintro e w2 ⟨id, ls, ra, n, rc, K, V, t', rfl, hn13, hnc, ht', hcn, hdw, b, off, rfl⟩
  have HC : Hid (Cn M w2 (some ⟨b, off, none⟩) n K V) := by rw [hM]; exact hcn
  have HNC : Hid (n ≤ 13 ∧ n ≤ rc) := ⟨hn13, hnc⟩
  replace BX := BX.dw HBS.out hdw
  replace HB : Hid (Below w.heap.size w w2) := below_dw HB.out HSw.out hdw
  obtain ⟨t, ht, HSr⟩ : ∃ t : Nat, t ≤ 100 ∧ Hid (Src w2 S a kk cap z t) := ⟨t', by omega, hdw.2⟩
  clear hcn hdw hM hnc hn13 ht'
  go_upto_region 3 with fail
  obtain ⟨W, hW⟩ : ∃ y, y = w2.alloc (.cells #[.int .i64 id, .int .i64 ls, .slice (some ⟨b, off, none⟩) n rc] 27) := ⟨_, rfl⟩
  have hb4 : Below w2.heap.size w2 W := by rw [hW]; exact below_new _ _
  have BV : Box3 W w2.heap.size (.int .i64 id) (.int .i64 ls) (.slice (some ⟨b, off, none⟩) n rc) := by rw [hW]; exact Box3.new _ _ _ _ _
  have hBl : B < w2.heap.size := BX.lt
  have hSl : S < w2.heap.size := HSr.out.lt
  have HVS : Hid (w2.heap.size ≠ S) := by show w2.heap.size ≠ S; omega
  have HNE : Hid (w2.heap.size ≠ B) := by show w2.heap.size ≠ B; omega
  replace BX := BX.below hb4
  replace HB : Hid (Below w.heap.size w W) := below_then HB.out hb4
  replace HC : Hid (Cn M W (some ⟨b, off, none⟩) n K V) := HC.out.below hb4
  replace HSr : Hid (Src W S a kk cap z t) := HSr.out.below hb4
  rw [← hW]
  clear hW hb4 hBl hSl
  generalize w2.heap.size = Q at *
  refine wp_region_E 999 (S := fun u => Box3 u Q (.int .i64 id) (.int .i64 ls) (.slice (some ⟨b, off, none⟩) n rc)) (by kernel_rfl) BV (fun hS => ?_)
  obtain ⟨u0, hu0⟩ : ∃ y, y = W.drew := ⟨_, rfl⟩
  replace HB : Hid (Below w.heap.size w u0) := by rw [hu0]; exact HB.out.drew
  replace HC : Hid (Cn M u0 (some ⟨b, off, none⟩) n K V) := by rw [hu0]; exact HC.out.below ((Below.refl _ _).drew)
  replace BX : BxP u0 B (.int .i64 0) (.int .i64 0) (.slice none 0 0) := by rw [hu0]; exact BX.below ((Below.refl _ _).drew)
  replace HSr : Hid (Src u0 S a kk cap z t) := by rw [hu0]; exact HSr.out.below ((Below.refl _ _).drew)
  rw [← hu0] at hS ⊢
  clear hu0 BV
  refine wpAnyE_takeD (L := 999) (i := 0) (v := .agg #[.int .i64 id, .int .i64 ls, .slice (some ⟨b, off, none⟩) n rc]) (some 12) rfl rfl (by kernel_rfl) (by kernel_rfl) (by kernel_rfl) (by kernel_rfl) (fun _ _ _ h => h) (Or.inl ⟨by kernel_rfl, by intro u hSu; obtain ⟨h0, h1, h2⟩ := hSu; go_simp⟩) hS ?_
  try simp only [Act.put, List.setIfInBounds_toArray, List.set_cons_zero, List.set_cons_succ]
  refine wpAnyE_takeD (L := 999) (i := 1) (v := .pointer (some ⟨S, 0, none⟩)) (some 13) rfl rfl (by kernel_rfl) (by kernel_rfl) (by kernel_rfl) (by kernel_rfl) (fun _ _ _ h => h) (Or.inl ⟨by kernel_rfl, by intro u hSu; go_simp⟩) hS ?_
  try simp only [Act.put, List.setIfInBounds_toArray, List.set_cons_zero, List.set_cons_succ]
  refine wpAnyE_takeD (L := 999) (i := 2) (v := .pointer (some ⟨S, 0, none⟩)) (some 14) rfl rfl (by kernel_rfl) (by kernel_rfl) (by kernel_rfl) (by kernel_rfl) (fun _ _ _ h => h) (Or.inl ⟨by kernel_rfl, by intro u hSu; go_simp⟩) hS ?_
  try simp only [Act.put, List.setIfInBounds_toArray, List.set_cons_zero, List.set_cons_succ]
  refine wpAnyE_takeD (L := 999) (i := 4) (v := .pointer (some ⟨S, 0, none⟩)) (some 16) rfl rfl (by kernel_rfl) (by kernel_rfl) (by kernel_rfl) (by kernel_rfl) (fun _ _ _ h => h) (Or.inl ⟨by kernel_rfl, by intro u hSu; go_simp⟩) hS ?_
  try simp only [Act.put, List.setIfInBounds_toArray, List.set_cons_zero, List.set_cons_succ]
  refine wpAnyE_takeD (L := 999) (i := 8) (v := .pointer (some ⟨S, 0, none⟩)) (some 20) rfl rfl (by kernel_rfl) (by kernel_rfl) (by kernel_rfl) (by kernel_rfl) (fun _ _ _ h => h) (Or.inl ⟨by kernel_rfl, by intro u hSu; go_simp⟩) hS ?_
  try simp only [Act.put, List.setIfInBounds_toArray, List.set_cons_zero, List.set_cons_succ]
  refine wpAnyE_takeD (L := 999) (i := 9) (v := .pointer (some ⟨S, 0, none⟩)) (some 21) rfl rfl (by kernel_rfl) (by kernel_rfl) (by kernel_rfl) (by kernel_rfl) (fun _ _ _ h => h) (Or.inl ⟨by kernel_rfl, by intro u hSu; go_simp⟩) hS ?_
  try simp only [Act.put, List.setIfInBounds_toArray, List.set_cons_zero, List.set_cons_succ]
  refine wpAnyE_takeD (L := 999) (i := 13) (v := .pointer (some ⟨S, 0, none⟩)) (some 25) rfl rfl (by kernel_rfl) (by kernel_rfl) (by kernel_rfl) (by kernel_rfl) (fun _ _ _ h => h) (Or.inl ⟨by kernel_rfl, by intro u hSu; go_simp⟩) hS ?_
  try simp only [Act.put, List.setIfInBounds_toArray, List.set_cons_zero, List.set_cons_succ]
  refine wpAnyE_takeD (L := 999) (i := 14) (v := .pointer (some ⟨S, 0, none⟩)) (some 26) rfl rfl (by kernel_rfl) (by kernel_rfl) (by kernel_rfl) (by kernel_rfl) (fun _ _ _ h => h) (Or.inl ⟨by kernel_rfl, by intro u hSu; go_simp⟩) hS ?_
  try simp only [Act.put, List.setIfInBounds_toArray, List.set_cons_zero, List.set_cons_succ]
  refine wpAnyE_ready (rs := [3]) (by kernel_rfl) (by simp) ?_
  refine AllReadyE.cons rfl (fun K9 hK => ?_) AllReadyE.nil
  go_simp
  refine (l1Next_any S a kk cap z (t) 32 u0 (by omega) (by omega) HSr.out).mono ?_
  rintro e u1 ⟨v1, rfl, -, hn⟩
  have hd := hn.dw
  replace HB : Hid (Below w.heap.size w u1) := below_dw HB.out HSw.out hd
  replace HC : Hid (Cn M u1 (some ⟨b, off, none⟩) n K V) := HC.out.dw HSM.out hd
  replace BX : BxP u1 B (.int .i64 0) (.int .i64 0) (.slice none 0 0) := BX.dw HBS.out hd
  replace HSr : Hid (Src u1 S a kk cap z (t + 1)) := hd.2
  refine hK.out _ _ (hS.dw HVS.out hd) (fun hS9 => ?_)
  try simp only [Act.put, List.setIfInBounds_toArray, List.set_cons_zero, List.set_cons_succ]
  clear hK K9 hS
  have hS := hS9
  clear hS9
  clear hn hd
  refine wpAnyE_ready (rs := [5]) (by kernel_rfl) (by simp) ?_
  refine AllReadyE.cons rfl (fun K9 hK => ?_) AllReadyE.nil
  go_simp
  refine (l1Next_any S a kk cap z (t + 1) 32 u1 (by omega) (by omega) HSr.out).mono ?_
  rintro e u2 ⟨v2, rfl, -, hn⟩
  have hd := hn.dw
  replace HB : Hid (Below w.heap.size w u2) := below_dw HB.out HSw.out hd
  replace HC : Hid (Cn M u2 (some ⟨b, off, none⟩) n K V) := HC.out.dw HSM.out hd
  replace BX : BxP u2 B (.int .i64 0) (.int .i64 0) (.slice none 0 0) := BX.dw HBS.out hd
  replace HSr : Hid (Src u2 S a kk cap z (t + 1 + 1)) := hd.2
  refine hK.out _ _ (hS.dw HVS.out hd) (fun hS9 => ?_)
  try simp only [Act.put, List.setIfInBounds_toArray, List.set_cons_zero, List.set_cons_succ]
  clear hK K9 hS
  have hS := hS9
  clear hS9
  clear hn hd
  obtain ⟨F1, hF1⟩ : ∃ F : Nat → Int, F = fun i => if i = 0 then v1 else if i = 1 then v2 else if i = 2 then 32 else (-1) := ⟨_, rfl⟩
  refine wpAnyE_ready (rs := [6]) (by kernel_rfl) (by simp) ?_
  refine AllReadyE.cons rfl (fun K9 hK => ?_) AllReadyE.nil
  go_simp
  obtain ⟨u3, hW⟩ : ∃ y, y = u2.alloc (.cells #[.int .i64 v1, .int .i64 v2, .int .i64 32, .int .i64 (-1)] 2) := ⟨_, rfl⟩
  have hb : Below u2.heap.size u2 u3 := by rw [hW]; exact below_new _ _
  have hcl : ∀ i, i < 4 → u3.cell? ⟨u2.heap.size, 0 + i, none⟩ = some (.int .i64 (F1 i)) := fun i hi => by
    rw [hW]
    rcases i with - | - | - | - | i
    · simp [go_sem, hF1]
    · simp [go_sem, hF1]
    · simp [go_sem, hF1]
    · simp [go_sem, hF1]
    · omega
  have hbl : u2.heap.size < u3.heap.size := by rw [hW]; simp
  have hbs : u2.heap.size ≠ S := by have := HSr.out.lt; omega
  replace HB : Hid (Below w.heap.size w u3) := below_then HB.out hb
  replace HC : Hid (Cn M u3 (some ⟨b, off, none⟩) n K V) := HC.out.below hb
  replace BX : BxP u3 B (.int .i64 0) (.int .i64 0) (.slice none 0 0) := BX.below hb
  replace HSr : Hid (Src u3 S a kk cap z (t + 1 + 1)) := HSr.out.below hb
  have hS8 := hS.below hb
  rw [← hW]
  clear hW hb
  generalize u2.heap.size = D1 at *
  refine hK.out _ _ (hS8) (fun hS9 => ?_)
  try simp only [Act.put, List.setIfInBounds_toArray, List.set_cons_zero, List.set_cons_succ]
  clear hK K9 hS
  have hS := hS9
  clear hS9
  clear hS8 hF1
  refine wpAnyE_ready (rs := [7]) (by kernel_rfl) (by simp) ?_
  refine AllReadyE.cons rfl (fun K9 hK => ?_) AllReadyE.nil
  go_simp
  refine (l1Pick_any S a kk cap z (t + 1 + 1) D1 0 4 4 F1 u3 (by omega) (by omega) (by omega) hbs hbl hcl HSr.out).mono ?_
  rintro e u4 ⟨i, hi, rfl, hn⟩
  have hd := hn.dw
  replace HB : Hid (Below w.heap.size w u4) := below_dw HB.out HSw.out hd
  replace HC : Hid (Cn M u4 (some ⟨b, off, none⟩) n K V) := HC.out.dw HSM.out hd
  replace BX : BxP u4 B (.int .i64 0) (.int .i64 0) (.slice none 0 0) := BX.dw HBS.out hd
  replace HSr : Hid (Src u4 S a kk cap z (t + 1 + 1 + 1)) := hd.2
  refine hK.out _ _ (hS.dw HVS.out hd) (fun hS9 => ?_)
  try simp only [Act.put, List.setIfInBounds_toArray, List.set_cons_zero, List.set_cons_succ]
  clear hK K9 hS
  have hS := hS9
  clear hS9
  clear hn hd
  generalize F1 i = x at *
  clear hi hcl hbl hbs
  refine wpAnyE_ready (rs := [10]) (by kernel_rfl) (by simp) ?_
  refine AllReadyE.cons rfl (fun K9 hK => ?_) AllReadyE.nil
  go_simp
  refine (l1Next_any S a kk cap z (t + 1 + 1 + 1) 99 u4 (by omega) (by omega) HSr.out).mono ?_
  rintro e u5 ⟨v3, rfl, -, hn⟩
  have hd := hn.dw
  replace HB : Hid (Below w.heap.size w u5) := below_dw HB.out HSw.out hd
  replace HC : Hid (Cn M u5 (some ⟨b, off, none⟩) n K V) := HC.out.dw HSM.out hd
  replace BX : BxP u5 B (.int .i64 0) (.int .i64 0) (.slice none 0 0) := BX.dw HBS.out hd
  replace HSr : Hid (Src u5 S a kk cap z (t + 1 + 1 + 1 + 1)) := hd.2
  refine hK.out _ _ (hS.dw HVS.out hd) (fun hS9 => ?_)
  try simp only [Act.put, List.setIfInBounds_toArray, List.set_cons_zero, List.set_cons_succ]
  clear hK K9 hS
  have hS := hS9
  clear hS9
  clear hn hd
  obtain ⟨F2, hF2⟩ : ∃ F : Nat → Int, F = fun i => if i = 0 then v3 else if i = 1 then 9999 else if i = 2 then 10000 else (-1) := ⟨_, rfl⟩
  refine wpAnyE_ready (rs := [11]) (by kernel_rfl) (by simp) ?_
  refine AllReadyE.cons rfl (fun K9 hK => ?_) AllReadyE.nil
  go_simp
  obtain ⟨u6, hW⟩ : ∃ y, y = u5.alloc (.cells #[.int .i64 v3, .int .i64 9999, .int .i64 10000, .int .i64 (-1)] 2) := ⟨_, rfl⟩
  have hb : Below u5.heap.size u5 u6 := by rw [hW]; exact below_new _ _
  have hcl : ∀ i, i < 4 → u6.cell? ⟨u5.heap.size, 0 + i, none⟩ = some (.int .i64 (F2 i)) := fun i hi => by
    rw [hW]
    rcases i with - | - | - | - | i
    · simp [go_sem, hF2]
    · simp [go_sem, hF2]
    · simp [go_sem, hF2]
    · simp [go_sem, hF2]
    · omega
  have hbl : u5.heap.size < u6.heap.size := by rw [hW]; simp
  have hbs : u5.heap.size ≠ S := by have := HSr.out.lt; omega
  replace HB : Hid (Below w.heap.size w u6) := below_then HB.out hb
  replace HC : Hid (Cn M u6 (some ⟨b, off, none⟩) n K V) := HC.out.below hb
  replace BX : BxP u6 B (.int .i64 0) (.int .i64 0) (.slice none 0 0) := BX.below hb
  replace HSr : Hid (Src u6 S a kk cap z (t + 1 + 1 + 1 + 1)) := HSr.out.below hb
  have hS8 := hS.below hb
  rw [← hW]
  clear hW hb
  generalize u5.heap.size = D2 at *
  refine hK.out _ _ (hS8) (fun hS9 => ?_)
  try simp only [Act.put, List.setIfInBounds_toArray, List.set_cons_zero, List.set_cons_succ]
  clear hK K9 hS
  have hS := hS9
  clear hS9
  clear hS8 hF2
  refine wpAnyE_ready (rs := [12]) (by kernel_rfl) (by simp) ?_
  refine AllReadyE.cons rfl (fun K9 hK => ?_) AllReadyE.nil
  go_simp
  refine (l1Pick_any S a kk cap z (t + 1 + 1 + 1 + 1) D2 0 4 4 F2 u6 (by omega) (by omega) (by omega) hbs hbl hcl HSr.out).mono ?_
  rintro e u7 ⟨i, hi, rfl, hn⟩
  have hd := hn.dw
  replace HB : Hid (Below w.heap.size w u7) := below_dw HB.out HSw.out hd
  replace HC : Hid (Cn M u7 (some ⟨b, off, none⟩) n K V) := HC.out.dw HSM.out hd
  replace BX : BxP u7 B (.int .i64 0) (.int .i64 0) (.slice none 0 0) := BX.dw HBS.out hd
  replace HSr : Hid (Src u7 S a kk cap z (t + 1 + 1 + 1 + 1 + 1)) := hd.2
  refine hK.out _ _ (hS.dw HVS.out hd) (fun hS9 => ?_)
  try simp only [Act.put, List.setIfInBounds_toArray, List.set_cons_zero, List.set_cons_succ]
  clear hK K9 hS
  have hS := hS9
  clear hS9
  clear hn hd
  generalize F2 i = y at *
  clear hi hcl hbl hbs
  refine wpAnyE_ready (rs := [15]) (by kernel_rfl) (by simp) ?_
  refine AllReadyE.cons rfl (fun K9 hK => ?_) AllReadyE.nil
  go_simp
  refine (l1Next_any S a kk cap z (t + 1 + 1 + 1 + 1 + 1) 99 u7 (by omega) (by omega) HSr.out).mono ?_
  rintro e u8 ⟨v4, rfl, -, hn⟩
  have hd := hn.dw
  replace HB : Hid (Below w.heap.size w u8) := below_dw HB.out HSw.out hd
  replace HC : Hid (Cn M u8 (some ⟨b, off, none⟩) n K V) := HC.out.dw HSM.out hd
  replace BX : BxP u8 B (.int .i64 0) (.int .i64 0) (.slice none 0 0) := BX.dw HBS.out hd
  replace HSr : Hid (Src u8 S a kk cap z (t + 1 + 1 + 1 + 1 + 1 + 1)) := hd.2
  refine hK.out _ _ (hS.dw HVS.out hd) (fun hS9 => ?_)
  try simp only [Act.put, List.setIfInBounds_toArray, List.set_cons_zero, List.set_cons_succ]
  clear hK K9 hS
  have hS := hS9
  clear hS9
  clear hn hd
  obtain ⟨F3, hF3⟩ : ∃ F : Nat → Int, F = fun i => if i = 0 then v4 else if i = 1 then 1000001 else if i = 2 then (-1) else 7 := ⟨_, rfl⟩
  refine wpAnyE_ready (rs := [16]) (by kernel_rfl) (by simp) ?_
  refine AllReadyE.cons rfl (fun K9 hK => ?_) AllReadyE.nil
  go_simp
  obtain ⟨u9, hW⟩ : ∃ y, y = u8.alloc (.cells #[.int .i64 v4, .int .i64 1000001, .int .i64 (-1), .int .i64 7] 2) := ⟨_, rfl⟩
  have hb : Below u8.heap.size u8 u9 := by rw [hW]; exact below_new _ _
  have hcl : ∀ i, i < 4 → u9.cell? ⟨u8.heap.size, 0 + i, none⟩ = some (.int .i64 (F3 i)) := fun i hi => by
    rw [hW]
    rcases i with - | - | - | - | i
    · simp [go_sem, hF3]
    · simp [go_sem, hF3]
    · simp [go_sem, hF3]
    · simp [go_sem, hF3]
    · omega
  have hbl : u8.heap.size < u9.heap.size := by rw [hW]; simp
  have hbs : u8.heap.size ≠ S := by have := HSr.out.lt; omega
  replace HB : Hid (Below w.heap.size w u9) := below_then HB.out hb
  replace HC : Hid (Cn M u9 (some ⟨b, off, none⟩) n K V) := HC.out.below hb
  replace BX : BxP u9 B (.int .i64 0) (.int .i64 0) (.slice none 0 0) := BX.below hb
  replace HSr : Hid (Src u9 S a kk cap z (t + 1 + 1 + 1 + 1 + 1 + 1)) := HSr.out.below hb
  have hS8 := hS.below hb
  rw [← hW]
  clear hW hb
  generalize u8.heap.size = D3 at *
  refine hK.out _ _ (hS8) (fun hS9 => ?_)
  try simp only [Act.put, List.setIfInBounds_toArray, List.set_cons_zero, List.set_cons_succ]
  clear hK K9 hS
  have hS := hS9
  clear hS9
  clear hS8 hF3
  refine wpAnyE_ready (rs := [17]) (by kernel_rfl) (by simp) ?_
  refine AllReadyE.cons rfl (fun K9 hK => ?_) AllReadyE.nil
  go_simp
  refine (l1Pick_any S a kk cap z (t + 1 + 1 + 1 + 1 + 1 + 1) D3 0 4 4 F3 u9 (by omega) (by omega) (by omega) hbs hbl hcl HSr.out).mono ?_
  rintro e ue ⟨i, hi, rfl, hn⟩
  have hd := hn.dw
  replace HB : Hid (Below w.heap.size w ue) := below_dw HB.out HSw.out hd
  replace HC : Hid (Cn M ue (some ⟨b, off, none⟩) n K V) := HC.out.dw HSM.out hd
  replace BX : BxP ue B (.int .i64 0) (.int .i64 0) (.slice none 0 0) := BX.dw HBS.out hd
  replace HSr : Hid (Src ue S a kk cap z (t + 1 + 1 + 1 + 1 + 1 + 1 + 1)) := hd.2
  refine hK.out _ _ (hS.dw HVS.out hd) (fun hS9 => ?_)
  try simp only [Act.put, List.setIfInBounds_toArray, List.set_cons_zero, List.set_cons_succ]
  clear hK K9 hS
  have hS := hS9
  clear hS9
  clear hn hd
  generalize F3 i = q at *
  clear hi hcl hbl hbs
  refine wpAnyE_ready (rs := [18]) (by kernel_rfl) (by simp) ?_
  refine AllReadyE.cons rfl (fun K9 hK => ?_) AllReadyE.nil
  obtain ⟨q0, q1, q2, qf⟩ := BX
  have hSs := hS
  go_simp
  refine hK.out _ _ (hSs.set3 HNE.out) (fun hS9 => ?_)
  try simp only [Act.put, List.setIfInBounds_toArray, List.set_cons_zero, List.set_cons_succ]
  clear hK K9 hS
  have hS := hS9
  clear hS9
  refine wpAnyE_takeD (L := 999) (i := 19) (v := .int .i64 x) (some 3) rfl rfl (by kernel_rfl) (by kernel_rfl) (by kernel_rfl) (by kernel_rfl) (fun _ _ _ h => h) (Or.inl ⟨by kernel_rfl, by intro u hSu; go_simp⟩) hS ?_
  try simp only [Act.put, List.setIfInBounds_toArray, List.set_cons_zero, List.set_cons_succ]
  refine wpAnyE_takeD (L := 999) (i := 20) (v := .int .i64 y) (some 4) rfl rfl (by kernel_rfl) (by kernel_rfl) (by kernel_rfl) (by kernel_rfl) (fun _ _ _ h => h) (Or.inl ⟨by kernel_rfl, by intro u hSu; go_simp⟩) hS ?_
  try simp only [Act.put, List.setIfInBounds_toArray, List.set_cons_zero, List.set_cons_succ]
  refine wpAnyE_takeD (L := 999) (i := 21) (v := .int .i64 q) (some 5) rfl rfl (by kernel_rfl) (by kernel_rfl) (by kernel_rfl) (by kernel_rfl) (fun _ _ _ h => h) (Or.inl ⟨by kernel_rfl, by intro u hSu; go_simp⟩) hS ?_
  try simp only [Act.put, List.setIfInBounds_toArray, List.set_cons_zero, List.set_cons_succ]
  refine wpAnyE_done (by kernel_rfl) ?_ _
  go_simp
  have HF : Hid (∀ u0 u1 u2 : Value, CellsAt (((ue.setCell ⟨B, 0, none⟩ u0).setCell ⟨B, 1, none⟩ u1).setCell ⟨B, 2, none⟩ u2) (some ⟨b, off, none⟩) n K V ∧ Below w.heap.size w (((ue.setCell ⟨B, 0, none⟩ u0).setCell ⟨B, 1, none⟩ u1).setCell ⟨B, 2, none⟩ u2)) := fun u0 u1 u2 => ⟨(((HC.out.set HBM.out 0 u0).set HBM.out 1 u1).set HBM.out 2 u2).at, ((HB.out.setCell (p := ⟨B, 0, none⟩) HBW.out _).setCell (p := ⟨B, 1, none⟩) HBW.out _).setCell (p := ⟨B, 2, none⟩) HBW.out _⟩
  clear HC HB hS
  go_wp2_with fail
  exact bodyPost_ret (v := .tuple #[.agg #[.int .i64 id, .int .i64 ls, .slice (some ⟨b, off, none⟩) n rc], .int .i64 x, .int .i64 y, .int .i64 q]) (by simp [results, Try.results15, go_sem, *]) rfl ⟨id, ls, b, off, n, rc, K, V, x, y, q, rfl, HNC.out.1, HNC.out.2, (HF.out _ _ _).1, (HF.out _ _ _).2⟩
end Go.Proofs.Ytnhkjdcbaphfcaa
