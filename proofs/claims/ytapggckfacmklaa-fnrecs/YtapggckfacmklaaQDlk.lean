/- Draws: spec.DrawAppendRec. -/
import Derived.Test.YtapggckfacmklaaQDlj
import Derived.Test.YtapggckfacmklaaQDrf
namespace Go.Proofs.Ytapggckfacmklaa
open Go.RowKit Go.Deep
set_option linter.unusedVariables false
set_option linter.unusedSimpArgs false
set_option maxRecDepth 20000

/-- A record's box, empty. -/
def BxE (w : World) (B : Nat) : Prop := C8 w B 0 ⟨0, 0, 0, false, 0, false, 0, 0⟩ ∧ ∀ i, w.frozen? ⟨B, i, none⟩ = false
theorem BxE.lt {w : World} {B : Nat} (h : BxE w B) : B < w.heap.size := Go.block_lt_of_cell h.1.1
theorem BxE.block {w w' : World} {B : Nat} (h : BxE w B) (e : w'.heap[B]? = w.heap[B]?) : BxE w' B := ⟨h.1.block e, fun i => (World.frozen?_of_block (w := w) (a := ⟨B, i, none⟩) e).trans (h.2 i)⟩
theorem BxE.below {w w' : World} {B : Nat} (h : BxE w B) (hb : Below w.heap.size w w') : BxE w' B := h.block (hb.block B h.lt)
theorem BxE.new (w : World) : BxE (w.alloc (.cells #[.int .i64 0, .int .i64 0, .int .i64 0, .bool false, .int .i64 0, .bool false, .int .i64 0, .int .i64 0] 37)) w.heap.size := by simp [BxE, C8, go_sem]
def DrawApA (w : World) (e : Ending) (w' : World) : Prop := ∃ (a1 a2 : Option Addr) (n1 c1 n2 c2 : Nat) (z1 z2 : Nat → Int) (r : Rc), e = .returned (.tuple #[.agg #[.slice a1 n1 c1, .slice a2 n2 c2], rV r]) ∧ n1 ≤ c1 ∧ n2 ≤ c2 ∧ Byt n1 z1 ∧ Byt n2 z2 ∧ n1 ≤ 4001 ∧ n2 ≤ 4002 ∧ BytesAt w' a1 n1 z1 ∧ BytesAt w' a2 n2 z2 ∧ Below w.heap.size w w'
set_option maxHeartbeats 16000000 in
theorem drawAp_any (a : Option Addr) (kk cap : Nat) (z : Nat → Int) (w : World) (hk : kk ≤ 1048576) (hz : Byt kk z) (h : BytesAt w a kk z) :
    Calls Try.prog 12 #[.slice a kk cap] w (DrawApA w) := by
  have HA : Hid (BytesAt w a kk z) := h
  have HZ : Hid (Byt kk z) := hz
  clear h hz
  go_enter Try.func12, Try.ntmps12
  go_wp2_with fail
  have hb0 : Below w.heap.size w ((w.alloc (.cells #[.slice none 0 0, .slice none 0 0] 25)).alloc (.cells #[.int .i64 0, .int .i64 0, .int .i64 0, .bool false, .int .i64 0, .bool false, .int .i64 0, .int .i64 0] 37)) := ((Below.refl _ _).alloc (Nat.le_refl _) _).alloc (by simp) _
  have BX := (BxL.new w (.slice none 0 0) (.slice none 0 0) 25).below (below_new _ (.cells #[.int .i64 0, .int .i64 0, .int .i64 0, .bool false, .int .i64 0, .bool false, .int .i64 0, .int .i64 0] 37))
  have BE := BxE.new (w.alloc (.cells #[.slice none 0 0, .slice none 0 0] 25))
  rw [World.size_alloc] at BE
  have HB : Hid (Below w.heap.size w ((w.alloc (.cells #[.slice none 0 0, .slice none 0 0] 25)).alloc (.cells #[.int .i64 0, .int .i64 0, .int .i64 0, .bool false, .int .i64 0, .bool false, .int .i64 0, .int .i64 0] 37))) := hb0
  have HA0 : Hid (BytesAt ((w.alloc (.cells #[.slice none 0 0, .slice none 0 0] 25)).alloc (.cells #[.int .i64 0, .int .i64 0, .int .i64 0, .bool false, .int .i64 0, .bool false, .int .i64 0, .int .i64 0] 37)) a kk z) := HA.out.below hb0
  obtain ⟨R3, hR3⟩ : ∃ B, B = w.heap.size + 1 := ⟨_, rfl⟩
  rw [← hR3] at BE ⊢
  obtain ⟨B, hB⟩ : ∃ B, B = w.heap.size := ⟨_, rfl⟩
  have HBW : Hid (w.heap.size ≤ B) := by show w.heap.size ≤ B; omega
  have HRW : Hid (w.heap.size ≤ R3 ∧ B ≠ R3) := by show w.heap.size ≤ R3 ∧ B ≠ R3; omega
  rw [← hB] at BX ⊢
  clear hb0
  generalize ((w.alloc (.cells #[.slice none 0 0, .slice none 0 0] 25)).alloc (.cells #[.int .i64 0, .int .i64 0, .int .i64 0, .bool false, .int .i64 0, .bool false, .int .i64 0, .int .i64 0] 37)) = w0 at *
  have hBl : B < w0.heap.size := BX.lt
  have hRl : R3 < w0.heap.size := BE.lt
  refine (l1Source_any a kk cap z w0 hk HZ.out HA0.out).mono ?_
  rintro e w1 ⟨rfl, hb1, hs1, hsrc⟩
  obtain ⟨S, hS⟩ : ∃ S, S = w0.heap.size := ⟨_, rfl⟩
  rw [← hS] at hsrc ⊢
  have hw0 := HB.out.size
  have HSw : Hid (w.heap.size ≤ S) := by show w.heap.size ≤ S; omega
  have HBS : Hid (B ≠ S ∧ R3 ≠ S) := by show B ≠ S ∧ R3 ≠ S; omega
  have HSr : Hid (Src w1 S a kk cap z 0) := hsrc
  replace BX := BX.below hb1
  replace BE := BE.below hb1
  replace HB : Hid (Below w.heap.size w w1) := below_then HB.out hb1
  clear hsrc hS hB hs1 hb1 HA HA0 hw0 hBl hRl HZ hR3
  go_wp2_with fail
  refine (l3Log_any S a kk cap z w1 HSr.out).mono ?_
  rintro e w2 ⟨a1, a2, n1, c1, n2, c2, t', M, z1, z2, rfl, hM, o1, o2, k1, k2, b1, b2, m1, m2, hdw, ht'⟩
  have HSM : Hid (S < M) := by have := HSr.out.lt; show S < M; omega
  have HBM : Hid (B < M ∧ R3 < M) := by have := BX.lt; have := BE.lt; show B < M ∧ R3 < M; omega
  have HC : Hid (Ga M w2 a1 n1 z1 a2 n2 z2) := ⟨La.of o1, La.of o2⟩
  have HK : Hid (n1 ≤ c1 ∧ n2 ≤ c2 ∧ Byt n1 z1 ∧ Byt n2 z2 ∧ n1 ≤ 4001 ∧ n2 ≤ 4002) := ⟨k1, k2, b1, b2, m1, m2⟩
  replace BX := BX.block (hdw.1.block B BX.lt (by have := HBS.out; omega))
  replace BE := BE.block (hdw.1.block R3 BE.lt (by have := HBS.out; omega))
  replace HB : Hid (Below w.heap.size w w2) := below_dwL HB.out HSw.out hdw
  obtain ⟨t, ht, HSr⟩ : ∃ t : Nat, t ≤ 400 ∧ Hid (Src w2 S a kk cap z t) := ⟨t', ht', hdw.2⟩
  clear o1 o2 k1 k2 b1 b2 m1 m2 hdw hM ht'
  go_upto_region 3 with fail
  obtain ⟨W, hW⟩ : ∃ y, y = w2.alloc (.cells #[.slice a1 n1 c1, .slice a2 n2 c2] 25) := ⟨_, rfl⟩
  have hb4 : Below w2.heap.size w2 W := by rw [hW]; exact below_new _ _
  have BV : Box2 W w2.heap.size (.slice a1 n1 c1) (.slice a2 n2 c2) := by rw [hW]; exact Box2.new _ _ _ _
  have hBl : B < w2.heap.size := BX.lt
  have hRl : R3 < w2.heap.size := BE.lt
  have hSl : S < w2.heap.size := HSr.out.lt
  have HVS : Hid (w2.heap.size ≠ S) := by show w2.heap.size ≠ S; omega
  have HNE : Hid (w2.heap.size ≠ B ∧ w2.heap.size ≠ R3) := by show w2.heap.size ≠ B ∧ w2.heap.size ≠ R3; omega
  replace BX := BX.below hb4
  replace BE := BE.below hb4
  replace HB : Hid (Below w.heap.size w W) := below_then HB.out hb4
  replace HC : Hid (Ga M W a1 n1 z1 a2 n2 z2) := HC.out.below hb4
  replace HSr : Hid (Src W S a kk cap z t) := HSr.out.below hb4
  rw [← hW]
  clear hW hb4 hBl hSl hRl
  generalize w2.heap.size = Q at *
  refine wp_region_E 999 (S := fun u => Box2 u Q (.slice a1 n1 c1) (.slice a2 n2 c2)) (by kernel_rfl) BV (fun hS => ?_)
  obtain ⟨u0, hu0⟩ : ∃ y, y = W.drew := ⟨_, rfl⟩
  replace HB : Hid (Below w.heap.size w u0) := by rw [hu0]; exact HB.out.drew
  replace HC : Hid (Ga M u0 a1 n1 z1 a2 n2 z2) := by rw [hu0]; exact HC.out.below ((Below.refl _ _).drew)
  replace BX : BxL u0 B (.slice none 0 0) (.slice none 0 0) := by rw [hu0]; exact BX.below ((Below.refl _ _).drew)
  replace BE : BxE u0 R3 := by rw [hu0]; exact BE.below ((Below.refl _ _).drew)
  replace HSr : Hid (Src u0 S a kk cap z t) := by rw [hu0]; exact HSr.out.below ((Below.refl _ _).drew)
  rw [← hu0] at hS ⊢
  clear hu0 BV
  refine wpAnyE_takeD (L := 999) (i := 0) (v := .agg #[.slice a1 n1 c1, .slice a2 n2 c2]) (some 10) rfl rfl (by kernel_rfl) (by kernel_rfl) (by kernel_rfl) (by kernel_rfl) (fun _ _ _ h => h) (Or.inl ⟨by kernel_rfl, by intro u hSu; obtain ⟨h0, h1⟩ := hSu; go_simp⟩) hS ?_
  try simp only [Act.put, List.setIfInBounds_toArray, List.set_cons_zero, List.set_cons_succ]
  refine wpAnyE_takeD (L := 999) (i := 1) (v := .pointer (some ⟨S, 0, none⟩)) (some 11) rfl rfl (by kernel_rfl) (by kernel_rfl) (by kernel_rfl) (by kernel_rfl) (fun _ _ _ h => h) (Or.inl ⟨by kernel_rfl, by intro u hSu; go_simp⟩) hS ?_
  try simp only [Act.put, List.setIfInBounds_toArray, List.set_cons_zero, List.set_cons_succ]
  refine wpAnyE_ready (rs := [2]) (by kernel_rfl) (by simp) ?_
  refine AllReadyE.cons rfl (fun K9 hK => ?_) AllReadyE.nil
  go_simp
  refine (l3Bent_any S a kk cap z t u0 (by omega) HSr.out).mono ?_
  rintro e ue ⟨r, t9, rfl, ht9, hd⟩
  replace HB : Hid (Below w.heap.size w ue) := below_dwL HB.out HSw.out hd
  replace HC : Hid (Ga M ue a1 n1 z1 a2 n2 z2) := HC.out.dw HSM.out hd
  replace BX : BxL ue B (.slice none 0 0) (.slice none 0 0) := BX.block (hd.1.block B BX.lt (by have := HBS.out; omega))
  replace BE : BxE ue R3 := BE.block (hd.1.block R3 BE.lt (by have := HBS.out; omega))
  obtain ⟨v0, v1, v2, v3, v4, v5, v6, v7⟩ := r
  unfold rV
  dsimp only
  refine hK.out _ _ (box2_dw hS HVS.out hd) (fun hS9 => ?_)
  try simp only [Act.put, List.setIfInBounds_toArray, List.set_cons_zero, List.set_cons_succ]
  clear hK K9 hS
  have hS := hS9
  clear hS9
  clear hd ht9 HSr
  refine wpAnyE_ready (rs := [3]) (by kernel_rfl) (by simp) ?_
  refine AllReadyE.cons rfl (fun K9 hK => ?_) AllReadyE.nil
  obtain ⟨q0, q1, qf⟩ := BX
  have hSs := hS
  go_simp
  refine hK.out _ _ (box2_set2 hSs HNE.out.1) (fun hS9 => ?_)
  try simp only [Act.put, List.setIfInBounds_toArray, List.set_cons_zero, List.set_cons_succ]
  clear hK K9 hS
  have hS := hS9
  clear hS9
  clear hSs
  obtain ⟨uf, hW⟩ : ∃ y, y = (ue.setCell ⟨B, 0, none⟩ (.slice a1 n1 c1)).setCell ⟨B, 1, none⟩ (.slice a2 n2 c2) := ⟨_, rfl⟩
  have BX : BxL uf B (.slice a1 n1 c1) (.slice a2 n2 c2) := by rw [hW]; exact BxL.set ⟨q0, q1, qf⟩ _ _
  have eR : uf.heap[R3]? = ue.heap[R3]? := by rw [hW]; exact (set_at (fun e => HRW.out.2 e.symm)).trans (set_at (fun e => HRW.out.2 e.symm))
  replace BE : BxE uf R3 := BE.block eR
  replace HC : Hid (Ga M uf a1 n1 z1 a2 n2 z2) := by rw [hW]; exact (HC.out.set HBM.out.1 0 _).set HBM.out.1 1 _
  replace HB : Hid (Below w.heap.size w uf) := by rw [hW]; exact (HB.out.setCell (p := ⟨B, 0, none⟩) HBW.out _).setCell (p := ⟨B, 1, none⟩) HBW.out _
  rw [← hW] at hS ⊢
  clear hW eR q0 q1 qf
  refine wpAnyE_ready (rs := [4]) (by kernel_rfl) (by simp) ?_
  refine AllReadyE.cons rfl (fun K9 hK => ?_) AllReadyE.nil
  obtain ⟨⟨e0, e1, e2, e3, e4, e5, e6, e7⟩, ef⟩ := BE
  rw [Nat.zero_add] at e1 e2 e3 e4 e5 e6 e7
  have hSs := hS
  have hQR := HNE.out.2
  have hBR := HRW.out.2
  have HBQ : Hid (((((((((uf.setCell ⟨R3, 0, none⟩ (.int .i64 v0)).setCell ⟨R3, 1, none⟩ (.int .i64 v1)).setCell ⟨R3, 2, none⟩ (.int .i64 v2)).setCell ⟨R3, 3, none⟩ (.bool v3)).setCell ⟨R3, 4, none⟩ (.int .i64 v4)).setCell ⟨R3, 5, none⟩ (.bool v5)).setCell ⟨R3, 6, none⟩ (.int .i64 v6)).setCell ⟨R3, 7, none⟩ (.int .i64 v7)).cell? ⟨Q, 0, none⟩ = uf.cell? ⟨Q, 0, none⟩ ∧ ((((((((uf.setCell ⟨R3, 0, none⟩ (.int .i64 v0)).setCell ⟨R3, 1, none⟩ (.int .i64 v1)).setCell ⟨R3, 2, none⟩ (.int .i64 v2)).setCell ⟨R3, 3, none⟩ (.bool v3)).setCell ⟨R3, 4, none⟩ (.int .i64 v4)).setCell ⟨R3, 5, none⟩ (.bool v5)).setCell ⟨R3, 6, none⟩ (.int .i64 v6)).setCell ⟨R3, 7, none⟩ (.int .i64 v7)).cell? ⟨Q, 1, none⟩ = uf.cell? ⟨Q, 1, none⟩) := by
    constructor <;> (repeat rw [World.cell?_setCell_other _ _ _ _ (by simp [hQR])])
  have HF : Hid (Ga M ((((((((uf.setCell ⟨R3, 0, none⟩ (.int .i64 v0)).setCell ⟨R3, 1, none⟩ (.int .i64 v1)).setCell ⟨R3, 2, none⟩ (.int .i64 v2)).setCell ⟨R3, 3, none⟩ (.bool v3)).setCell ⟨R3, 4, none⟩ (.int .i64 v4)).setCell ⟨R3, 5, none⟩ (.bool v5)).setCell ⟨R3, 6, none⟩ (.int .i64 v6)).setCell ⟨R3, 7, none⟩ (.int .i64 v7)) a1 n1 z1 a2 n2 z2 ∧ Below w.heap.size w ((((((((uf.setCell ⟨R3, 0, none⟩ (.int .i64 v0)).setCell ⟨R3, 1, none⟩ (.int .i64 v1)).setCell ⟨R3, 2, none⟩ (.int .i64 v2)).setCell ⟨R3, 3, none⟩ (.bool v3)).setCell ⟨R3, 4, none⟩ (.int .i64 v4)).setCell ⟨R3, 5, none⟩ (.bool v5)).setCell ⟨R3, 6, none⟩ (.int .i64 v6)).setCell ⟨R3, 7, none⟩ (.int .i64 v7))) := ⟨(((((((HC.out.set HBM.out.2 0 _).set HBM.out.2 1 _).set HBM.out.2 2 _).set HBM.out.2 3 _).set HBM.out.2 4 _).set HBM.out.2 5 _).set HBM.out.2 6 _).set HBM.out.2 7 _, (((((((HB.out.setCell (p := ⟨R3, 0, none⟩) HRW.out.1 _).setCell (p := ⟨R3, 1, none⟩) HRW.out.1 _).setCell (p := ⟨R3, 2, none⟩) HRW.out.1 _).setCell (p := ⟨R3, 3, none⟩) HRW.out.1 _).setCell (p := ⟨R3, 4, none⟩) HRW.out.1 _).setCell (p := ⟨R3, 5, none⟩) HRW.out.1 _).setCell (p := ⟨R3, 6, none⟩) HRW.out.1 _).setCell (p := ⟨R3, 7, none⟩) HRW.out.1 _⟩
  clear HC HB
  go_simp
  refine hK.out _ _ (⟨HBQ.out.1.trans hSs.1, HBQ.out.2.trans hSs.2⟩) (fun hS9 => ?_)
  try simp only [Act.put, List.setIfInBounds_toArray, List.set_cons_zero, List.set_cons_succ]
  clear hK K9 hS
  have hS := hS9
  clear hS9
  clear hSs hS HBQ
  refine wpAnyE_done (by kernel_rfl) ?_ _
  go_simp
  obtain ⟨k1, k2, b1, b2, m1, m2⟩ := HK.out
  obtain ⟨p0, p1, pf⟩ := BX
  go_wp2_with fail
  exact bodyPost_ret (v := .tuple #[.agg #[.slice a1 n1 c1, .slice a2 n2 c2], .agg #[.int .i64 v0, .int .i64 v1, .int .i64 v2, .bool v3, .int .i64 v4, .bool v5, .int .i64 v6, .int .i64 v7]]) (by simp [results, Try.results12, go_sem, *]) rfl ⟨a1, a2, n1, c1, n2, c2, z1, z2, ⟨v0, v1, v2, v3, v4, v5, v6, v7⟩, rfl, k1, k2, b1, b2, m1, m2, HF.out.1.p.at, HF.out.1.q.at, HF.out.2⟩
end Go.Proofs.Ytapggckfacmklaa
