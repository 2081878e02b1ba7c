/- impl.workOn. -/
import Derived.Test.YtannmobmmnoegaaGreatQZeb
import Derived.Test.YtannmobmmnoegaaGreatQZeh
namespace Go.Proofs.YtannmobmmnoegaaGreat
open Go.ChangeShapes Go.WideShapes Go.ChangeAt Go.RowKit Go.Deep Go.Joins
set_option linter.unusedVariables false
set_option maxRecDepth 20000

/-- What a copied store's pieces look like. -/
theorem Pce.forms {t : Sto} {lo : Nat} {col : Nat → Nat} {v s1 s2 s3 s4 hv ov : Value} {w : World} (H : Pce t lo col true true t.pn v s1 s2 s3 s4 hv ov w) : ∃ b0 e0 b1 e1 b2 e2 b3 e3 b4 e4 b5 e5 b6 e6, v = .slice b0 t.pn e0 ∧ s1 = .slice b1 t.d.n e1 ∧ s2 = .slice b2 t.d.m e2 ∧ s3 = .slice b3 t.g.n1 e3 ∧ s4 = .slice b4 t.g.n2 e4 ∧ hv = .slice b5 t.hn e5 ∧ ov = .slice b6 t.on e6 := by
  obtain ⟨h1, ⟨q1, q2⟩, ⟨r1, r2⟩, ⟨M, top, m1, m2, m3, m4⟩, hd, hg⟩ := H
  obtain ⟨b0, e0, p0, -⟩ := m4.own
  obtain ⟨b1, e1, b2, e2, _, _, p1, p2, -⟩ := hd rfl
  obtain ⟨b3, e3, b4, e4, _, _, p3, p4, -⟩ := hg rfl
  obtain ⟨b5, e5, p5, -⟩ := row_form q1
  obtain ⟨b6, e6, p6, -⟩ := row_form r1
  exact ⟨b0, e0, b1, e1, b2, e2, b3, e3, b4, e4, b5, e5, b6, e6, p0, p1, p2, p3, p4, p5, p6⟩
/-- A store's copy at work: the copy, its records and how a record is appended, in one box. -/
def WRes (t : Sto) (w : World) (e : Ending) (w' : World) : Prop :=
  ∃ B b0 e0 b1 e1 b2 e2 b3 e3 b4 e4 b5 e5 b6 e6 ra rc col, e = .returned (.pointer (some ⟨B, 0, none⟩)) ∧ Below w.heap.size w w' ∧ w.heap.size ≤ B ∧ BoxS w' B (.int .i64 t.nx) (.slice b0 t.pn e0) (.slice b1 t.d.n e1) (.slice b2 t.d.m e2) (.slice b3 t.g.n1 e3) (.slice b4 t.g.n2 e4) (.slice b5 t.hn e5) (.slice b6 t.on e6) ∧ w'.cell? ⟨B, 8, none⟩ = some (.slice ra (cnt (aZ t.g) (t.g.n1 + t.g.n2)) rc) ∧ w'.cell? ⟨B, 9, none⟩ = some (.func (Fn.func 170) #[] #[]) ∧ (∀ i, w'.frozen? ⟨B, i, none⟩ = false) ∧ col B = 0 ∧ Pce t w.heap.size col true true t.pn (.slice b0 t.pn e0) (.slice b1 t.d.n e1) (.slice b2 t.d.m e2) (.slice b3 t.g.n1 e3) (.slice b4 t.g.n2 e4) (.slice b5 t.hn e5) (.slice b6 t.on e6) w' ∧ w'.ownsRow w.heap.size 67 8 (.slice ra (cnt (aZ t.g) (t.g.n1 + t.g.n2)) rc) (cnt (aZ t.g) (t.g.n1 + t.g.n2)) (rvs (aZ t.g) (cnt (aZ t.g) (t.g.n1 + t.g.n2))) ∧ ∀ q, (Value.slice ra (cnt (aZ t.g) (t.g.n1 + t.g.n2)) rc).ownBlock = some q → col q = 6
set_option maxHeartbeats 16000000 in
theorem workOn_any (t : Sto) (a0 : Option Addr) (c0 : Nat) (a1 : Option Addr) (c1 : Nat) (a2 : Option Addr) (c2 : Nat) (a3 : Option Addr) (c3 : Nat) (a4 : Option Addr) (c4 : Nat) (a5 : Option Addr) (c5 : Nat) (a6 : Option Addr) (c6 : Nat) (w : World) (hS : SmSt t) (hG : GoodSt t) (hby : LogByt t.g) (h : InSt w a0 a1 a2 a3 a4 a5 a6 t) :
    Calls Tryz.prog 107 #[.agg #[.int .i64 t.nx, .slice a0 t.pn c0, .slice a1 t.d.n c1, .slice a2 t.d.m c2, .slice a3 t.g.n1 c3, .slice a4 t.g.n2 c4, .slice a5 t.hn c5, .slice a6 t.on c6]] w (WRes t w) := by
  have HA : Hid (InSt w a0 a1 a2 a3 a4 a5 a6 t) := h
  have HS : Hid (SmSt t) := hS
  have HGD : Hid (GoodSt t) := hG
  have HBY : Hid (LogByt t.g) := hby
  clear h hS hG hby
  go_enter Tryz.func107, Tryz.ntmps107
  go_upto_region 1 with fail
  obtain ⟨W, hW⟩ : ∃ x, x = w.alloc (.cells #[.int .i64 t.nx, .slice a0 t.pn c0, .slice a1 t.d.n c1, .slice a2 t.d.m c2, .slice a3 t.g.n1 c3, .slice a4 t.g.n2 c4, .slice a5 t.hn c5, .slice a6 t.on c6] 42) := ⟨_, rfl⟩
  have hbW : Below w.heap.size w W := by rw [hW]; exact below_new _ _
  have BX : BoxS W w.heap.size (.int .i64 t.nx) (.slice a0 t.pn c0) (.slice a1 t.d.n c1) (.slice a2 t.d.m c2) (.slice a3 t.g.n1 c3) (.slice a4 t.g.n2 c4) (.slice a5 t.hn c5) (.slice a6 t.on c6) := by rw [hW]; exact BoxS.new _ _ _ _ _ _ _ _ _ _
  rw [← hW]
  clear hW
  refine wp_region_E 8 (S := fun u => BoxS u w.heap.size (.int .i64 t.nx) (.slice a0 t.pn c0) (.slice a1 t.d.n c1) (.slice a2 t.d.m c2) (.slice a3 t.g.n1 c3) (.slice a4 t.g.n2 c4) (.slice a5 t.hn c5) (.slice a6 t.on c6)) (by kernel_rfl) (BX.below ((Below.refl _ _).drew)) (fun hS => ?_)
  obtain ⟨y0, hy0⟩ : ∃ y, y = W.drew := ⟨_, rfl⟩
  have hby : Below W.heap.size W y0 := by rw [hy0]; exact (Below.refl _ _).drew
  rw [← hy0] at hS ⊢
  clear hy0 BX
  have HBY0 : Hid (Below w.heap.size w y0) := below_then hbW hby
  replace HA : Hid (InSt y0 a0 a1 a2 a3 a4 a5 a6 t) := HA.out.below HBY0.out
  clear hby hbW
  refine wpAnyE_takeD (L := 8) (i := 0) (v := .agg #[.int .i64 t.nx, .slice a0 t.pn c0, .slice a1 t.d.n c1, .slice a2 t.d.m c2, .slice a3 t.g.n1 c3, .slice a4 t.g.n2 c4, .slice a5 t.hn c5, .slice a6 t.on c6]) (some 3) rfl rfl (by kernel_rfl) (by kernel_rfl) (by kernel_rfl) (by kernel_rfl) (fun _ _ _ h => h) (Or.inl ⟨by kernel_rfl, by intro u hSu; obtain ⟨h0, h1, h2, h3, h4, h5, h6, h7⟩ := hSu; go_simp⟩) hS ?_
  try simp only [Act.put, List.setIfInBounds_toArray, List.set_cons_zero, List.set_cons_succ]
  refine wpAnyE_takeD (L := 8) (i := 2) (v := .pointer (some ⟨w.heap.size, 4, none⟩)) (some 5) rfl rfl (by kernel_rfl) (by kernel_rfl) (by kernel_rfl) (by kernel_rfl) (fun _ _ _ h => h) (Or.inl ⟨by kernel_rfl, by intro u hSu; go_simp⟩) hS ?_
  try simp only [Act.put, List.setIfInBounds_toArray, List.set_cons_zero, List.set_cons_succ]
  refine wpAnyE_takeD (L := 8) (i := 3) (v := .agg #[.slice a3 t.g.n1 c3, .slice a4 t.g.n2 c4]) (some 6) rfl rfl (by kernel_rfl) (by kernel_rfl) (by kernel_rfl) (by kernel_rfl) (fun _ _ _ h => h) (Or.inl ⟨by kernel_rfl, by intro u hSu; obtain ⟨h0, h1, h2, h3, h4, h5, h6, h7⟩ := hSu; go_simp⟩) hS ?_
  try simp only [Act.put, List.setIfInBounds_toArray, List.set_cons_zero, List.set_cons_succ]
  refine wpAnyE_ready (rs := [1]) (by kernel_rfl) (by simp) ?_
  refine AllReadyE.cons rfl (fun K9 hK => ?_) AllReadyE.nil
  go_simp
  refine (copyStore_any t a0 c0 a1 c1 a2 c2 a3 c3 a4 c4 a5 c5 a6 c6 y0 HS.out HGD.out HA.out).mono ?_
  rintro e w1 ⟨v, s1, s2, s3, s4, hv, ov, col, rfl, hb1, hpc⟩
  obtain ⟨b0, e0, b1, e1, b2, e2, b3, e3, b4, e4, b5, e5, b6, e6, rfl, rfl, rfl, rfl, rfl, rfl, rfl⟩ := hpc.forms
  have HPC : Hid (Pce t y0.heap.size col true true t.pn (.slice b0 t.pn e0) (.slice b1 t.d.n e1) (.slice b2 t.d.m e2) (.slice b3 t.g.n1 e3) (.slice b4 t.g.n2 e4) (.slice b5 t.hn e5) (.slice b6 t.on e6) w1) := hpc
  have HB1 : Hid (Below y0.heap.size y0 w1) := hb1
  clear hpc
  refine hK.out _ _ (hS.below hb1) (fun hS9 => ?_)
  try simp only [Act.put, List.setIfInBounds_toArray, List.set_cons_zero, List.set_cons_succ]
  clear hK K9 hS
  have hS := hS9
  clear hS9
  clear hb1
  refine wpAnyE_ready (rs := [4]) (by kernel_rfl) (by simp) ?_
  refine AllReadyE.cons rfl (fun K9 hK => ?_) AllReadyE.nil
  go_simp
  refine (recsOf_row t.g a3 a4 c3 c4 w1 HGD.out.lg HBY.out (HA.out.2.2.1.below HB1.out)).mono ?_
  rintro e w2 ⟨ra, rc, us, rfl, hb2, ho2⟩
  have HB2 : Hid (Below w1.heap.size w1 w2) := hb2
  have HO2 : Hid (w2.ownsRow w1.heap.size 67 8 (.slice ra (cnt (aZ t.g) (t.g.n1 + t.g.n2)) rc) (cnt (aZ t.g) (t.g.n1 + t.g.n2)) (rvs (aZ t.g) (cnt (aZ t.g) (t.g.n1 + t.g.n2)))) := ho2
  clear ho2
  refine hK.out _ _ (hS.below hb2) (fun hS9 => ?_)
  try simp only [Act.put, List.setIfInBounds_toArray, List.set_cons_zero, List.set_cons_succ]
  clear hK K9 hS
  have hS := hS9
  clear hS9
  clear hb2
  have hf : ∀ (us : Int) (ra : Option Addr) (n rc : Nat) (u : World), (Instr.field 163 (.agg #[.int .i64 0, .int .i64 us, .slice ra n rc]) 2).run Tryz.prog u = .ok (.slice ra n rc) u := fun _ _ _ _ _ => by kernel_rfl
  refine wpAnyE_ready (rs := [5]) (by kernel_rfl) (by simp) ?_
  refine AllReadyE.cons rfl (fun K9 hK => ?_) AllReadyE.nil
  go_simp
  refine hK.out _ _ (hS) (fun hS9 => ?_)
  try simp only [Act.put, List.setIfInBounds_toArray, List.set_cons_zero, List.set_cons_succ]
  clear hK K9 hS
  have hS := hS9
  clear hS9
  clear hf
  refine wpAnyE_ready (rs := [6]) (by kernel_rfl) (by simp) ?_
  refine AllReadyE.cons rfl (fun K9 hK => ?_) AllReadyE.nil
  go_simp
  refine hK.out _ _ (hS) (fun hS9 => ?_)
  try simp only [Act.put, List.setIfInBounds_toArray, List.set_cons_zero, List.set_cons_succ]
  clear hK K9 hS
  have hS := hS9
  clear hS9
  refine wpAnyE_ready (rs := [7]) (by kernel_rfl) (by simp) ?_
  refine AllReadyE.cons rfl (fun K9 hK => ?_) AllReadyE.nil
  go_simp
  refine hK.out _ _ (hS.below (below_new _ _)) (fun hS9 => ?_)
  try simp only [Act.put, List.setIfInBounds_toArray, List.set_cons_zero, List.set_cons_succ]
  clear hK K9 hS
  have hS := hS9
  clear hS9
  refine wpAnyE_ready (rs := [8]) (by kernel_rfl) (by simp) ?_
  refine AllReadyE.last rfl (fun K9 hK => ?_)
  go_simp
  refine hK.out _ _ ?_
  try simp only [Act.put, List.setIfInBounds_toArray, List.set_cons_zero, List.set_cons_succ]
  clear hK K9 hS
  refine wpAnyE_done (by kernel_rfl) ?_ _
  go_simp
  obtain ⟨W4, hW4⟩ : ∃ x, x = w2.alloc (.cells #[.int .i64 t.nx, .slice b0 t.pn e0, .slice b1 t.d.n e1, .slice b2 t.d.m e2, .slice b3 t.g.n1 e3, .slice b4 t.g.n2 e4, .slice b5 t.hn e5, .slice b6 t.on e6, .slice ra (cnt (aZ t.g) (t.g.n1 + t.g.n2)) rc, .func (Fn.func 170) #[] #[]] 81) := ⟨_, rfl⟩
  have hb4 : Below w2.heap.size w2 W4 := by rw [hW4]; exact below_new _ _
  have hs4 : W4.heap.size = w2.heap.size + 1 := by rw [hW4]; simp
  have hs0 := HBY0.out.size
  have hs1 := HB1.out.size
  have hs2 := HB2.out.size
  have hb14 := below_then HB2.out hb4
  have hfin : WRes t w (.returned (.pointer (some ⟨w2.heap.size, 0, none⟩))) W4 := by
    have hc0 := HPC.out.hc
    have c0 : col w2.heap.size = 0 := by
      by_cases e : col w2.heap.size = 0
      · exact e
      · have := (hc0 _ e).2; omega
    refine ⟨w2.heap.size, b0, e0, b1, e1, b2, e2, b3, e3, b4, e4, b5, e5, b6, e6, ra, rc, colr col w1.heap.size w2.heap.size 6, rfl, below_then (below_then HBY0.out HB1.out) hb14, by omega, by rw [hW4]; simp [BoxS], by rw [hW4]; simp [go_sem], by rw [hW4]; simp [go_sem], fun i => by rw [hW4]; simp [go_sem], by unfold colr; rw [if_neg (by omega)]; exact c0, ?_, ?_, fun q hq => colr_new (HO2.out.lt q hq).1 (HO2.out.lt q hq).2⟩
    · have p1 := HPC.out.keep hb14.size fun x _ hl => hb14.block x hl
      refine (p1.recol (col' := colr col w1.heap.size w2.heap.size 6) (fun x hx => ?_) (fun x hx => colr_old (hc0 x hx).2)).low hs0
      by_cases q : w1.heap.size ≤ x ∧ x < w2.heap.size
      · omega
      · unfold colr at hx; rw [if_neg q] at hx; have := hc0 x hx; omega
    · exact row_low (ownsRow_of HO2.out fun q hq => hb4.block q (HO2.out.lt q hq).2) (by omega)
  have HFIN : Hid (WRes t w (.returned (.pointer (some ⟨w2.heap.size, 0, none⟩))) W4) := hfin
  rw [← hW4]
  clear hW4 hfin hb4 hb14 HPC HO2
  go_wp2_with fail
  go_ret
  exact HFIN.out
end Go.Proofs.YtannmobmmnoegaaGreat
