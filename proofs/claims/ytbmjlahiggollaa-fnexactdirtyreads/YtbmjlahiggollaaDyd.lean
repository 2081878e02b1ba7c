/- DirtyReads: the model's side. -/
import Derived.Test.YtbmjlahiggollaaDyc
namespace Go.Proofs.Ytbmjlahiggollaa
open Go.RowKit Go.Deep
set_option linter.unusedVariables false
set_option maxRecDepth 20000

/-- Where the model stands: its answer lies in the box B, its list in blocks behind it. -/
structure SL (w : World) (B : Nat) (wr : World) (zs : List Int) (oa : Option Addr) (oc : Nat) : Prop where
  bel : Below w.heap.size w wr
  lt : w.heap.size < B
  lt2 : B < wr.heap.size
  res : Box2 wr w.heap.size (.int .i64 0) (.slice none 0 0) ∧ ∀ i, wr.frozen? ⟨w.heap.size, i, none⟩ = false
  box : Box2 wr B (.int .i64 0) (.slice oa zs.length oc) ∧ ∀ i, wr.frozen? ⟨B, i, none⟩ = false
  own : wr.ownsRow (B + 1) 2 1 (.slice oa zs.length oc) zs.length (il zs)
theorem SL.below {w wr w' : World} {B : Nat} {zs : List Int} {oa : Option Addr} {oc : Nat} (h : SL w B wr zs oa oc) (hb : Below wr.heap.size wr w') : SL w B w' zs oa oc := by
  have h1 := h.lt
  have h2 := h.lt2
  exact ⟨below_then h.bel hb, h1, Nat.lt_of_lt_of_le h2 hb.size, ⟨h.res.1.below hb, fun i => ((bcell hb).2 _ _ (by omega)).trans (h.res.2 i)⟩, ⟨h.box.1.below hb, fun i => ((bcell hb).2 _ _ h2).trans (h.box.2 i)⟩, own_belowI h.own hb⟩
theorem own_set {w : World} {base n s B o : Nat} {e : TypeId} {v u : Value} {xs : List Value} (h : w.ownsRow base e s v n xs) (hB : B < base) : (w.setCell ⟨B, o, none⟩ u).ownsRow base e s v n xs := by
  have hw : Writes B (B + 1) w (w.setCell ⟨B, o, none⟩ u) := (Writes.refl _ _ _).setCell (p := ⟨B, o, none⟩) (Nat.le_refl _) (Nat.lt_succ_self _) _
  exact ownI_keep h fun q hq => hw.block q (ownI_lt h q hq).2 (.inr (by have := (ownI_lt h q hq).1; omega))
theorem SL.store {w wr : World} {B : Nat} {zs us : List Int} {oa ua : Option Addr} {oc uc : Nat} (h : SL w B wr zs oa oc) (ho : wr.ownsRow (B + 1) 2 1 (.slice ua us.length uc) us.length (il us)) : SL w B (wr.setCell ⟨B, 1, none⟩ (.slice ua us.length uc)) us ua uc := by
  have h1 := h.lt
  have h2 := h.lt2
  have hw : Writes B (B + 1) wr (wr.setCell ⟨B, 1, none⟩ (.slice ua us.length uc)) := (Writes.refl _ _ _).setCell (p := ⟨B, 1, none⟩) (Nat.le_refl _) (Nat.lt_succ_self _) _
  refine ⟨Writes.below h.bel hw (by omega), h1, by simpa [World.setCell] using h2, ⟨?_, ?_⟩, ⟨⟨?_, ?_⟩, ?_⟩, own_set ho (by omega)⟩
  · have hq := hw.block w.heap.size (by omega) (.inl (by omega))
    exact ⟨(World.cell?_of_block (w := wr) (a := ⟨w.heap.size, 0, none⟩) hq).trans h.res.1.1, (World.cell?_of_block (w := wr) (a := ⟨w.heap.size, 1, none⟩) hq).trans h.res.1.2⟩
  · intro i
    have := h.res.2 i
    simpa [go_sem] using this
  · have := h.box.1.1
    simp [go_sem, this]
  · have := h.box.1.2
    simp [go_sem, this]
  · intro i
    have := h.box.2 i
    simpa [go_sem] using this

theorem drS_yes {R : Nat → Hp} {n k : Nat} (h : drH R n k = true) (h2 : (R k).t ∈ cmL R n) : drS R n (k + 1) = ri (drS R n k) (R k).t := by simp only [drS]; rw [if_pos (by simp [h, h2])]
theorem drS_no {R : Nat → Hp} {n k : Nat} (h : drH R n k = false ∨ (R k).t ∉ cmL R n) : drS R n (k + 1) = drS R n k := by
  simp only [drS]
  rw [if_neg]
  rcases h with h | h <;> simp [h]
set_option maxHeartbeats 8000000 in
theorem specDr_any (n : Nat) (R : Nat → Hp) (a : Option Addr) (w : World) (hn : n ≤ 1048576) (h : HopsAt w a n R) :
    Calls Try.prog 5 #[.slice a n n] w (IRes (hsC R n) (drS R n n) w) := by
  have HX : Hid (HopsAt w a n R) := h
  clear h
  go_enter Try.func5, Try.ntmps5
  go_wp2_with fail
  refine (specHf_any n R a _ hn (HX.out.below (below_new _ _))).mono ?_
  rintro e w1 ⟨rfl, hb1⟩
  have B2 := (Box2.new w (.int .i64 0) (.slice none 0 0) 26).below hb1
  have rf : ∀ i, w1.frozen? ⟨w.heap.size, i, none⟩ = false := fun i => ((bcell hb1).2 _ _ (by simp)).trans (by simp [go_sem])
  have HBW : Hid (Below w.heap.size w w1) := below_then (below_new _ _) hb1
  have hs1 : w.heap.size + 1 ≤ w1.heap.size := by have := hb1.size; rw [World.size_alloc] at this; exact this
  clear hb1
  by_cases hc : hsC R n = 0
  case neg =>
    obtain ⟨r0, r1⟩ := B2
    have hc2 : (hsC R n != 0) = true := by simp [hc]
    have HF : Hid (∀ w7, Below w.heap.size w w7 → IRes (hsC R n) (drS R n n) w (.returned (.agg #[.int .i64 (hsC R n), .slice none 0 0])) w7) := fun w7 hb => ires_bad hb hc
    clear hc
    generalize hsC R n = uu at *
    go_wp2_with fail
    refine bodyPost_ret (v := .agg #[.int .i64 uu, .slice none 0 0]) (by simp [results, Try.results5, go_sem, *]) rfl ?_
    refine HF.out _ ?_
    repeat (first | with_reducible exact HBW.out | with_reducible refine Below.setCell ?_ (by first | omega | (simp <;> omega)) _)
  have hn4 := hs_few hc
  have HC0 : Hid (hsC R n = 0) := hc
  rw [hc]
  clear hc
  have HS0 : Hid (SL w w1.heap.size (w1.alloc (.cells #[.int .i64 0, .slice none 0 0] 26)) (drS R n 0) none 0) := by
    refine ⟨below_then HBW.out (below_new _ _), by omega, by simp, ⟨B2.below (below_new _ _), fun i => ((bcell (below_new _ _)).2 _ _ (by omega)).trans (rf i)⟩, ⟨Box2.new _ _ _ _, fun i => by simp [go_sem]⟩, World.ownsRow_nil _ _ _ _⟩
  obtain ⟨r0, r1⟩ := B2
  go_wp2_with fail
  refine (l10Committed_any n R a n _ hn4 (HX.out.below HS0.out.bel)).mono ?_
  rintro e w2 ⟨v, rfl, hb2, ho2⟩
  obtain ⟨da, dc, rfl⟩ := row1_slice ho2
  have HS2 : Hid (SL w w1.heap.size w2 (drS R n 0) none 0) := HS0.out.below hb2
  have HO2 : Hid (w2.ownsRow (w1.heap.size + 1) 2 1 (.slice da (cmL R n).length dc) (cmL R n).length (il (cmL R n))) := by have h := ho2; rw [World.size_alloc] at h; exact h
  clear r0 r1 rf HBW HS0 hb2 ho2
  have HPL : Hid (∀ m c kd t wv, m ≤ n → HopsAt wv a m R → Calls Try.prog 16 #[.slice a m c, .int .i64 kd, .int .i64 t] wv fun e w' => e = .returned (.int .i64 (plc R kd t m)) ∧ w' = wv) := fun m c kd t wv hm h => l10Place_any m R a c kd t wv (by omega) h
  have HCL : Hid ((cmL R n).length ≤ 100000) := by have := cmL_len R n; show _ ≤ _; omega
  have HHA : Hid (∀ t wv, IntsAt wv da (cmL R n).length (zI (cmL R n)) → Calls Try.prog 15 #[.slice da (cmL R n).length dc, .int .i64 t] wv fun e w' => e = .returned (.bool (decide (t ∈ cmL R n))) ∧ w' = wv) := fun t wv h => l1Has_any (cmL R n) da dc t wv HCL.out h
  generalize w1.heap.size = B at *
  go_wp2_with fail
  go_loopw [6, 7] (fun i _ wr => ∃ (k : Nat) (oa : Option Addr) (oc : Nat), k ≤ n ∧ i = .int .i64 k ∧ Hid (SL w B wr (drS R n k) oa oc) ∧ Hid (wr.ownsRow (B + 1) 2 1 (.slice da (cmL R n).length dc) (cmL R n).length (il (cmL R n)))) (fun i _ _ => n - (intOf i).toNat)
  case atStart => exact ⟨0, none, 0, Nat.zero_le _, rfl, HS2, HO2⟩
  case round =>
    clear HS2 HO2
    obtain ⟨k, oa, oc, hk, rfl, HS, HO⟩ := hrel
    by_cases hlt : k < n
    · have hlt' : (k : Int) < (n : Int) := by omega
      have hk0 : (0 : Int) ≤ (k : Int) := by omega
      have hkn' : (k : Int) ≤ (n : Int) := by omega
      have HXW : Hid (HopsAt wr a n R) := HX.out.below HS.out.bel
      rcases HXW.out with h | ⟨bb, off, rfl, hl, hcc⟩
      · omega
      obtain ⟨x0, x1, x2, x3⟩ := hcc k hlt
      clear hcc
      have HDA : Hid (∀ o, IntsAt (wr.alloc o) da (cmL R n).length (zI (cmL R n))) := fun o => by
        obtain ⟨da', dc', hde, hoi⟩ := ownI_of_row HO.out
        obtain ⟨rfl, rfl⟩ : da' = da ∧ dc' = dc := by injection hde with e1 e2 e3; exact ⟨e1.symm, e3.symm⟩
        exact hoi.at.below (below_new _ _)
      have HNO : Hid (drH R n k = false ∨ (R k).t ∉ cmL R n → drS R n (k + 1) = drS R n k) := fun e => drS_no e
      have HYS : Hid (drH R n k = true → (R k).t ∈ cmL R n → drS R n (k + 1) = ri (drS R n k) (R k).t) := fun e e2 => drS_yes e e2
      have HDH : Hid (drH R n k = ((R k).k == 2 && (R k).o != (R k).t && decide (0 ≤ plc R 1 (R k).o n) && decide (plc R 4 (R k).o k < 0))) := rfl
      have HSN : Hid (∀ o, drS R n (k + 1) = drS R n k → SL w B (wr.alloc o) (drS R n (k + 1)) oa oc) := fun o e => by rw [e]; exact HS.out.below (below_new _ _)
      have HON : Hid (∀ o, (wr.alloc o).ownsRow (B + 1) 2 1 (.slice da (cmL R n).length dc) (cmL R n).length (il (cmL R n))) := fun o => own_belowI HO.out (below_new _ _)
      generalize R k = r at *
      obtain ⟨y0, y1, y2, y3⟩ := Box4.new wr (.int .i64 r.k) (.int .i64 r.t) (.int .i64 r.y) (.int .i64 r.o) 38
      obtain h1 | h1 := boolor (r.k != 2)
      · have HE := HNO.out (.inl (by rw [HDH.out]; have : (r.k == 2) = false := by simpa using h1
                                     simp [this]))
        clear HNO HYS HDH
        go_wp2_with fail
        go_roundw
        case rel => exact ⟨k + 1, oa, oc, hlt, by go_num, HSN.out _ HE, HON.out _⟩
        case measure => simp [intOf]; omega
      obtain h2 | h2 := boolor (r.o == r.t)
      · have HE := HNO.out (.inl (by rw [HDH.out]; have : (r.o != r.t) = false := by simpa using h2
                                     simp [this]))
        clear HNO HYS HDH
        go_wp2_with fail
        go_roundw
        case rel => exact ⟨k + 1, oa, oc, hlt, by go_num, HSN.out _ HE, HON.out _⟩
        case measure => simp [intOf]; omega
      obtain h3 | h3 := boolor (decide (r.t ∈ cmL R n))
      case inr =>
        have HE := HNO.out (.inr (by simpa using h3))
        clear HNO HYS HDH
        go_wp2_with (first | (go_at_call 15; refine (HHA.out r.t _ (HDA.out _)).mono ?_; rintro e w' ⟨rfl, hq⟩; have hq2 := hq.symm; clear hq; subst hq2))
        go_roundw
        case rel => exact ⟨k + 1, oa, oc, hlt, by go_num, HSN.out _ HE, HON.out _⟩
        case measure => simp [intOf]; omega
      obtain h4 | h4 := boolor (decide (plc R 1 r.o n < 0))
      · have HE := HNO.out (.inl (by rw [HDH.out]; have : decide (0 ≤ plc R 1 r.o n) = false := by simp at h4 ⊢; omega
                                     simp [this]))
        clear HNO HYS HDH
        go_wp2_with (first | (go_at_call 15; refine (HHA.out r.t _ (HDA.out _)).mono ?_; rintro e w' ⟨rfl, hq⟩; have hq2 := hq.symm; clear hq; subst hq2) | (go_at_call 16; refine (HPL.out n _ 1 r.o _ (Nat.le_refl _) (HXW.out.below (below_new _ _))).mono ?_; rintro e w' ⟨rfl, hq⟩; have hq2 := hq.symm; clear hq; subst hq2))
        go_roundw
        case rel => exact ⟨k + 1, oa, oc, hlt, by go_num, HSN.out _ HE, HON.out _⟩
        case measure => simp [intOf]; omega
      obtain h5 | h5 := boolor (decide (plc R 4 r.o k < 0))
      all_goals
        have HSA : Hid (∀ o, SL w B (wr.alloc o) (drS R n k) oa oc) := fun o => HS.out.below (below_new _ _)
        have HXA : Hid (∀ o, HopsAt (wr.alloc o) (some ⟨bb, off, none⟩) n R) := fun o => HXW.out.below (below_new _ _)
        go_wp2_with (first | (go_at_call 15; refine (HHA.out r.t _ (HDA.out _)).mono ?_; rintro e w' ⟨rfl, hq⟩; have hq2 := hq.symm; clear hq; subst hq2) | (go_at_call 16; refine (HPL.out n _ 1 r.o _ (Nat.le_refl _) (HXW.out.below (below_new _ _))).mono ?_; rintro e w' ⟨rfl, hq⟩; have hq2 := hq.symm; clear hq; subst hq2))
        have HSQ := HSA.out (.cells #[.int .i64 r.k, .int .i64 r.t, .int .i64 r.y, .int .i64 r.o] 38)
        have HXQ := HXA.out (.cells #[.int .i64 r.k, .int .i64 r.t, .int .i64 r.y, .int .i64 r.o] 38)
        have HOQ := HON.out (.cells #[.int .i64 r.k, .int .i64 r.t, .int .i64 r.y, .int .i64 r.o] 38)
        generalize wr.alloc (.cells #[.int .i64 r.k, .int .i64 r.t, .int .i64 r.y, .int .i64 r.o] 38) = wq at *
        replace HSQ : Hid (SL w B wq (drS R n k) oa oc) := HSQ
        replace HXQ : Hid (HopsAt wq (some ⟨bb, off, none⟩) n R) := HXQ
        replace HOQ : Hid (wq.ownsRow (B + 1) 2 1 (.slice da (cmL R n).length dc) (cmL R n).length (il (cmL R n))) := HOQ
        clear HSA HXA HON HSN HXW HDA HS HO x0 x1 x2 x3
        go_quiet (first | (go_at_call 16; exact Calls.quiet_of_same (HPL.out k _ 4 r.o _ hk ((HXQ.out.below (below_drewN (Below.refl _ _) _)).take hk))))
        have HSZ : Hid (SL w B (wq.drewN nq) (drS R n k) oa oc) := HSQ.out.below (below_drewN (Below.refl _ _) _)
        have HOZ : Hid ((wq.drewN nq).ownsRow (B + 1) 2 1 (.slice da (cmL R n).length dc) (cmL R n).length (il (cmL R n))) := own_belowI HOQ.out (below_drewN (Below.refl _ _) _)
        replace y0 := cell_below y0 (below_drewN (Below.refl wq.heap.size wq) nq)
        replace y1 := cell_below y1 (below_drewN (Below.refl wq.heap.size wq) nq)
        replace y2 := cell_below y2 (below_drewN (Below.refl wq.heap.size wq) nq)
        replace y3 := cell_below y3 (below_drewN (Below.refl wq.heap.size wq) nq)
        clear HSQ HXQ HOQ
        generalize wq.drewN nq = wz at *
        try rw [h5]
      · have HE := HYS.out (by
          rw [HDH.out]
          have e1 : (r.k == 2) = true := by simpa using h1
          have e2 : (r.o != r.t) = true := by simpa using h2
          have e4 : decide (0 ≤ plc R 1 r.o n) = true := by simp at h4 ⊢; omega
          rw [e1, e2, e4, h5]; rfl) (by simpa using h3)
        replace HE : Hid (drS R n (k + 1) = ri (drS R n k) r.t) := HE
        have HQL : Hid ((drS R n k).length ≤ 90000) := Nat.le_trans (drS_len R n k) (by omega)
        clear HNO HYS HDH h1 h2 h3 h4 h5
        obtain ⟨⟨b0, b1⟩, bf⟩ := HSZ.out.box
        go_wp2_with fail
        refine (l1Rise_own (drS R n k) r.t _ (B + 1) wz HSZ.out.lt2 HQL.out HSZ.out.own).mono ?_
        rintro e w5 ⟨u, rfl, hb5, ho5⟩
        obtain ⟨va, vc, rfl⟩ := row1_slice ho5
        have HS5 := HSZ.out.below hb5
        have HO5 := own_belowI HOZ.out hb5
        have HS6 : Hid (SL w B (w5.setCell ⟨B, 1, none⟩ (.slice va (ri (drS R n k) r.t).length vc)) (drS R n (k + 1)) va vc) := by show SL _ _ _ _ _ _; rw [HE.out]; exact HS5.store ho5
        have HO6 : Hid ((w5.setCell ⟨B, 1, none⟩ (.slice va (ri (drS R n k) r.t).length vc)).ownsRow (B + 1) 2 1 (.slice da (cmL R n).length dc) (cmL R n).length (il (cmL R n))) := own_set HO5 (Nat.lt_succ_self _)
        replace b0 := cell_below b0 hb5
        replace b1 := cell_below b1 hb5
        replace bf := HS5.box.2
        clear HS5 HO5 hb5 ho5 HSZ HOZ HE
        generalize (ri (drS R n k) r.t).length = ctl at *
        go_wp2_with fail
        go_roundw
        case rel => exact ⟨k + 1, va, vc, hlt, by go_num, HS6, HO6⟩
        case measure => simp [intOf]; omega
      · have HE := HNO.out (.inl (by rw [HDH.out, h5]; simp))
        have HS6 : Hid (SL w B wz (drS R n (k + 1)) oa oc) := by show SL _ _ _ _ _ _; rw [HE]; exact HSZ.out
        clear HNO HYS HDH HE HSZ
        go_wp2_with fail
        go_roundw
        case rel => exact ⟨k + 1, oa, oc, hlt, by go_num, HS6, HOZ⟩
        case measure => simp [intOf]; omega
    · have hkn : k = n := by omega
      have hnl : ¬ ((k : Int) < (n : Int)) := by omega
      have HF : Hid (∀ w7, Writes w.heap.size (w.heap.size + 1) wr w7 → w7.heap.size = wr.heap.size → IRes (hsC R n) (drS R n n) w (.returned (.agg #[.int .i64 0, .slice oa (drS R n k).length oc])) w7) := fun w7 hw hs7 => by
        have hO := HS.out.own
        have hl := HS.out.lt
        rw [hkn] at hO ⊢
        exact ires_ok (by rw [← hkn]; rw [hkn]; exact HC0.out) HS.out.bel (Nat.le_refl _) (Nat.le_succ _) (by omega) hO hw hs7
      obtain ⟨⟨r0, r1⟩, rf⟩ := HS.out.res
      obtain ⟨⟨b0, b1⟩, bf⟩ := HS.out.box
      clear HS hkn
      generalize (drS R n k).length = len at *
      go_wp2_with fail
      refine bodyPost_ret (v := .agg #[.int .i64 0, .slice oa len oc]) (by simp [results, Try.results5, go_sem, *]) rfl ?_
      refine HF.out _ ?_ ?_
      · repeat (first | with_reducible exact Writes.refl _ _ _ | with_reducible refine Writes.setCell ?_ (by first | omega | (simp <;> omega)) (by first | omega | (simp <;> omega)) _)
      · simp [World.setCell]
end Go.Proofs.Ytbmjlahiggollaa
