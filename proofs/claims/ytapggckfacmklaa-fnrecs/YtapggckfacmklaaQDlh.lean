/- Draws of logs: spec.l3Log. -/
import Derived.Test.YtapggckfacmklaaQDlg
namespace Go.Proofs.Ytapggckfacmklaa
open Go.RowKit Go.Deep
set_option linter.unusedVariables false
set_option linter.unusedSimpArgs false
set_option maxRecDepth 20000

/-- What comes of l3Append. -/
theorem ap_cases {w u u2 : World} {S : Nat} {a : Option Addr} {kk cap : Nat} {z : Nat → Int} {t Rr B : Nat} {a1 a2 : Option Addr} {c1 c2 : Nat} {xs ys : List Int} {r : Rc} {e : Ending} (h : LG w u S a kk cap z t Rr B (.slice a1 xs.length c1) (.slice a2 ys.length c2) xs ys)
    (hap : ApA (loOf xs ys) a1 a2 c1 c2 (rb r.k r.t r.key r.hd r.old r.hs r.nw r.bk) u e u2) (hs : xs.length + ys.length ≤ 4000) (hby : BytL xs ∧ BytL ys) (hg : GoodR r.k r.t r.key r.hd r.old r.hs r.nw r.bk) :
    ∃ y1 y2 xs2 ys2 cc, e = .returned (.tuple #[.agg #[y1, y2], .int .i64 cc]) ∧ Below u.heap.size u u2 ∧ (Two (B + 1) u2 y1 y2 xs2 ys2 ∧ ((y1 = .slice a1 xs.length c1 ∧ y2 = .slice a2 ys.length c2) ∨ ((∀ q, y1.ownBlock = some q → u.heap.size ≤ q) ∧ ∀ q, y2.ownBlock = some q → u.heap.size ≤ q))) ∧ (cc = 0 → xs2.length + ys2.length ≤ 4000 ∧ BytL xs2 ∧ BytL ys2) := by
  obtain ⟨hb, ⟨h1, rfl⟩ | ⟨h1, x1, d1, x2, d2, rfl, h2⟩⟩ := hap
  · exact ⟨_, _, xs, ys, 2, rfl, hb, ⟨h.two.below hb, .inl ⟨rfl, rfl⟩⟩, fun e => by omega⟩
  · have e1 : zL (loOf xs ys).z1 (loOf xs ys).n1 = xs := zL_zOf xs
    have e2 : zL (loOf xs ys).z2 (loOf xs ys).n2 = ys := zL_zOf ys
    rw [e1, e2] at h2
    have hB := h.b.lt
    refine ⟨_, _, xs, ys ++ rb r.k r.t r.key r.hd r.old r.hs r.nw r.bk, 0, rfl, hb, ⟨h2.down (by omega), .inr ⟨fun q hq => by have := (own_lt2 h2.1 q hq).1; omega, fun q hq => by have := (own_lt2 h2.2.1 q hq).1; omega⟩⟩, fun _ => ⟨?_, hby.1, hby.2.app (rb_byt _ _ _ _ _ _ _ _)⟩⟩
    have : xs.length + ys.length + 13 ≤ 4000 := h1
    rw [List.length_append, rb_len]
    omega
def LogA (S : Nat) (a : Option Addr) (kk cap : Nat) (z : Nat → Int) (w : World) (e : Ending) (w' : World) : Prop :=
  ∃ (a1 a2 : Option Addr) (n1 c1 n2 c2 t' M : Nat) (z1 z2 : Nat → Int), e = .returned (.agg #[.slice a1 n1 c1, .slice a2 n2 c2]) ∧ w.heap.size ≤ M ∧ OwnB w' M w'.heap.size a1 n1 z1 ∧ OwnB w' M w'.heap.size a2 n2 z2 ∧ n1 ≤ c1 ∧ n2 ≤ c2 ∧ Byt n1 z1 ∧ Byt n2 z2 ∧ n1 ≤ 4001 ∧ n2 ≤ 4002 ∧ Dw S a kk cap z t' w w' ∧ t' ≤ 400
/-- The answer is set. -/
theorem log_fin {w uz : World} {S : Nat} {a : Option Addr} {kk cap : Nat} {z : Nat → Int} {t Rr B : Nat} {a1 a2 : Option Addr} {n1 c1 n2 c2 : Nat} {z1 z2 : Nat → Int} (h : LE w uz S a kk cap z t Rr B a1 n1 c1 a2 n2 c2 z1 z2) (ht : t ≤ 400) (x0 x1 : Value) : LogA S a kk cap z w (.returned (.agg #[.slice a1 n1 c1, .slice a2 n2 c2])) ((uz.setCell ⟨Rr, 0, none⟩ x0).setCell ⟨Rr, 1, none⟩ x1) := by
  have k1 := h.hS
  have k2 := h.o1
  have k3 := h.o2
  have hR := h.r.lt
  have hw : Writes Rr (Rr + 1) uz ((uz.setCell ⟨Rr, 0, none⟩ x0).setCell ⟨Rr, 1, none⟩ x1) := Writes.setCell (p := ⟨Rr, 1, none⟩) (Writes.setCell (p := ⟨Rr, 0, none⟩) (Writes.refl _ _ _) (Nat.le_refl _) (Nat.lt_succ_self _) _) (Nat.le_refl _) (Nat.lt_succ_self _) _
  have hz : ((uz.setCell ⟨Rr, 0, none⟩ x0).setCell ⟨Rr, 1, none⟩ x1).heap.size = uz.heap.size := by rw [size_set, size_set]
  refine ⟨a1, a2, n1, c1, n2, c2, t, B + 1, z1, z2, rfl, by omega, ?_, ?_, h.k1, h.k2, h.b1, h.b2, h.m1, h.m2, dw_off (dw_off h.d (by omega) k1 0 x0) (by omega) k1 1 x1, ht⟩
  · rw [hz]; exact h.p.writes hw (.inr (by omega))
  · rw [hz]; exact h.q.writes hw (.inr (by omega))
set_option maxHeartbeats 32000000 in
theorem l3Log_any (S : Nat) (a : Option Addr) (kk cap : Nat) (z : Nat → Int) (w : World) (h : Src w S a kk cap z 0) :
    Calls Try.prog 19 #[.pointer (some ⟨S, 0, none⟩)] w (LogA S a kk cap z w) := by
  have HS : Hid (Src w S a kk cap z 0) := h
  have hSl := h.lt
  clear h
  go_enter Try.func19, Try.ntmps19
  go_upto_region 2 with fail
  obtain ⟨W, hW⟩ : ∃ y, y = (w.alloc (.cells #[.slice none 0 0, .slice none 0 0] 25)).alloc (.cells #[.slice none 0 0, .slice none 0 0] 25) := ⟨_, rfl⟩
  have HL : Hid (LG w W S a kk cap z 0 w.heap.size (w.heap.size + 1) (.slice none 0 0) (.slice none 0 0) [] []) := by
    have hb : Below w.heap.size w W := by rw [hW]; exact ((Below.refl _ _).alloc (Nat.le_refl _) _).alloc (by simp) _
    refine ⟨HS.out.self.below hb, ?_, ?_, ⟨World.ownsRow_nil _ _ _ _, World.ownsRow_nil _ _ _ _, fun q e => by simp [Value.ownBlock] at e⟩, hSl, Nat.le_refl _, by omega⟩
    · rw [hW]
      have := BxL.new (w.alloc (.cells #[.slice none 0 0, .slice none 0 0] 25)) (.slice none 0 0) (.slice none 0 0) 25
      rw [World.size_alloc] at this
      exact this
    · rw [hW]; exact (BxL.new w _ _ _).below (below_new _ _)
  rw [← hW]
  clear hW HS hSl
  generalize w.heap.size + 1 = B at *
  obtain ⟨Rr, hRr⟩ : ∃ x, x = w.heap.size := ⟨_, rfl⟩
  rw [← hRr] at HL ⊢
  clear hRr
  go_wp2_with fail
  refine (l1Next_any S a kk cap z 0 9 _ (by omega) (by omega) HL.out.d.src).mono ?_
  rintro e w1 ⟨k0, rfl, hk0, hn⟩
  replace HL : Hid (LG w w1 S a kk cap z 1 Rr B (.slice none 0 0) (.slice none 0 0) [] []) := HL.out.dw hn.dw
  obtain ⟨q0, rfl⟩ : ∃ q : Nat, k0 = (q : Int) := ⟨k0.toNat, by have := hk0.1; omega⟩
  have hq9 : q0 ≤ 9 := by have := hk0.2.1 (by omega); omega
  clear hk0 hn
  go_wp2_with fail
  go_loopw [4, 5, 6] (fun k _ _ wr => ∃ (q : Nat) (v1 v2 : Value) (xs ys : List Int) (t' : Nat), k = .int .i64 (q : Int) ∧ q ≤ 9 ∧ t' + 30 * q ≤ 280 ∧ Hid (LG w wr S a kk cap z t' Rr B v1 v2 xs ys) ∧ Hid (xs.length + ys.length ≤ 4000) ∧ Hid (BytL xs ∧ BytL ys)) (fun k _ _ _ => (intOf k).toNat)
  case atStart => exact ⟨q0, _, _, _, _, 1, rfl, hq9, by omega, HL, by show _ ≤ _; simp, ⟨fun z hz => by simp at hz, fun z hz => by simp at hz⟩⟩
  case round =>
    clear HL hq9
    obtain ⟨q, v1, v2, xs, ys, t1, rfl, hq9, ht1, HL, HSUM, HBYT⟩ := hrel
    obtain ⟨a1, c1, a2, c2, rfl, rfl, hxc, hyc, -⟩ := HL.out.two.log
    by_cases hq0 : 0 < q
    · obtain ⟨q, rfl⟩ : ∃ p, q = p + 1 := ⟨q - 1, by omega⟩
      clear hq0
      have hqi : (0 : Int) < (q : Int) + 1 := by omega
      go_upto_region 5 with fail
      refine wp_region_E 999 (S := fun u => Box2 u B (.slice a1 xs.length c1) (.slice a2 ys.length c2)) (by kernel_rfl) ⟨HL.out.b.1, HL.out.b.2.1⟩ (fun hS => ?_)
      obtain ⟨u0, hu0⟩ : ∃ y, y = wr.drew := ⟨_, rfl⟩
      replace HL : Hid (LG w u0 S a kk cap z (t1) Rr B (.slice a1 xs.length c1) (.slice a2 ys.length c2) xs ys) := by rw [hu0]; exact HL.out.below ((Below.refl _ _).drew)
      rw [← hu0] at hS ⊢
      clear hu0
      refine wpAnyE_takeD (L := 999) (i := 0) (v := .agg #[.slice a1 xs.length c1, .slice a2 ys.length c2]) (some 15) rfl rfl (by kernel_rfl) (by kernel_rfl) (by kernel_rfl) (by kernel_rfl) (fun _ _ _ h => h) (Or.inl ⟨by kernel_rfl, by intro u hSu; obtain ⟨h0, h1⟩ := hSu; go_simp⟩) hS ?_
      try simp only [Act.put, List.setIfInBounds_toArray, List.set_cons_zero, List.set_cons_succ]
      refine wpAnyE_takeD (L := 999) (i := 1) (v := .pointer (some ⟨S, 0, none⟩)) (some 16) rfl rfl (by kernel_rfl) (by kernel_rfl) (by kernel_rfl) (by kernel_rfl) (fun _ _ _ h => h) (Or.inl ⟨by kernel_rfl, by intro u hSu; go_simp⟩) hS ?_
      try simp only [Act.put, List.setIfInBounds_toArray, List.set_cons_zero, List.set_cons_succ]
      refine wpAnyE_ready (rs := [2, 7]) (by kernel_rfl) (by simp) ?_
      refine AllReadyE.cons rfl (fun K9 hK => ?_) (AllReadyE.cons rfl (fun K9 hK => ?_) AllReadyE.nil)
      · go_simp
        refine (l3Rec_good S a kk cap z (t1) u0 (by omega) HL.out.d.src).mono ?_
        rintro e u1 ⟨r, t9, rfl, ht9, hd, hgr⟩
        have HGR : Hid (GoodR r.k r.t r.key r.hd r.old r.hs r.nw r.bk) := hgr
        have HT9 : Hid (t9 ≤ t1 + 20) := ht9
        have hS8 : Box2 u1 B (.slice a1 xs.length c1) (.slice a2 ys.length c2) := by
          have h8 := (HL.out.dw hd).b
          exact ⟨h8.1, h8.2.1⟩
        replace HL : Hid (LG w u1 S a kk cap z (t9) Rr B (.slice a1 xs.length c1) (.slice a2 ys.length c2) xs ys) := HL.out.dw hd
        refine hK.out _ _ (hS8) (fun hS9 => ?_)
        try simp only [Act.put, List.setIfInBounds_toArray, List.set_cons_zero, List.set_cons_succ]
        clear hK K9 hS
        have hS := hS9
        clear hS9
        clear hS8 hd hgr ht9
        refine wpAnyE_ready (rs := [3, 7]) (by kernel_rfl) (by simp) ?_
        refine AllReadyE.cons rfl (fun K9 hK => ?_) (AllReadyE.cons rfl (fun K9 hK => ?_) AllReadyE.nil)
        · go_simp
          obtain ⟨b1, e1, b2, e2, hv1, hv2, -, -, hlog⟩ := HL.out.two.log
          simp only [Value.slice.injEq, true_and] at hv1 hv2
          obtain ⟨rfl, rfl⟩ := hv1
          obtain ⟨rfl, rfl⟩ := hv2
          refine (l3Append_any (loOf xs ys) a1 a2 c1 c2 r.k r.t r.key r.hd r.old r.hs r.nw r.bk u1 HSUM.out HGR.out hlog).mono ?_
          intro e u2 hap
          obtain ⟨y1, y2, xs2, ys2, cc, rfl, hb, HN0, HCC0⟩ := ap_cases HL.out hap HSUM.out HBYT.out HGR.out
          have HN : Hid (Two (B + 1) u2 y1 y2 xs2 ys2) := HN0.1
          have HCC : Hid (cc = 0 → xs2.length + ys2.length ≤ 4000 ∧ BytL xs2 ∧ BytL ys2) := HCC0
          replace HL : Hid (LG w u2 S a kk cap z (t9) Rr B (.slice a1 xs.length c1) (.slice a2 ys.length c2) xs ys) := HL.out.below hb
          have hS8 : Box2 u2 B (.slice a1 xs.length c1) (.slice a2 ys.length c2) := hS.below hb
          refine hK.out _ _ (hS8) (fun hS9 => ?_)
          try simp only [Act.put, List.setIfInBounds_toArray, List.set_cons_zero, List.set_cons_succ]
          clear hK K9 hS
          have hS := hS9
          clear hS9
          clear hS8 HN0 HCC0 hap hlog hb
          refine wpAnyE_takeD (L := 999) (i := 4) (v := .tuple #[.agg #[y1, y2], .int .i64 cc]) (some 14) rfl rfl (by kernel_rfl) (by kernel_rfl) (by kernel_rfl) (by kernel_rfl) (fun _ _ _ h => h) (Or.inl ⟨by kernel_rfl, by intro u hSu; go_simp⟩) hS ?_
          try simp only [Act.put, List.setIfInBounds_toArray, List.set_cons_zero, List.set_cons_succ]
          refine wpAnyE_takeD (L := 999) (i := 5) (v := .agg #[y1, y2]) (some 19) rfl rfl (by kernel_rfl) (by kernel_rfl) (by kernel_rfl) (by kernel_rfl) (fun _ _ _ h => h) (Or.inl ⟨by kernel_rfl, by intro u hSu; go_simp⟩) hS ?_
          try simp only [Act.put, List.setIfInBounds_toArray, List.set_cons_zero, List.set_cons_succ]
          refine wpAnyE_takeD (L := 999) (i := 6) (v := .int .i64 cc) (some 20) rfl rfl (by kernel_rfl) (by kernel_rfl) (by kernel_rfl) (by kernel_rfl) (fun _ _ _ h => h) (Or.inl ⟨by kernel_rfl, by intro u hSu; go_simp⟩) hS ?_
          try simp only [Act.put, List.setIfInBounds_toArray, List.set_cons_zero, List.set_cons_succ]
          refine wpAnyE_ready (rs := [7]) (by kernel_rfl) (by simp) ?_
          refine AllReadyE.cons rfl (fun K9 hK => ?_) AllReadyE.nil
          go_simp
          obtain ⟨u3, hW⟩ : ∃ y, y = u2.alloc (.cells #[.slice none 0 0, .slice none 0 0] 25) := ⟨_, rfl⟩
          have hb : Below u2.heap.size u2 u3 := by rw [hW]; exact below_new _ _
          have BD : BxL u3 u2.heap.size (.slice none 0 0) (.slice none 0 0) := by rw [hW]; exact BxL.new _ _ _ _
          have HBD : Hid (B < u2.heap.size) := HL.out.b.lt
          have HV : Hid ((Value.slice a1 xs.length c1).ownBlock ≠ some u2.heap.size ∧ (Value.slice a2 ys.length c2).ownBlock ≠ some u2.heap.size) := ⟨fun e => by have := (own_lt2 HL.out.two.1 _ e).2; omega, fun e => by have := (own_lt2 HL.out.two.2.1 _ e).2; omega⟩
          have HX : Hid (y1.ownBlock ≠ some u2.heap.size ∧ y2.ownBlock ≠ some u2.heap.size) := ⟨fun e => by have := (own_lt2 HN.out.1 _ e).2; omega, fun e => by have := (own_lt2 HN.out.2.1 _ e).2; omega⟩
          replace HN : Hid (Two (B + 1) u3 y1 y2 xs2 ys2) := HN.out.below hb
          replace HL : Hid (LG w u3 S a kk cap z (t9) Rr B (.slice a1 xs.length c1) (.slice a2 ys.length c2) xs ys) := HL.out.below hb
          have hS8 : Box2 u3 B (.slice a1 xs.length c1) (.slice a2 ys.length c2) := hS.below hb
          rw [← hW]
          clear hW hb
          generalize u2.heap.size = D at *
          refine hK.out _ _ (hS8) (fun hS9 => ?_)
          try simp only [Act.put, List.setIfInBounds_toArray, List.set_cons_zero, List.set_cons_succ]
          clear hK K9 hS
          have hS := hS9
          clear hS9
          clear hS8
          refine wpAnyE_ready (rs := [8]) (by kernel_rfl) (by simp) ?_
          refine AllReadyE.cons rfl (fun K9 hK => ?_) AllReadyE.nil
          obtain ⟨d0, d1, df⟩ := BD
          have hSs := hS
          have hDB : B ≠ D := Nat.ne_of_lt HBD.out
          obtain ⟨xa, xc, xa2, xc2, rfl, rfl, -, -, -⟩ := HN.out.log
          go_simp
          refine hK.out _ _ (⟨(World.cell?_setCell_other _ _ _ _ (by simp [hDB])).trans ((World.cell?_setCell_other _ _ _ _ (by simp [hDB])).trans hSs.1), (World.cell?_setCell_other _ _ _ _ (by simp [hDB])).trans ((World.cell?_setCell_other _ _ _ _ (by simp [hDB])).trans hSs.2)⟩) (fun hS9 => ?_)
          try simp only [Act.put, List.setIfInBounds_toArray, List.set_cons_zero, List.set_cons_succ]
          clear hK K9 hS
          have hS := hS9
          clear hS9 hSs hDB
          refine wpAnyE_takeD (L := 999) (i := 9) (v := .int .i64 cc) (some 6) rfl rfl (by kernel_rfl) (by kernel_rfl) (by kernel_rfl) (by kernel_rfl) (fun _ _ _ h => h) (Or.inl ⟨by kernel_rfl, by intro u hSu; go_simp⟩) hS ?_
          try simp only [Act.put, List.setIfInBounds_toArray, List.set_cons_zero, List.set_cons_succ]
          refine wpAnyE_done (by kernel_rfl) ?_ _
          go_simp
          obtain ⟨uf, hW⟩ : ∃ y, y = (u3.setCell ⟨D, 0, none⟩ (.slice xa xs2.length xc)).setCell ⟨D, 1, none⟩ (.slice xa2 ys2.length xc2) := ⟨_, rfl⟩
          have hLf := ((HL.out.off (i := 0) (x := .slice xa xs2.length xc) HBD.out HV.out.1 HV.out.2).off (i := 1) (x := .slice xa2 ys2.length xc2) HBD.out HV.out.1 HV.out.2)
          have hNf := (HN.out.off (i := 0) (x := .slice xa xs2.length xc) HX.out.1 HX.out.2).off (i := 1) (x := .slice xa2 ys2.length xc2) HX.out.1 HX.out.2
          have BD : BxL uf D (.slice xa xs2.length xc) (.slice xa2 ys2.length xc2) := by rw [hW]; exact BxL.set ⟨d0, d1, df⟩ _ _
          rw [← hW] at hLf hNf ⊢
          replace HL : Hid (LG w uf S a kk cap z (t9) Rr B (.slice a1 xs.length c1) (.slice a2 ys.length c2) xs ys) := hLf
          replace HN : Hid (Two (B + 1) uf (.slice xa xs2.length xc) (.slice xa2 ys2.length xc2) xs2 ys2) := hNf
          clear hW hLf hNf d0 d1 df hS HV HX
          by_cases hcc : cc = 0
          · subst hcc
            obtain ⟨d0, d1, df⟩ := BD
            obtain ⟨f0, f1, ff⟩ := HL.out.b
            have HLN := HL.out.put HN.out
            replace HCC := HCC.out rfl
            have HSM2 : Hid (xs2.length + ys2.length ≤ 4000) := HCC.1
            have HBY2 : Hid (BytL xs2 ∧ BytL ys2) := HCC.2
            go_upto_region 8 with fail
            obtain ⟨ux, hW⟩ : ∃ y, y = (uf.setCell ⟨B, 0, none⟩ (.slice xa xs2.length xc)).setCell ⟨B, 1, none⟩ (.slice xa2 ys2.length xc2) := ⟨_, rfl⟩
            rw [← hW] at HLN ⊢
            replace HL : Hid (LG w ux S a kk cap z (t9) Rr B (.slice xa xs2.length xc) (.slice xa2 ys2.length xc2) xs2 ys2) := HLN
            clear hW HLN HN HCC d0 d1 df f0 f1 ff HSUM HBYT
            go_wp2_with fail
            refine (l1Chance_any S a kk cap z (t9) 3 _ (by have := HT9.out; omega) (by omega) HL.out.d.src).mono ?_
            rintro e ug ⟨bb, rfl, hn⟩
            replace HL : Hid (LG w ug S a kk cap z (t9 + 1) Rr B (.slice xa xs2.length xc) (.slice xa2 ys2.length xc2) xs2 ys2) := HL.out.dw hn.dw
            clear hn
            cases bb with
            | false =>
              go_wp2_with fail
              go_roundw
              case rel => exact ⟨q, _, _, _, _, t9 + 1, by go_num, by omega, by have := HT9.out; omega, HL, HSM2, HBY2⟩
              case measure => first | (simp [intOf]; done) | (simp [intOf]; omega)
            | true =>
              obtain ⟨f0, f1, ff⟩ := HL.out.b
              go_wp2_with fail
              obtain ⟨b1, e1, b2, e2, hv1, hv2, -, -, hlog⟩ := HL.out.two.log
              simp only [Value.slice.injEq, true_and] at hv1 hv2
              obtain ⟨rfl, rfl⟩ := hv1
              obtain ⟨rfl, rfl⟩ := hv2
              refine (l3Flush_own xs2 ys2 _ _ _ _ _ (by have := HSM2.out; omega) hlog).mono ?_
              rintro e uh ⟨x1, e9, rfl, hb, htw⟩
              have HTW : Hid (Two (B + 1) uh (.slice x1 (xs2 ++ ys2).length e9) (.slice none 0 0) (xs2 ++ ys2) []) := htw.down (by have := HL.out.b.lt; omega)
              replace HL : Hid (LG w uh S a kk cap z (t9 + 1) Rr B (.slice xa xs2.length xc) (.slice xa2 ys2.length xc2) xs2 ys2) := HL.out.below hb
              replace f0 := cell_below f0 hb
              replace f1 := cell_below f1 hb
              replace ff := HL.out.b.2.2
              have HLN := HL.out.put HTW.out
              have HLP : Hid (LG w _ S a kk cap z (t9 + 1) Rr B (.slice x1 (xs2 ++ ys2).length e9) (.slice none 0 0) (xs2 ++ ys2) []) := HLN
              have HSM3 : Hid ((xs2 ++ ys2).length + ([] : List Int).length ≤ 4000) := by have := HSM2.out; show _ ≤ _; simp; exact this
              have HBY3 : Hid (BytL (xs2 ++ ys2) ∧ BytL []) := ⟨HBY2.out.1.app HBY2.out.2, fun z hz => by simp at hz⟩
              clear hb htw hlog HTW HLN HL
              obtain ⟨zs, hzs⟩ : ∃ l, l = xs2 ++ ys2 := ⟨_, rfl⟩
              rw [← hzs] at HLP HSM3 HBY3 ⊢
              clear hzs
              go_wp2_with fail
              go_roundw
              case rel => exact ⟨q, _, _, _, _, t9 + 1, by go_num, by omega, by have := HT9.out; omega, HLP, HSM3, HBY3⟩
              case measure => first | (simp [intOf]; done) | (simp [intOf]; omega)
          · have hcc2 : (cc == 0) = false := by simp [hcc]
            have HSM2 : Hid (xs.length + ys.length ≤ 4000) := HSUM
            have HBY2 : Hid (BytL xs ∧ BytL ys) := HBYT
            clear hcc HN HCC BD
            go_wp2_with fail
            refine (l1Chance_any S a kk cap z (t9) 3 _ (by have := HT9.out; omega) (by omega) HL.out.d.src).mono ?_
            rintro e ug ⟨bb, rfl, hn⟩
            replace HL : Hid (LG w ug S a kk cap z (t9 + 1) Rr B (.slice a1 xs.length c1) (.slice a2 ys.length c2) xs ys) := HL.out.dw hn.dw
            clear hn
            cases bb with
            | false =>
              go_wp2_with fail
              go_roundw
              case rel => exact ⟨q, _, _, _, _, t9 + 1, by go_num, by omega, by have := HT9.out; omega, HL, HSM2, HBY2⟩
              case measure => first | (simp [intOf]; done) | (simp [intOf]; omega)
            | true =>
              obtain ⟨f0, f1, ff⟩ := HL.out.b
              go_wp2_with fail
              obtain ⟨b1, e1, b2, e2, hv1, hv2, -, -, hlog⟩ := HL.out.two.log
              simp only [Value.slice.injEq, true_and] at hv1 hv2
              obtain ⟨rfl, rfl⟩ := hv1
              obtain ⟨rfl, rfl⟩ := hv2
              refine (l3Flush_own xs ys _ _ _ _ _ (by have := HSM2.out; omega) hlog).mono ?_
              rintro e uh ⟨x1, e9, rfl, hb, htw⟩
              have HTW : Hid (Two (B + 1) uh (.slice x1 (xs ++ ys).length e9) (.slice none 0 0) (xs ++ ys) []) := htw.down (by have := HL.out.b.lt; omega)
              replace HL : Hid (LG w uh S a kk cap z (t9 + 1) Rr B (.slice a1 xs.length c1) (.slice a2 ys.length c2) xs ys) := HL.out.below hb
              replace f0 := cell_below f0 hb
              replace f1 := cell_below f1 hb
              replace ff := HL.out.b.2.2
              have HLN := HL.out.put HTW.out
              have HLP : Hid (LG w _ S a kk cap z (t9 + 1) Rr B (.slice x1 (xs ++ ys).length e9) (.slice none 0 0) (xs ++ ys) []) := HLN
              have HSM3 : Hid ((xs ++ ys).length + ([] : List Int).length ≤ 4000) := by have := HSM2.out; show _ ≤ _; simp; exact this
              have HBY3 : Hid (BytL (xs ++ ys) ∧ BytL []) := ⟨HBY2.out.1.app HBY2.out.2, fun z hz => by simp at hz⟩
              clear hb htw hlog HTW HLN HL
              obtain ⟨zs, hzs⟩ : ∃ l, l = xs ++ ys := ⟨_, rfl⟩
              rw [← hzs] at HLP HSM3 HBY3 ⊢
              clear hzs
              go_wp2_with fail
              go_roundw
              case rel => exact ⟨q, _, _, _, _, t9 + 1, by go_num, by omega, by have := HT9.out; omega, HLP, HSM3, HBY3⟩
              case measure => first | (simp [intOf]; done) | (simp [intOf]; omega)
        · go_simp
          obtain ⟨u2, hW⟩ : ∃ y, y = u1.alloc (.cells #[.slice none 0 0, .slice none 0 0] 25) := ⟨_, rfl⟩
          have hb : Below u1.heap.size u1 u2 := by rw [hW]; exact below_new _ _
          have BD : BxL u2 u1.heap.size (.slice none 0 0) (.slice none 0 0) := by rw [hW]; exact BxL.new _ _ _ _
          have HBD : Hid (B < u1.heap.size) := HL.out.b.lt
          have HV : Hid ((Value.slice a1 xs.length c1).ownBlock ≠ some u1.heap.size ∧ (Value.slice a2 ys.length c2).ownBlock ≠ some u1.heap.size) := ⟨fun e => by have := (own_lt2 HL.out.two.1 _ e).2; omega, fun e => by have := (own_lt2 HL.out.two.2.1 _ e).2; omega⟩
          replace HL : Hid (LG w u2 S a kk cap z (t9) Rr B (.slice a1 xs.length c1) (.slice a2 ys.length c2) xs ys) := HL.out.below hb
          have hS8 : Box2 u2 B (.slice a1 xs.length c1) (.slice a2 ys.length c2) := hS.below hb
          rw [← hW]
          clear hW hb
          generalize u1.heap.size = D at *
          refine hK.out _ _ (hS8) (fun hS9 => ?_)
          try simp only [Act.put, List.setIfInBounds_toArray, List.set_cons_zero, List.set_cons_succ]
          clear hK K9 hS
          have hS := hS9
          clear hS9
          clear hS8
          refine wpAnyE_ready (rs := [3]) (by kernel_rfl) (by simp) ?_
          refine AllReadyE.cons rfl (fun K9 hK => ?_) AllReadyE.nil
          go_simp
          obtain ⟨b1, e1, b2, e2, hv1, hv2, -, -, hlog⟩ := HL.out.two.log
          simp only [Value.slice.injEq, true_and] at hv1 hv2
          obtain ⟨rfl, rfl⟩ := hv1
          obtain ⟨rfl, rfl⟩ := hv2
          refine (l3Append_any (loOf xs ys) a1 a2 c1 c2 r.k r.t r.key r.hd r.old r.hs r.nw r.bk u2 HSUM.out HGR.out hlog).mono ?_
          intro e u3 hap
          obtain ⟨y1, y2, xs2, ys2, cc, rfl, hb, HN0, HCC0⟩ := ap_cases HL.out hap HSUM.out HBYT.out HGR.out
          have HN : Hid (Two (B + 1) u3 y1 y2 xs2 ys2) := HN0.1
          have HCC : Hid (cc = 0 → xs2.length + ys2.length ≤ 4000 ∧ BytL xs2 ∧ BytL ys2) := HCC0
          have HX : Hid (y1.ownBlock ≠ some D ∧ y2.ownBlock ≠ some D) := by
            rcases HN0.2 with ⟨rfl, rfl⟩ | hf
            · exact HV.out
            · have h9 := BD.lt
              exact ⟨fun e => by have := hf.1 D e; omega, fun e => by have := hf.2 D e; omega⟩
          replace BD : BxL u3 D (.slice none 0 0) (.slice none 0 0) := BD.below hb
          replace HL : Hid (LG w u3 S a kk cap z (t9) Rr B (.slice a1 xs.length c1) (.slice a2 ys.length c2) xs ys) := HL.out.below hb
          have hS8 : Box2 u3 B (.slice a1 xs.length c1) (.slice a2 ys.length c2) := hS.below hb
          refine hK.out _ _ (hS8) (fun hS9 => ?_)
          try simp only [Act.put, List.setIfInBounds_toArray, List.set_cons_zero, List.set_cons_succ]
          clear hK K9 hS
          have hS := hS9
          clear hS9
          clear hS8 HN0 HCC0 hap hlog hb
          refine wpAnyE_takeD (L := 999) (i := 4) (v := .tuple #[.agg #[y1, y2], .int .i64 cc]) (some 14) rfl rfl (by kernel_rfl) (by kernel_rfl) (by kernel_rfl) (by kernel_rfl) (fun _ _ _ h => h) (Or.inl ⟨by kernel_rfl, by intro u hSu; go_simp⟩) hS ?_
          try simp only [Act.put, List.setIfInBounds_toArray, List.set_cons_zero, List.set_cons_succ]
          refine wpAnyE_takeD (L := 999) (i := 5) (v := .agg #[y1, y2]) (some 19) rfl rfl (by kernel_rfl) (by kernel_rfl) (by kernel_rfl) (by kernel_rfl) (fun _ _ _ h => h) (Or.inl ⟨by kernel_rfl, by intro u hSu; go_simp⟩) hS ?_
          try simp only [Act.put, List.setIfInBounds_toArray, List.set_cons_zero, List.set_cons_succ]
          refine wpAnyE_takeD (L := 999) (i := 6) (v := .int .i64 cc) (some 20) rfl rfl (by kernel_rfl) (by kernel_rfl) (by kernel_rfl) (by kernel_rfl) (fun _ _ _ h => h) (Or.inl ⟨by kernel_rfl, by intro u hSu; go_simp⟩) hS ?_
          try simp only [Act.put, List.setIfInBounds_toArray, List.set_cons_zero, List.set_cons_succ]
          refine wpAnyE_ready (rs := [8]) (by kernel_rfl) (by simp) ?_
          refine AllReadyE.cons rfl (fun K9 hK => ?_) AllReadyE.nil
          obtain ⟨d0, d1, df⟩ := BD
          have hSs := hS
          have hDB : B ≠ D := Nat.ne_of_lt HBD.out
          obtain ⟨xa, xc, xa2, xc2, rfl, rfl, -, -, -⟩ := HN.out.log
          go_simp
          refine hK.out _ _ (⟨(World.cell?_setCell_other _ _ _ _ (by simp [hDB])).trans ((World.cell?_setCell_other _ _ _ _ (by simp [hDB])).trans hSs.1), (World.cell?_setCell_other _ _ _ _ (by simp [hDB])).trans ((World.cell?_setCell_other _ _ _ _ (by simp [hDB])).trans hSs.2)⟩) (fun hS9 => ?_)
          try simp only [Act.put, List.setIfInBounds_toArray, List.set_cons_zero, List.set_cons_succ]
          clear hK K9 hS
          have hS := hS9
          clear hS9 hSs hDB
          refine wpAnyE_takeD (L := 999) (i := 9) (v := .int .i64 cc) (some 6) rfl rfl (by kernel_rfl) (by kernel_rfl) (by kernel_rfl) (by kernel_rfl) (fun _ _ _ h => h) (Or.inl ⟨by kernel_rfl, by intro u hSu; go_simp⟩) hS ?_
          try simp only [Act.put, List.setIfInBounds_toArray, List.set_cons_zero, List.set_cons_succ]
          refine wpAnyE_done (by kernel_rfl) ?_ _
          go_simp
          obtain ⟨uf, hW⟩ : ∃ y, y = (u3.setCell ⟨D, 0, none⟩ (.slice xa xs2.length xc)).setCell ⟨D, 1, none⟩ (.slice xa2 ys2.length xc2) := ⟨_, rfl⟩
          have hLf := ((HL.out.off (i := 0) (x := .slice xa xs2.length xc) HBD.out HV.out.1 HV.out.2).off (i := 1) (x := .slice xa2 ys2.length xc2) HBD.out HV.out.1 HV.out.2)
          have hNf := (HN.out.off (i := 0) (x := .slice xa xs2.length xc) HX.out.1 HX.out.2).off (i := 1) (x := .slice xa2 ys2.length xc2) HX.out.1 HX.out.2
          have BD : BxL uf D (.slice xa xs2.length xc) (.slice xa2 ys2.length xc2) := by rw [hW]; exact BxL.set ⟨d0, d1, df⟩ _ _
          rw [← hW] at hLf hNf ⊢
          replace HL : Hid (LG w uf S a kk cap z (t9) Rr B (.slice a1 xs.length c1) (.slice a2 ys.length c2) xs ys) := hLf
          replace HN : Hid (Two (B + 1) uf (.slice xa xs2.length xc) (.slice xa2 ys2.length xc2) xs2 ys2) := hNf
          clear hW hLf hNf d0 d1 df hS HV HX
          by_cases hcc : cc = 0
          · subst hcc
            obtain ⟨d0, d1, df⟩ := BD
            obtain ⟨f0, f1, ff⟩ := HL.out.b
            have HLN := HL.out.put HN.out
            replace HCC := HCC.out rfl
            have HSM2 : Hid (xs2.length + ys2.length ≤ 4000) := HCC.1
            have HBY2 : Hid (BytL xs2 ∧ BytL ys2) := HCC.2
            go_upto_region 8 with fail
            obtain ⟨ux, hW⟩ : ∃ y, y = (uf.setCell ⟨B, 0, none⟩ (.slice xa xs2.length xc)).setCell ⟨B, 1, none⟩ (.slice xa2 ys2.length xc2) := ⟨_, rfl⟩
            rw [← hW] at HLN ⊢
            replace HL : Hid (LG w ux S a kk cap z (t9) Rr B (.slice xa xs2.length xc) (.slice xa2 ys2.length xc2) xs2 ys2) := HLN
            clear hW HLN HN HCC d0 d1 df f0 f1 ff HSUM HBYT
            go_wp2_with fail
            refine (l1Chance_any S a kk cap z (t9) 3 _ (by have := HT9.out; omega) (by omega) HL.out.d.src).mono ?_
            rintro e ug ⟨bb, rfl, hn⟩
            replace HL : Hid (LG w ug S a kk cap z (t9 + 1) Rr B (.slice xa xs2.length xc) (.slice xa2 ys2.length xc2) xs2 ys2) := HL.out.dw hn.dw
            clear hn
            cases bb with
            | false =>
              go_wp2_with fail
              go_roundw
              case rel => exact ⟨q, _, _, _, _, t9 + 1, by go_num, by omega, by have := HT9.out; omega, HL, HSM2, HBY2⟩
              case measure => first | (simp [intOf]; done) | (simp [intOf]; omega)
            | true =>
              obtain ⟨f0, f1, ff⟩ := HL.out.b
              go_wp2_with fail
              obtain ⟨b1, e1, b2, e2, hv1, hv2, -, -, hlog⟩ := HL.out.two.log
              simp only [Value.slice.injEq, true_and] at hv1 hv2
              obtain ⟨rfl, rfl⟩ := hv1
              obtain ⟨rfl, rfl⟩ := hv2
              refine (l3Flush_own xs2 ys2 _ _ _ _ _ (by have := HSM2.out; omega) hlog).mono ?_
              rintro e uh ⟨x1, e9, rfl, hb, htw⟩
              have HTW : Hid (Two (B + 1) uh (.slice x1 (xs2 ++ ys2).length e9) (.slice none 0 0) (xs2 ++ ys2) []) := htw.down (by have := HL.out.b.lt; omega)
              replace HL : Hid (LG w uh S a kk cap z (t9 + 1) Rr B (.slice xa xs2.length xc) (.slice xa2 ys2.length xc2) xs2 ys2) := HL.out.below hb
              replace f0 := cell_below f0 hb
              replace f1 := cell_below f1 hb
              replace ff := HL.out.b.2.2
              have HLN := HL.out.put HTW.out
              have HLP : Hid (LG w _ S a kk cap z (t9 + 1) Rr B (.slice x1 (xs2 ++ ys2).length e9) (.slice none 0 0) (xs2 ++ ys2) []) := HLN
              have HSM3 : Hid ((xs2 ++ ys2).length + ([] : List Int).length ≤ 4000) := by have := HSM2.out; show _ ≤ _; simp; exact this
              have HBY3 : Hid (BytL (xs2 ++ ys2) ∧ BytL []) := ⟨HBY2.out.1.app HBY2.out.2, fun z hz => by simp at hz⟩
              clear hb htw hlog HTW HLN HL
              obtain ⟨zs, hzs⟩ : ∃ l, l = xs2 ++ ys2 := ⟨_, rfl⟩
              rw [← hzs] at HLP HSM3 HBY3 ⊢
              clear hzs
              go_wp2_with fail
              go_roundw
              case rel => exact ⟨q, _, _, _, _, t9 + 1, by go_num, by omega, by have := HT9.out; omega, HLP, HSM3, HBY3⟩
              case measure => first | (simp [intOf]; done) | (simp [intOf]; omega)
          · have hcc2 : (cc == 0) = false := by simp [hcc]
            have HSM2 : Hid (xs.length + ys.length ≤ 4000) := HSUM
            have HBY2 : Hid (BytL xs ∧ BytL ys) := HBYT
            clear hcc HN HCC BD
            go_wp2_with fail
            refine (l1Chance_any S a kk cap z (t9) 3 _ (by have := HT9.out; omega) (by omega) HL.out.d.src).mono ?_
            rintro e ug ⟨bb, rfl, hn⟩
            replace HL : Hid (LG w ug S a kk cap z (t9 + 1) Rr B (.slice a1 xs.length c1) (.slice a2 ys.length c2) xs ys) := HL.out.dw hn.dw
            clear hn
            cases bb with
            | false =>
              go_wp2_with fail
              go_roundw
              case rel => exact ⟨q, _, _, _, _, t9 + 1, by go_num, by omega, by have := HT9.out; omega, HL, HSM2, HBY2⟩
              case measure => first | (simp [intOf]; done) | (simp [intOf]; omega)
            | true =>
              obtain ⟨f0, f1, ff⟩ := HL.out.b
              go_wp2_with fail
              obtain ⟨b1, e1, b2, e2, hv1, hv2, -, -, hlog⟩ := HL.out.two.log
              simp only [Value.slice.injEq, true_and] at hv1 hv2
              obtain ⟨rfl, rfl⟩ := hv1
              obtain ⟨rfl, rfl⟩ := hv2
              refine (l3Flush_own xs ys _ _ _ _ _ (by have := HSM2.out; omega) hlog).mono ?_
              rintro e uh ⟨x1, e9, rfl, hb, htw⟩
              have HTW : Hid (Two (B + 1) uh (.slice x1 (xs ++ ys).length e9) (.slice none 0 0) (xs ++ ys) []) := htw.down (by have := HL.out.b.lt; omega)
              replace HL : Hid (LG w uh S a kk cap z (t9 + 1) Rr B (.slice a1 xs.length c1) (.slice a2 ys.length c2) xs ys) := HL.out.below hb
              replace f0 := cell_below f0 hb
              replace f1 := cell_below f1 hb
              replace ff := HL.out.b.2.2
              have HLN := HL.out.put HTW.out
              have HLP : Hid (LG w _ S a kk cap z (t9 + 1) Rr B (.slice x1 (xs ++ ys).length e9) (.slice none 0 0) (xs ++ ys) []) := HLN
              have HSM3 : Hid ((xs ++ ys).length + ([] : List Int).length ≤ 4000) := by have := HSM2.out; show _ ≤ _; simp; exact this
              have HBY3 : Hid (BytL (xs ++ ys) ∧ BytL []) := ⟨HBY2.out.1.app HBY2.out.2, fun z hz => by simp at hz⟩
              clear hb htw hlog HTW HLN HL
              obtain ⟨zs, hzs⟩ : ∃ l, l = xs ++ ys := ⟨_, rfl⟩
              rw [← hzs] at HLP HSM3 HBY3 ⊢
              clear hzs
              go_wp2_with fail
              go_roundw
              case rel => exact ⟨q, _, _, _, _, t9 + 1, by go_num, by omega, by have := HT9.out; omega, HLP, HSM3, HBY3⟩
              case measure => first | (simp [intOf]; done) | (simp [intOf]; omega)
      · go_simp
        obtain ⟨u1, hW⟩ : ∃ y, y = u0.alloc (.cells #[.slice none 0 0, .slice none 0 0] 25) := ⟨_, rfl⟩
        have hb : Below u0.heap.size u0 u1 := by rw [hW]; exact below_new _ _
        have BD : BxL u1 u0.heap.size (.slice none 0 0) (.slice none 0 0) := by rw [hW]; exact BxL.new _ _ _ _
        have HBD : Hid (B < u0.heap.size) := HL.out.b.lt
        have HV : Hid ((Value.slice a1 xs.length c1).ownBlock ≠ some u0.heap.size ∧ (Value.slice a2 ys.length c2).ownBlock ≠ some u0.heap.size) := ⟨fun e => by have := (own_lt2 HL.out.two.1 _ e).2; omega, fun e => by have := (own_lt2 HL.out.two.2.1 _ e).2; omega⟩
        replace HL : Hid (LG w u1 S a kk cap z (t1) Rr B (.slice a1 xs.length c1) (.slice a2 ys.length c2) xs ys) := HL.out.below hb
        have hS8 : Box2 u1 B (.slice a1 xs.length c1) (.slice a2 ys.length c2) := hS.below hb
        rw [← hW]
        clear hW hb
        generalize u0.heap.size = D at *
        refine hK.out _ _ (hS8) (fun hS9 => ?_)
        try simp only [Act.put, List.setIfInBounds_toArray, List.set_cons_zero, List.set_cons_succ]
        clear hK K9 hS
        have hS := hS9
        clear hS9
        clear hS8
        refine wpAnyE_ready (rs := [2]) (by kernel_rfl) (by simp) ?_
        refine AllReadyE.cons rfl (fun K9 hK => ?_) AllReadyE.nil
        go_simp
        refine (l3Rec_good S a kk cap z (t1) u1 (by omega) HL.out.d.src).mono ?_
        rintro e u2 ⟨r, t9, rfl, ht9, hd, hgr⟩
        have HGR : Hid (GoodR r.k r.t r.key r.hd r.old r.hs r.nw r.bk) := hgr
        have HT9 : Hid (t9 ≤ t1 + 20) := ht9
        replace BD : BxL u2 D (.slice none 0 0) (.slice none 0 0) := BD.block (hd.1.block D BD.lt (by have := HBD.out; have := HL.out.hS; have := HL.out.o1; have := HL.out.o2; omega))
        have hS8 : Box2 u2 B (.slice a1 xs.length c1) (.slice a2 ys.length c2) := by
          have h8 := (HL.out.dw hd).b
          exact ⟨h8.1, h8.2.1⟩
        replace HL : Hid (LG w u2 S a kk cap z (t9) Rr B (.slice a1 xs.length c1) (.slice a2 ys.length c2) xs ys) := HL.out.dw hd
        refine hK.out _ _ (hS8) (fun hS9 => ?_)
        try simp only [Act.put, List.setIfInBounds_toArray, List.set_cons_zero, List.set_cons_succ]
        clear hK K9 hS
        have hS := hS9
        clear hS9
        clear hS8 hd hgr ht9
        refine wpAnyE_ready (rs := [3]) (by kernel_rfl) (by simp) ?_
        refine AllReadyE.cons rfl (fun K9 hK => ?_) AllReadyE.nil
        go_simp
        obtain ⟨b1, e1, b2, e2, hv1, hv2, -, -, hlog⟩ := HL.out.two.log
        simp only [Value.slice.injEq, true_and] at hv1 hv2
        obtain ⟨rfl, rfl⟩ := hv1
        obtain ⟨rfl, rfl⟩ := hv2
        refine (l3Append_any (loOf xs ys) a1 a2 c1 c2 r.k r.t r.key r.hd r.old r.hs r.nw r.bk u2 HSUM.out HGR.out hlog).mono ?_
        intro e u3 hap
        obtain ⟨y1, y2, xs2, ys2, cc, rfl, hb, HN0, HCC0⟩ := ap_cases HL.out hap HSUM.out HBYT.out HGR.out
        have HN : Hid (Two (B + 1) u3 y1 y2 xs2 ys2) := HN0.1
        have HCC : Hid (cc = 0 → xs2.length + ys2.length ≤ 4000 ∧ BytL xs2 ∧ BytL ys2) := HCC0
        have HX : Hid (y1.ownBlock ≠ some D ∧ y2.ownBlock ≠ some D) := by
          rcases HN0.2 with ⟨rfl, rfl⟩ | hf
          · exact HV.out
          · have h9 := BD.lt
            exact ⟨fun e => by have := hf.1 D e; omega, fun e => by have := hf.2 D e; omega⟩
        replace BD : BxL u3 D (.slice none 0 0) (.slice none 0 0) := BD.below hb
        replace HL : Hid (LG w u3 S a kk cap z (t9) Rr B (.slice a1 xs.length c1) (.slice a2 ys.length c2) xs ys) := HL.out.below hb
        have hS8 : Box2 u3 B (.slice a1 xs.length c1) (.slice a2 ys.length c2) := hS.below hb
        refine hK.out _ _ (hS8) (fun hS9 => ?_)
        try simp only [Act.put, List.setIfInBounds_toArray, List.set_cons_zero, List.set_cons_succ]
        clear hK K9 hS
        have hS := hS9
        clear hS9
        clear hS8 HN0 HCC0 hap hlog hb
        refine wpAnyE_takeD (L := 999) (i := 4) (v := .tuple #[.agg #[y1, y2], .int .i64 cc]) (some 14) rfl rfl (by kernel_rfl) (by kernel_rfl) (by kernel_rfl) (by kernel_rfl) (fun _ _ _ h => h) (Or.inl ⟨by kernel_rfl, by intro u hSu; go_simp⟩) hS ?_
        try simp only [Act.put, List.setIfInBounds_toArray, List.set_cons_zero, List.set_cons_succ]
        refine wpAnyE_takeD (L := 999) (i := 5) (v := .agg #[y1, y2]) (some 19) rfl rfl (by kernel_rfl) (by kernel_rfl) (by kernel_rfl) (by kernel_rfl) (fun _ _ _ h => h) (Or.inl ⟨by kernel_rfl, by intro u hSu; go_simp⟩) hS ?_
        try simp only [Act.put, List.setIfInBounds_toArray, List.set_cons_zero, List.set_cons_succ]
        refine wpAnyE_takeD (L := 999) (i := 6) (v := .int .i64 cc) (some 20) rfl rfl (by kernel_rfl) (by kernel_rfl) (by kernel_rfl) (by kernel_rfl) (fun _ _ _ h => h) (Or.inl ⟨by kernel_rfl, by intro u hSu; go_simp⟩) hS ?_
        try simp only [Act.put, List.setIfInBounds_toArray, List.set_cons_zero, List.set_cons_succ]
        refine wpAnyE_ready (rs := [8]) (by kernel_rfl) (by simp) ?_
        refine AllReadyE.cons rfl (fun K9 hK => ?_) AllReadyE.nil
        obtain ⟨d0, d1, df⟩ := BD
        have hSs := hS
        have hDB : B ≠ D := Nat.ne_of_lt HBD.out
        obtain ⟨xa, xc, xa2, xc2, rfl, rfl, -, -, -⟩ := HN.out.log
        go_simp
        refine hK.out _ _ (⟨(World.cell?_setCell_other _ _ _ _ (by simp [hDB])).trans ((World.cell?_setCell_other _ _ _ _ (by simp [hDB])).trans hSs.1), (World.cell?_setCell_other _ _ _ _ (by simp [hDB])).trans ((World.cell?_setCell_other _ _ _ _ (by simp [hDB])).trans hSs.2)⟩) (fun hS9 => ?_)
        try simp only [Act.put, List.setIfInBounds_toArray, List.set_cons_zero, List.set_cons_succ]
        clear hK K9 hS
        have hS := hS9
        clear hS9 hSs hDB
        refine wpAnyE_takeD (L := 999) (i := 9) (v := .int .i64 cc) (some 6) rfl rfl (by kernel_rfl) (by kernel_rfl) (by kernel_rfl) (by kernel_rfl) (fun _ _ _ h => h) (Or.inl ⟨by kernel_rfl, by intro u hSu; go_simp⟩) hS ?_
        try simp only [Act.put, List.setIfInBounds_toArray, List.set_cons_zero, List.set_cons_succ]
        refine wpAnyE_done (by kernel_rfl) ?_ _
        go_simp
        obtain ⟨uf, hW⟩ : ∃ y, y = (u3.setCell ⟨D, 0, none⟩ (.slice xa xs2.length xc)).setCell ⟨D, 1, none⟩ (.slice xa2 ys2.length xc2) := ⟨_, rfl⟩
        have hLf := ((HL.out.off (i := 0) (x := .slice xa xs2.length xc) HBD.out HV.out.1 HV.out.2).off (i := 1) (x := .slice xa2 ys2.length xc2) HBD.out HV.out.1 HV.out.2)
        have hNf := (HN.out.off (i := 0) (x := .slice xa xs2.length xc) HX.out.1 HX.out.2).off (i := 1) (x := .slice xa2 ys2.length xc2) HX.out.1 HX.out.2
        have BD : BxL uf D (.slice xa xs2.length xc) (.slice xa2 ys2.length xc2) := by rw [hW]; exact BxL.set ⟨d0, d1, df⟩ _ _
        rw [← hW] at hLf hNf ⊢
        replace HL : Hid (LG w uf S a kk cap z (t9) Rr B (.slice a1 xs.length c1) (.slice a2 ys.length c2) xs ys) := hLf
        replace HN : Hid (Two (B + 1) uf (.slice xa xs2.length xc) (.slice xa2 ys2.length xc2) xs2 ys2) := hNf
        clear hW hLf hNf d0 d1 df hS HV HX
        by_cases hcc : cc = 0
        · subst hcc
          obtain ⟨d0, d1, df⟩ := BD
          obtain ⟨f0, f1, ff⟩ := HL.out.b
          have HLN := HL.out.put HN.out
          replace HCC := HCC.out rfl
          have HSM2 : Hid (xs2.length + ys2.length ≤ 4000) := HCC.1
          have HBY2 : Hid (BytL xs2 ∧ BytL ys2) := HCC.2
          go_upto_region 8 with fail
          obtain ⟨ux, hW⟩ : ∃ y, y = (uf.setCell ⟨B, 0, none⟩ (.slice xa xs2.length xc)).setCell ⟨B, 1, none⟩ (.slice xa2 ys2.length xc2) := ⟨_, rfl⟩
          rw [← hW] at HLN ⊢
          replace HL : Hid (LG w ux S a kk cap z (t9) Rr B (.slice xa xs2.length xc) (.slice xa2 ys2.length xc2) xs2 ys2) := HLN
          clear hW HLN HN HCC d0 d1 df f0 f1 ff HSUM HBYT
          go_wp2_with fail
          refine (l1Chance_any S a kk cap z (t9) 3 _ (by have := HT9.out; omega) (by omega) HL.out.d.src).mono ?_
          rintro e ug ⟨bb, rfl, hn⟩
          replace HL : Hid (LG w ug S a kk cap z (t9 + 1) Rr B (.slice xa xs2.length xc) (.slice xa2 ys2.length xc2) xs2 ys2) := HL.out.dw hn.dw
          clear hn
          cases bb with
          | false =>
            go_wp2_with fail
            go_roundw
            case rel => exact ⟨q, _, _, _, _, t9 + 1, by go_num, by omega, by have := HT9.out; omega, HL, HSM2, HBY2⟩
            case measure => first | (simp [intOf]; done) | (simp [intOf]; omega)
          | true =>
            obtain ⟨f0, f1, ff⟩ := HL.out.b
            go_wp2_with fail
            obtain ⟨b1, e1, b2, e2, hv1, hv2, -, -, hlog⟩ := HL.out.two.log
            simp only [Value.slice.injEq, true_and] at hv1 hv2
            obtain ⟨rfl, rfl⟩ := hv1
            obtain ⟨rfl, rfl⟩ := hv2
            refine (l3Flush_own xs2 ys2 _ _ _ _ _ (by have := HSM2.out; omega) hlog).mono ?_
            rintro e uh ⟨x1, e9, rfl, hb, htw⟩
            have HTW : Hid (Two (B + 1) uh (.slice x1 (xs2 ++ ys2).length e9) (.slice none 0 0) (xs2 ++ ys2) []) := htw.down (by have := HL.out.b.lt; omega)
            replace HL : Hid (LG w uh S a kk cap z (t9 + 1) Rr B (.slice xa xs2.length xc) (.slice xa2 ys2.length xc2) xs2 ys2) := HL.out.below hb
            replace f0 := cell_below f0 hb
            replace f1 := cell_below f1 hb
            replace ff := HL.out.b.2.2
            have HLN := HL.out.put HTW.out
            have HLP : Hid (LG w _ S a kk cap z (t9 + 1) Rr B (.slice x1 (xs2 ++ ys2).length e9) (.slice none 0 0) (xs2 ++ ys2) []) := HLN
            have HSM3 : Hid ((xs2 ++ ys2).length + ([] : List Int).length ≤ 4000) := by have := HSM2.out; show _ ≤ _; simp; exact this
            have HBY3 : Hid (BytL (xs2 ++ ys2) ∧ BytL []) := ⟨HBY2.out.1.app HBY2.out.2, fun z hz => by simp at hz⟩
            clear hb htw hlog HTW HLN HL
            obtain ⟨zs, hzs⟩ : ∃ l, l = xs2 ++ ys2 := ⟨_, rfl⟩
            rw [← hzs] at HLP HSM3 HBY3 ⊢
            clear hzs
            go_wp2_with fail
            go_roundw
            case rel => exact ⟨q, _, _, _, _, t9 + 1, by go_num, by omega, by have := HT9.out; omega, HLP, HSM3, HBY3⟩
            case measure => first | (simp [intOf]; done) | (simp [intOf]; omega)
        · have hcc2 : (cc == 0) = false := by simp [hcc]
          have HSM2 : Hid (xs.length + ys.length ≤ 4000) := HSUM
          have HBY2 : Hid (BytL xs ∧ BytL ys) := HBYT
          clear hcc HN HCC BD
          go_wp2_with fail
          refine (l1Chance_any S a kk cap z (t9) 3 _ (by have := HT9.out; omega) (by omega) HL.out.d.src).mono ?_
          rintro e ug ⟨bb, rfl, hn⟩
          replace HL : Hid (LG w ug S a kk cap z (t9 + 1) Rr B (.slice a1 xs.length c1) (.slice a2 ys.length c2) xs ys) := HL.out.dw hn.dw
          clear hn
          cases bb with
          | false =>
            go_wp2_with fail
            go_roundw
            case rel => exact ⟨q, _, _, _, _, t9 + 1, by go_num, by omega, by have := HT9.out; omega, HL, HSM2, HBY2⟩
            case measure => first | (simp [intOf]; done) | (simp [intOf]; omega)
          | true =>
            obtain ⟨f0, f1, ff⟩ := HL.out.b
            go_wp2_with fail
            obtain ⟨b1, e1, b2, e2, hv1, hv2, -, -, hlog⟩ := HL.out.two.log
            simp only [Value.slice.injEq, true_and] at hv1 hv2
            obtain ⟨rfl, rfl⟩ := hv1
            obtain ⟨rfl, rfl⟩ := hv2
            refine (l3Flush_own xs ys _ _ _ _ _ (by have := HSM2.out; omega) hlog).mono ?_
            rintro e uh ⟨x1, e9, rfl, hb, htw⟩
            have HTW : Hid (Two (B + 1) uh (.slice x1 (xs ++ ys).length e9) (.slice none 0 0) (xs ++ ys) []) := htw.down (by have := HL.out.b.lt; omega)
            replace HL : Hid (LG w uh S a kk cap z (t9 + 1) Rr B (.slice a1 xs.length c1) (.slice a2 ys.length c2) xs ys) := HL.out.below hb
            replace f0 := cell_below f0 hb
            replace f1 := cell_below f1 hb
            replace ff := HL.out.b.2.2
            have HLN := HL.out.put HTW.out
            have HLP : Hid (LG w _ S a kk cap z (t9 + 1) Rr B (.slice x1 (xs ++ ys).length e9) (.slice none 0 0) (xs ++ ys) []) := HLN
            have HSM3 : Hid ((xs ++ ys).length + ([] : List Int).length ≤ 4000) := by have := HSM2.out; show _ ≤ _; simp; exact this
            have HBY3 : Hid (BytL (xs ++ ys) ∧ BytL []) := ⟨HBY2.out.1.app HBY2.out.2, fun z hz => by simp at hz⟩
            clear hb htw hlog HTW HLN HL
            obtain ⟨zs, hzs⟩ : ∃ l, l = xs ++ ys := ⟨_, rfl⟩
            rw [← hzs] at HLP HSM3 HBY3 ⊢
            clear hzs
            go_wp2_with fail
            go_roundw
            case rel => exact ⟨q, _, _, _, _, t9 + 1, by go_num, by omega, by have := HT9.out; omega, HLP, HSM3, HBY3⟩
            case measure => first | (simp [intOf]; done) | (simp [intOf]; omega)
    · have hqz : q = 0 := by omega
      subst hqz
      clear hq0 hq9
      go_wp2_with fail
      refine (l1Next_any S a kk cap z t1 20 _ (by omega) (by omega) HL.out.d.src).mono ?_
      rintro e w2 ⟨k9, rfl, hk9, hn⟩
      replace HL : Hid (LG w w2 S a kk cap z (t1 + 1) Rr B (.slice a1 xs.length c1) (.slice a2 ys.length c2) xs ys) := HL.out.dw hn.dw
      clear hn hk9
      by_cases e0 : k9 = 0
      · subst e0
        obtain ⟨f0, f1, ff⟩ := HL.out.b
        obtain ⟨Y, hY⟩ : ∃ y, y = w2.alloc (.cells #[.int .u8 1, .int .u8 2] 5) := ⟨_, rfl⟩
        have HLY : Hid (LG w Y S a kk cap z (t1 + 1) Rr B (.slice a1 xs.length c1) (.slice a2 ys.length c2) xs ys) := by rw [hY]; exact HL.out.below (below_new _ _)
        have HBA : Hid (BytesAt Y (some ⟨w2.heap.size, 0, none⟩) 2 (fun i => if i = 0 then 1 else 2)) := by
          rw [hY]
          refine .inr ⟨w2.heap.size, 0, rfl, by rw [World.size_alloc]; omega, fun i hi => ?_⟩
          have : i = 0 ∨ i = 1 := by omega
          rcases this with rfl | rfl <;> simp [go_sem]
        have HW2 : Hid (w2.alloc (.cells #[.int .u8 1, .int .u8 2] 5) = Y) := hY.symm
        clear hY
        have HLN : Hid (ys.length + 2 ≤ 100000) := by have := HSUM.out; show _ ≤ _; omega
        go_wp2_with (at_builtin; rw [HW2.out]; refine wpList_appB _ rfl (.tmp 33) (.tmp 34) rfl (B + 1) (.slice a2 ys.length c2) ys rfl HLY.out.two.2.1 (some ⟨w2.heap.size, 0, none⟩) 2 2 (fun i => if i = 0 then 1 else 2) rfl HBA.out HLN.out (by have := HLY.out.b.lt; omega) ?_)
        intro v' u9 ho hg
        obtain ⟨l, hl⟩ : ∃ l, l = ys ++ zL (fun i => if i = 0 then (1 : Int) else 2) 2 := ⟨_, rfl⟩
        have hll : l.length ≤ ys.length + 2 := by rw [hl, List.length_append, zL_len]; exact Nat.le_refl _
        have hlb : BytL l := by
          rw [hl]
          refine HBYT.out.2.app fun z hz => ?_
          simp [zL, List.range_succ] at hz
          omega
        have ho2 : u9.ownsRow (B + 1) 5 1 v' l.length (bl l) := by
          rw [hl, List.length_append]
          exact ho
        clear hl ho
        obtain ⟨a3, c3, rfl, -⟩ := ownB_of_row ho2
        have HE : Hid (LE w (u9.setCell ⟨B, 1, none⟩ (.slice a3 l.length c3)) S a kk cap z (t1 + 1) Rr B a1 xs.length c1 a3 l.length c3 (zOf xs) (zOf l)) := LE.app HLY.out hg ho2 HSUM.out hll HBYT.out.1 hlb
        have hgv : ∀ q, (Value.slice a2 ys.length c2).ownBlock = some q → B + 1 ≤ q := fun q hq => (own_lt2 HLY.out.two.2.1 q hq).1
        obtain ⟨g0, g1, gf⟩ := HLY.out.b.block (hg.block B HLY.out.b.lt fun e => by have := hgv B e.symm; omega)
        clear f0 f1 ff hgv hg ho2 hll hlb HLN HBA HLY HL HW2
        go_upto_region 18 with fail
        generalize u9.setCell ⟨B, 1, none⟩ (.slice a3 l.length c3) = uz at *
        clear g0 g1 gf
        have HD := HE.out
        obtain ⟨g0, g1, gf⟩ := HE.out.b
        obtain ⟨r0, r1, rf⟩ := HE.out.r
        have HFIN : Hid (∀ x0 x1, LogA S a kk cap z w (.returned (.agg #[.slice a1 xs.length c1, .slice a3 l.length c3])) ((uz.setCell ⟨Rr, 0, none⟩ x0).setCell ⟨Rr, 1, none⟩ x1)) := log_fin HE.out (by omega)
        clear HE HD
        go_wp2_with fail
        exact bodyPost_ret (v := .agg #[.slice a1 xs.length c1, .slice a3 l.length c3]) (by simp [results, Try.results19, go_sem, *]) rfl (HFIN.out _ _)
      · by_cases e1 : k9 = 1
        · subst e1
          obtain ⟨f0, f1, ff⟩ := HL.out.b
          by_cases hx0 : 0 < xs.length
          · obtain ⟨g, rfl, hg1, hg2, -, -⟩ := own_head HL.out.two.1 hx0
            have hxi : (0 : Int) < (xs.length : Int) := by omega
            clear hg1 hg2
            go_upto_region 15 with fail
            clear f0 f1 ff
            refine wp_region_E 999 (S := fun u => Box2 u B (.slice (some ⟨g, 0, none⟩) xs.length c1) (.slice a2 ys.length c2)) (by kernel_rfl) ⟨HL.out.b.1, HL.out.b.2.1⟩ (fun hS => ?_)
            obtain ⟨u0, hu0⟩ : ∃ y, y = w2.drew := ⟨_, rfl⟩
            replace HL : Hid (LG w u0 S a kk cap z (t1 + 1) Rr B (.slice (some ⟨g, 0, none⟩) xs.length c1) (.slice a2 ys.length c2) xs ys) := by rw [hu0]; exact HL.out.below ((Below.refl _ _).drew)
            rw [← hu0] at hS ⊢
            clear hu0
            refine wpAnyE_takeD (L := 999) (i := 0) (v := .pointer (some ⟨B, 0, none⟩)) (some 43) rfl rfl (by kernel_rfl) (by kernel_rfl) (by kernel_rfl) (by kernel_rfl) (fun _ _ _ h => h) (Or.inl ⟨by kernel_rfl, by intro u hSu; go_simp⟩) hS ?_
            try simp only [Act.put, List.setIfInBounds_toArray, List.set_cons_zero, List.set_cons_succ]
            refine wpAnyE_takeD (L := 999) (i := 1) (v := .slice (some ⟨g, 0, none⟩) xs.length c1) (some 44) rfl rfl (by kernel_rfl) (by kernel_rfl) (by kernel_rfl) (by kernel_rfl) (fun _ _ _ h => h) (Or.inl ⟨by kernel_rfl, by intro u hSu; obtain ⟨h0, h1⟩ := hSu; go_simp⟩) hS ?_
            try simp only [Act.put, List.setIfInBounds_toArray, List.set_cons_zero, List.set_cons_succ]
            refine wpAnyE_takeD (L := 999) (i := 2) (v := .pointer (some ⟨S, 0, none⟩)) (some 45) rfl rfl (by kernel_rfl) (by kernel_rfl) (by kernel_rfl) (by kernel_rfl) (fun _ _ _ h => h) (Or.inl ⟨by kernel_rfl, by intro u hSu; go_simp⟩) hS ?_
            try simp only [Act.put, List.setIfInBounds_toArray, List.set_cons_zero, List.set_cons_succ]
            refine wpAnyE_takeD (L := 999) (i := 3) (v := .pointer (some ⟨B, 0, none⟩)) (some 46) rfl rfl (by kernel_rfl) (by kernel_rfl) (by kernel_rfl) (by kernel_rfl) (fun _ _ _ h => h) (Or.inl ⟨by kernel_rfl, by intro u hSu; go_simp⟩) hS ?_
            try simp only [Act.put, List.setIfInBounds_toArray, List.set_cons_zero, List.set_cons_succ]
            refine wpAnyE_takeD (L := 999) (i := 4) (v := .slice (some ⟨g, 0, none⟩) xs.length c1) (some 47) rfl rfl (by kernel_rfl) (by kernel_rfl) (by kernel_rfl) (by kernel_rfl) (fun _ _ _ h => h) (Or.inl ⟨by kernel_rfl, by intro u hSu; obtain ⟨h0, h1⟩ := hSu; go_simp⟩) hS ?_
            try simp only [Act.put, List.setIfInBounds_toArray, List.set_cons_zero, List.set_cons_succ]
            refine wpAnyE_takeD (L := 999) (i := 5) (v := .int .i64 (xs.length : Int)) (some 48) rfl rfl (by kernel_rfl) (by kernel_rfl) (by kernel_rfl) (by kernel_rfl) (fun _ _ _ h => h) (Or.inl ⟨by kernel_rfl, by intro u hSu; go_simp⟩) hS ?_
            try simp only [Act.put, List.setIfInBounds_toArray, List.set_cons_zero, List.set_cons_succ]
            refine wpAnyE_takeD (L := 999) (i := 7) (v := .pointer (some ⟨S, 0, none⟩)) (some 50) rfl rfl (by kernel_rfl) (by kernel_rfl) (by kernel_rfl) (by kernel_rfl) (fun _ _ _ h => h) (Or.inl ⟨by kernel_rfl, by intro u hSu; go_simp⟩) hS ?_
            try simp only [Act.put, List.setIfInBounds_toArray, List.set_cons_zero, List.set_cons_succ]
            refine wpAnyE_ready (rs := [6]) (by kernel_rfl) (by simp) ?_
            refine AllReadyE.cons rfl (fun K9 hK => ?_) AllReadyE.nil
            go_simp
            refine (l1Next_any S a kk cap z (t1 + 1) (xs.length : Int) u0 (by omega) (by have := HSUM.out; omega) HL.out.d.src).mono ?_
            rintro e u1 ⟨kj, rfl, hkj, hn⟩
            replace HL : Hid (LG w u1 S a kk cap z (t1 + 1 + 1) Rr B (.slice (some ⟨g, 0, none⟩) xs.length c1) (.slice a2 ys.length c2) xs ys) := HL.out.dw hn.dw
            have hS8 : Box2 u1 B (.slice (some ⟨g, 0, none⟩) xs.length c1) (.slice a2 ys.length c2) := ⟨HL.out.b.1, HL.out.b.2.1⟩
            refine hK.out _ _ (hS8) (fun hS9 => ?_)
            try simp only [Act.put, List.setIfInBounds_toArray, List.set_cons_zero, List.set_cons_succ]
            clear hK K9 hS
            have hS := hS9
            clear hS9
            clear hS8 hn
            refine wpAnyE_ready (rs := [8]) (by kernel_rfl) (by simp) ?_
            refine AllReadyE.cons rfl (fun K9 hK => ?_) AllReadyE.nil
            go_simp
            refine (l1Next_any S a kk cap z (t1 + 1 + 1) 256 u1 (by omega) (by have := HSUM.out; omega) HL.out.d.src).mono ?_
            rintro e u2 ⟨x, rfl, hx, hn⟩
            replace HL : Hid (LG w u2 S a kk cap z (t1 + 1 + 1 + 1) Rr B (.slice (some ⟨g, 0, none⟩) xs.length c1) (.slice a2 ys.length c2) xs ys) := HL.out.dw hn.dw
            have hS8 : Box2 u2 B (.slice (some ⟨g, 0, none⟩) xs.length c1) (.slice a2 ys.length c2) := ⟨HL.out.b.1, HL.out.b.2.1⟩
            refine hK.out _ _ (hS8) (fun hS9 => ?_)
            try simp only [Act.put, List.setIfInBounds_toArray, List.set_cons_zero, List.set_cons_succ]
            clear hK K9 hS
            have hS := hS9
            clear hS9
            clear hS8 hn
            obtain ⟨j, rfl⟩ : ∃ j : Nat, kj = (j : Int) := ⟨kj.toNat, by have := hkj.1; omega⟩
            have hj : j < xs.length := by have := hkj.2.1 (by omega); omega
            have hji : (j : Int) < (xs.length : Int) := by omega
            have hx1 : 0 ≤ x ∧ x ≤ 255 := ⟨hx.1, by have := hx.2.1 (by omega); omega⟩
            have hwx : IntKind.u8.wrap x = x := by rw [IntKind.wrap_u8]; omega
            clear hkj hx
            obtain ⟨g9, eg9, hg1, hg2, hcl, hfz⟩ := own_head HL.out.two.1 (by omega)
            injection eg9 with eg9
            injection eg9 with eg9 _
            subst eg9
            have HGB : Hid (B ≠ g) := by show B ≠ g; omega
            have c0 := hcl j hj
            have cf := hfz j
            have HE : Hid (LE w (u2.setCell ⟨g, j, none⟩ (.int .u8 x)) S a kk cap z (t1 + 1 + 1 + 1) Rr B (some ⟨g, 0, none⟩) xs.length c1 a2 ys.length c2 (fun i => if i = j then x else zOf xs i) (zOf ys)) := LE.byte HL.out HSUM.out HBYT.out hj hx1
            clear hcl hfz hg1 hg2
            refine wpAnyE_takeD (L := 999) (i := 9) (v := .int .u8 x) (some 52) rfl rfl (by kernel_rfl) (by kernel_rfl) (by kernel_rfl) (by kernel_rfl) (fun _ _ _ h => h) (Or.inl ⟨by kernel_rfl, by intro u hSu; go_simp⟩) hS ?_
            try simp only [Act.put, List.setIfInBounds_toArray, List.set_cons_zero, List.set_cons_succ]
            refine wpAnyE_takeD (L := 999) (i := 10) (v := .pointer (some ⟨g, j, none⟩)) (some 53) rfl rfl (by kernel_rfl) (by kernel_rfl) (by kernel_rfl) (by kernel_rfl) (fun _ _ _ h => h) (Or.inl ⟨by kernel_rfl, by intro u hSu; go_simp⟩) hS ?_
            try simp only [Act.put, List.setIfInBounds_toArray, List.set_cons_zero, List.set_cons_succ]
            refine wpAnyE_ready (rs := [11]) (by kernel_rfl) (by simp) ?_
            refine AllReadyE.cons rfl (fun K9 hK => ?_) AllReadyE.nil
            have hSs := hS
            have hDB := HGB.out
            go_simp
            refine hK.out _ _ (⟨(World.cell?_setCell_other _ _ _ _ (by simp [hDB])).trans hSs.1, (World.cell?_setCell_other _ _ _ _ (by simp [hDB])).trans hSs.2⟩) (fun hS9 => ?_)
            try simp only [Act.put, List.setIfInBounds_toArray, List.set_cons_zero, List.set_cons_succ]
            clear hK K9 hS hS9 hSs hDB
            refine wpAnyE_done (by kernel_rfl) ?_ _
            go_simp
            clear c0 cf HL
            generalize u2.setCell ⟨g, j, none⟩ (.int .u8 x) = uz at *
            go_upto_region 18 with fail
            obtain ⟨g0, g1, gf⟩ := HE.out.b
            obtain ⟨r0, r1, rf⟩ := HE.out.r
            have HFIN : Hid (∀ x0 x1, LogA S a kk cap z w (.returned (.agg #[.slice (some ⟨g, 0, none⟩) xs.length c1, .slice a2 ys.length c2])) ((uz.setCell ⟨Rr, 0, none⟩ x0).setCell ⟨Rr, 1, none⟩ x1)) := log_fin HE.out (by omega)
            clear HE
            go_wp2_with fail
            exact bodyPost_ret (v := .agg #[.slice (some ⟨g, 0, none⟩) xs.length c1, .slice a2 ys.length c2]) (by simp [results, Try.results19, go_sem, *]) rfl (HFIN.out _ _)
          · have hxe : xs.length = 0 := by omega
            obtain ⟨xs0, rfl⟩ : ∃ y : List Int, xs = [] := ⟨[], List.length_eq_zero_iff.1 hxe⟩
            clear hx0 hxe
            have HE : Hid (LE w w2 S a kk cap z (t1 + 1) Rr B a1 0 c1 a2 ys.length c2 (zOf []) (zOf ys)) := LE.of HL.out HSUM.out HBYT.out
            go_upto_region 18 with fail
            clear f0 f1 ff HL
            generalize w2 = uz at *
            have HD := HE.out
            obtain ⟨g0, g1, gf⟩ := HE.out.b
            obtain ⟨r0, r1, rf⟩ := HE.out.r
            have HFIN : Hid (∀ x0 x1, LogA S a kk cap z w (.returned (.agg #[.slice a1 0 c1, .slice a2 ys.length c2])) ((uz.setCell ⟨Rr, 0, none⟩ x0).setCell ⟨Rr, 1, none⟩ x1)) := log_fin HE.out (by omega)
            clear HE HD
            go_wp2_with fail
            exact bodyPost_ret (v := .agg #[.slice a1 0 c1, .slice a2 ys.length c2]) (by simp [results, Try.results19, go_sem, *]) rfl (HFIN.out _ _)
        · by_cases e2 : k9 = 2
          · subst e2
            obtain ⟨f0, f1, ff⟩ := HL.out.b
            obtain ⟨Z, hZ, hmk⟩ : ∃ Z : Array Value, Z = madeCells #[.int .u8 0] 4001 ∧ ∀ y, (Instr.makeSlice 22 (.int .i64 4001) (.int .i64 4001)).run Try.prog y = .ok (.slice (some ⟨y.heap.size, 0, none⟩) 4001 4001) (y.alloc (.cells Z 5)) := ⟨_, rfl, fun y => run_make_bytes 4001 (by omega) y⟩
            have HE : Hid (LE w ((w2.alloc (.cells Z 5)).setCell ⟨B, 0, none⟩ (.slice (some ⟨w2.heap.size, 0, none⟩) 4001 4001)) S a kk cap z (t1 + 1) Rr B (some ⟨w2.heap.size, 0, none⟩) 4001 4001 a2 ys.length c2 (fun _ => 0) (zOf ys)) := LE.made hZ HL.out HSUM.out HBYT.out
            have hBw : ∀ o, (w2.alloc o).cell? ⟨B, 0, none⟩ = some (.slice a1 xs.length c1) := fun o => cell_alloc f0 o
            have hBf : ∀ o i, (w2.alloc o).frozen? ⟨B, i, none⟩ = false := fun o i => (HL.out.b.below (below_new w2 o)).2.2 i
            clear hZ
            go_upto_region 18 with fail
            clear f0 f1 ff HL hmk hBw hBf
            generalize (w2.alloc (.cells Z 5)).setCell ⟨B, 0, none⟩ (.slice (some ⟨w2.heap.size, 0, none⟩) 4001 4001) = uz at *
            generalize w2.heap.size = gz at *
            have HD := HE.out
            obtain ⟨g0, g1, gf⟩ := HE.out.b
            obtain ⟨r0, r1, rf⟩ := HE.out.r
            have HFIN : Hid (∀ x0 x1, LogA S a kk cap z w (.returned (.agg #[.slice (some ⟨gz, 0, none⟩) 4001 4001, .slice a2 ys.length c2])) ((uz.setCell ⟨Rr, 0, none⟩ x0).setCell ⟨Rr, 1, none⟩ x1)) := log_fin HE.out (by omega)
            clear HE HD
            go_wp2_with fail
            exact bodyPost_ret (v := .agg #[.slice (some ⟨gz, 0, none⟩) 4001 4001, .slice a2 ys.length c2]) (by simp [results, Try.results19, go_sem, *]) rfl (HFIN.out _ _)
          · have HE : Hid (LE w w2 S a kk cap z (t1 + 1) Rr B a1 xs.length c1 a2 ys.length c2 (zOf xs) (zOf ys)) := LE.of HL.out HSUM.out HBYT.out
            have n0 : (k9 == 0) = false := by simp [e0]
            have n1 : (k9 == 1) = false := by simp [e1]
            have n2 : (k9 == 2) = false := by simp [e2]
            clear e0 e1 e2
            go_upto_region 18 with fail
            clear HL n0 n1 n2
            generalize w2 = uz at *
            have HD := HE.out
            obtain ⟨g0, g1, gf⟩ := HE.out.b
            obtain ⟨r0, r1, rf⟩ := HE.out.r
            have HFIN : Hid (∀ x0 x1, LogA S a kk cap z w (.returned (.agg #[.slice a1 xs.length c1, .slice a2 ys.length c2])) ((uz.setCell ⟨Rr, 0, none⟩ x0).setCell ⟨Rr, 1, none⟩ x1)) := log_fin HE.out (by omega)
            clear HE HD
            go_wp2_with fail
            exact bodyPost_ret (v := .agg #[.slice a1 xs.length c1, .slice a2 ys.length c2]) (by simp [results, Try.results19, go_sem, *]) rfl (HFIN.out _ _)
end Go.Proofs.Ytapggckfacmklaa
