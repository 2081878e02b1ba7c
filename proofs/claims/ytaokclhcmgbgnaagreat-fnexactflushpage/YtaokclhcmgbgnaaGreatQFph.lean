/- spec.FlushPage where the disk has room. -/
import Derived.Test.YtaokclhcmgbgnaaGreatQFpg
import Derived.Deep.DeepCutAuto
import Derived.BigQuiet
namespace Go.Proofs.YtaokclhcmgbgnaaGreat
open Go.ChangeShapes Go.WideShapes Go.ChangeAt Go.RowKit Go.Deep Go.Joins
set_option linter.unusedVariables false
set_option linter.unusedSimpArgs false
set_option maxRecDepth 20000

theorem l2Place_zero (n : Nat) (Z : Nat → Nat → Int) (idn : Int) (z : Nat → Int) (a a3 : Option Addr) (cap cap3 : Nat) (w : World) (hn : n ≤ 8) (hcap : 48 ≤ cap3) (h : PagesAt w a n (fun _ => 48) Z) (h3 : BytesAt w a3 48 z) :
    Calls Tryz.prog 29 #[.agg #[.slice a n cap, .slice none 0 0], .int .i64 idn, .slice a3 48 cap3] w fun e w' => ∃ a1 c1 a2 c2, e = .returned (.tuple #[.agg #[.slice a1 n c1, .slice a2 3 c2], .int .i64 0]) ∧ Below w.heap.size w w' ∧ OwnP w' w.heap.size w'.heap.size a1 n (fun _ => 48) Z ∧ OwnL w' w.heap.size w'.heap.size a2 3 (catF (fun _ => 0) (pcP idn) 0) (catF (fun _ => 0) pcT 0) (fun _ => 16) (catF (fun _ _ => 0) (pcY z) 0) :=
  l2Place_ok n 0 (fun _ => 48) Z (fun _ => 0) (fun _ => 0) (fun _ => 0) (fun _ _ => 0) idn z a none a3 cap 0 cap3 w hn (by omega) hcap (fun _ _ => rfl) (fun i hi => by omega) h (.inl rfl) h3
set_option maxHeartbeats 32000000 in
theorem specFp_any (t : Sto) (a0 : Option Addr) (c0 : Nat) (a1 : Option Addr) (c1 : Nat) (a2 : Option Addr) (c2 : Nat) (a3 : Option Addr) (c3 : Nat) (a4 : Option Addr) (c4 : Nat) (a5 : Option Addr) (c5 : Nat) (a6 : Option Addr) (c6 : Nat) (x : Int) (w : World) (hS : SmSt t) (hby : LogByt t.g) (h : InSt w a0 a1 a2 a3 a4 a5 a6 t) :
    Calls Tryz.prog 7 #[.agg #[.int .i64 t.nx, .slice a0 t.pn c0, .slice a1 t.d.n c1, .slice a2 t.d.m c2, .slice a3 t.g.n1 c3, .slice a4 t.g.n2 c4, .slice a5 t.hn c5, .slice a6 t.on c6], .int .i64 x] w (SRr (fpC t x) 0 (fpT t x) w) := by
  have HA : Hid (InSt w a0 a1 a2 a3 a4 a5 a6 t) := h
  have HS : Hid (SmSt t) := hS
  have HBY : Hid (LogByt t.g) := hby
  have HC0 : Hid (fpC t x = if stF t = 0 then f1C x else stF t) := rfl
  have HBD : Hid (∀ c, fpC t x = c → c ≠ 0 → fpT t x = zSt) := fun c h h0 => if_neg (by rw [h]; exact h0)
  have HGO : Hid (fpC t x = 0 → fpT t x = fpS t x.toNat) := fun h => if_pos h
  have hb0 : ∀ o1 o2, Below w.heap.size w ((w.alloc o1).alloc o2) := fun o1 o2 => (((Below.refl _ _).alloc (Nat.le_refl _) _).alloc (by simp) _)
  generalize fpC t x = C at *
  generalize fpT t x = TT at *
  clear h
  go_enter Tryz.func7, Tryz.ntmps7
  go_wp2_with fail
  refine (l12Fault_any t w.heap.size a0 c0 a1 c1 a2 c2 a3 c3 a4 c4 a5 c5 a6 c6 _ hS hby ((BoxS.new w _ _ _ _ _ _ _ _ _).alloc _) (HA.out.below (hb0 _ _))).mono ?_
  rintro e w1 ⟨rfl, hb⟩
  have HB : Hid (Below w.heap.size w w1) := below_then (hb0 _ _) hb
  have HX : Hid (BoxS w1 w.heap.size (.int .i64 t.nx) (.slice a0 t.pn c0) (.slice a1 t.d.n c1) (.slice a2 t.d.m c2) (.slice a3 t.g.n1 c3) (.slice a4 t.g.n2 c4) (.slice a5 t.hn c5) (.slice a6 t.on c6)) := ((BoxS.new w _ _ _ _ _ _ _ _ _).alloc _).below hb
  have HZ : Hid (ZR w1 (w.heap.size + 1)) := by
    have := (ZR.new (w.alloc (.cells #[.int .i64 t.nx, .slice a0 t.pn c0, .slice a1 t.d.n c1, .slice a2 t.d.m c2, .slice a3 t.g.n1 c3, .slice a4 t.g.n2 c4, .slice a5 t.hn c5, .slice a6 t.on c6] 42)) 44).below hb
    rw [World.size_alloc] at this
    exact this
  replace HA : Hid (InSt w1 a0 a1 a2 a3 a4 a5 a6 t) := HA.out.below HB.out
  have HZ0 : Hid (w.heap.size + 1 < w1.heap.size) := HZ.out.lt
  clear hb hb0 hS hby
  by_cases h0 : stF t = 0
  case neg =>
    have HC : Hid (C = stF t) := HC0.out.trans (if_neg h0)
    have HT : Hid (TT = zSt) := HBD.out _ HC.out h0
    generalize stF t = c at *
    have h0' : (c != 0) = true := by simp [h0]
    clear h0 HC0
    go_wp2_with fail
    refine (l12Bad_any c _).mono ?_
    rintro e w2 ⟨rfl, hb2⟩
    obtain ⟨⟨r0, r1, r2, r3, r4, r5, r6, r7, r8, r9⟩, rf⟩ := HZ.out.below hb2
    have HB9 : Hid (Below w.heap.size w w2) := below_then HB.out hb2
    have hl9 : w.heap.size + 1 < w2.heap.size := Go.block_lt_of_cell r0
    clear hb2
    go_wp2_with fail
    refine bodyPost_ret (v := .agg #[.int .i64 c, .int .i64 0, .int .i64 0, .slice none 0 0, .slice none 0 0, .slice none 0 0, .slice none 0 0, .slice none 0 0, .slice none 0 0, .slice none 0 0]) (by simp [results, Tryz.results7, go_sem, *]) rfl ?_
    rw [HC.out, HT.out]
    refine (sres_bad ?_).rd
    repeat (first | with_reducible exact HB9.out | refine Below.setCell ?_ (by first | omega | (simp <;> omega)) _)
  replace HC0 : Hid (C = f1C x) := HC0.out.trans (if_pos h0)
  have HGD : Hid (GoodSt t) := stF_good h0
  rw [h0]
  clear h0
  obtain ⟨x0, x1, x2, x3, x4, x5, x6, x7⟩ := HX.out
  go_wp2_with fail
  refine (l1In_any x 0 3 w1).mono ?_
  rintro e w1' ⟨rfl, hw1⟩
  subst hw1
  cases hx : inB x 0 3
  case false =>
    have HC : Hid (C = 3) := HC0.out.trans (by unfold f1C; rw [if_neg (by rw [hx]; decide)])
    have HT : Hid (TT = zSt) := HBD.out _ HC.out (by omega)
    clear hx HC0
    go_wp2_with fail
    refine (l12Bad_any 3 _).mono ?_
    rintro e w2 ⟨rfl, hb2⟩
    obtain ⟨⟨r0, r1, r2, r3, r4, r5, r6, r7, r8, r9⟩, rf⟩ := HZ.out.below hb2
    have HB9 : Hid (Below w.heap.size w w2) := below_then HB.out hb2
    have hl9 : w.heap.size + 1 < w2.heap.size := Go.block_lt_of_cell r0
    clear hb2
    go_wp2_with fail
    refine bodyPost_ret (v := .agg #[.int .i64 3, .int .i64 0, .int .i64 0, .slice none 0 0, .slice none 0 0, .slice none 0 0, .slice none 0 0, .slice none 0 0, .slice none 0 0, .slice none 0 0]) (by simp [results, Tryz.results7, go_sem, *]) rfl ?_
    rw [HC.out, HT.out]
    refine (sres_bad ?_).rd
    repeat (first | with_reducible exact HB9.out | refine Below.setCell ?_ (by first | omega | (simp <;> omega)) _)
  have hxx := inB_iff.1 hx
  obtain ⟨k, rfl⟩ : ∃ k : Nat, x = (k : Int) := ⟨x.toNat, by omega⟩
  have hk4 : k < 4 := by omega
  have HC : Hid (C = 0) := HC0.out.trans (by unfold f1C; rw [if_pos hx])
  have HT : Hid (TT = fpS t k) := HGO.out HC.out
  clear hx hxx HC0 HBD HGO
  go_wp2_with fail
  refine (l12Copy_any t a0 c0 a1 c1 a2 c2 a3 c3 a4 c4 a5 c5 a6 c6 w1' HS.out HGD.out HA.out).mono ?_
  rintro e w2 ⟨b0, e0, b1, e1, b2, e2, b3, e3, b4, e4, b5, e5, b6, e6, rfl, hb2, hown, -, -, -⟩
  obtain ⟨W3, hW3⟩ : ∃ y, y = w2.alloc (.cells #[.int .i64 t.nx, .slice b0 t.pn e0, .slice b1 t.d.n e1, .slice b2 t.d.m e2, .slice b3 t.g.n1 e3, .slice b4 t.g.n2 e4, .slice b5 t.hn e5, .slice b6 t.on e6] 42) := ⟨_, rfl⟩
  have hb3 : Below w2.heap.size w2 W3 := by rw [hW3]; exact below_new _ _
  have HBX : Hid (BoxS W3 w2.heap.size (.int .i64 t.nx) (.slice b0 t.pn e0) (.slice b1 t.d.n e1) (.slice b2 t.d.m e2) (.slice b3 t.g.n1 e3) (.slice b4 t.g.n2 e4) (.slice b5 t.hn e5) (.slice b6 t.on e6)) := by rw [hW3]; exact BoxS.new _ _ _ _ _ _ _ _ _ _
  have HFX : Hid (∀ i, W3.frozen? ⟨w2.heap.size, i, none⟩ = false) := fun i => by rw [hW3]; simp [go_sem]
  have HS3 : Hid (W3.heap.size = w2.heap.size + 1) := by rw [hW3]; simp [Hid]
  have HOW : Hid (OwnS W3 w1'.heap.size w2.heap.size b0 b1 b2 b3 b4 b5 b6 t) := hown.below hb3
  have HB3 : Hid (Below w1'.heap.size w1' W3) := below_then hb2 hb3
  have HS2 : Hid (w1'.heap.size ≤ w2.heap.size) := hb2.size
  clear hown hb2 hb3 x0 x1 x2 x3 x4 x5 x6 x7
  go_upto_region 7 with fail
  rw [← hW3]
  clear hW3
  obtain ⟨pb, po, rfl, hpc⟩ : ∃ pb po, b0 = some ⟨pb, po, none⟩ ∧ ∀ i, i < t.pn → ∃ a0 c0, CPg W3 pb (po + i * 3) (t.pT i) a0 c0 ∧ InPg W3 a0 (t.pT i) ∧ (t.pT i).cn ≤ c0 := by
    rcases HOW.out.at.1 with q | ⟨pb, po, q1, _, q2⟩
    · have := HGD.out.pn; omega
    · exact ⟨pb, po, q1, q2⟩
  have hkp : k < t.pn := by have := HGD.out.pn; omega
  obtain ⟨ca, cc, hcp, -, -⟩ := hpc k hkp
  have HCPg : Hid (CPg W3 pb (po + k * 3) (t.pT k) ca cc) := hcp
  obtain ⟨p0, p1, p2⟩ := hcp
  have hkn : (k : Int) < (t.pn : Int) := by omega
  have hk0 : (0 : Int) ≤ (k : Int) := by omega
  have z1 : W3.cell? ⟨w2.heap.size, 1, none⟩ = some (.slice (some ⟨pb, po, none⟩) t.pn e0) := HBX.out.2.1
  have z4 : W3.cell? ⟨w2.heap.size, 4, none⟩ = some (.slice b3 t.g.n1 e3) := HBX.out.2.2.2.2.1
  have z5 : W3.cell? ⟨w2.heap.size, 5, none⟩ = some (.slice b4 t.g.n2 e4) := HBX.out.2.2.2.2.2.1
  clear hpc hkp
  by_cases hfl : ((t.g.n1 / 13 : Nat) : Int) < (t.pT k).lsn
  have hf2 : wrap64 ((t.g.n1 : Int) / 13) < (t.pT k).lsn := by have hz := (lgC_zero HGD.out.lg).1; unfold wrap64; omega
  have HGG : Hid (fpG t k = ⟨t.g.n1 + t.g.n2, aZ t.g, 0, fun _ => 0⟩) := by show fpG t k = _; unfold fpG; rw [if_pos hfl]; unfold flL; rw [if_pos HGD.out.lg]
  clear hfl
  go_quiet (fail)
  go_wp2_with fail
  obtain ⟨V0, hV0⟩ : ∃ y, y = W3.drewN nq := ⟨_, rfl⟩
  have HV0 : Hid (Below W3.heap.size W3 V0) := by rw [hV0]; exact below_drewN (Below.refl _ _) _
  have HV0s : Hid (V0.heap.size = W3.heap.size) := by rw [hV0]; rfl
  rw [← hV0]
  clear hV0
  refine (l3Flush_any t.g b3 b4 e3 e4 V0 (by have hz := (lgC_zero HGD.out.lg).1; omega) (HOW.out.at.2.2.1.below HV0.out)).mono ?_
  rintro e w3 ⟨ra, rc, rfl, hb3, ho3⟩
  have hB3 := below_then HV0.out hb3
  have y4 := cell_below z4 hB3
  have y5 := cell_below z5 hB3
  have yf : ∀ i, w3.frozen? ⟨w2.heap.size, i, none⟩ = false := fun i => (hB3.frozen (p := ⟨w2.heap.size, i, none⟩) (by have := HS3.out; show w2.heap.size < W3.heap.size; omega)).trans (HFX.out i)
  have hbx3 := HBX.out.below hB3
  obtain ⟨v0, v1, v2, v3, v4, v5, v6, v7⟩ := hbx3
  go_upto_region 9 with fail
  obtain ⟨V, hV⟩ : ∃ y, y = (w3.setCell ⟨w2.heap.size, 4, none⟩ (.slice ra (t.g.n1 + t.g.n2) rc)).setCell ⟨w2.heap.size, 5, none⟩ (.slice none 0 0) := ⟨_, rfl⟩
  have hw : Writes w2.heap.size (w2.heap.size + 1) w3 V := by rw [hV]; exact ((Writes.refl _ _ _).setCell (p := ⟨w2.heap.size, 4, none⟩) (Nat.le_refl _) (Nat.lt_succ_self _) _).setCell (p := ⟨w2.heap.size, 5, none⟩) (Nat.le_refl _) (Nat.lt_succ_self _) _
  have HBV : Hid (BoxS V w2.heap.size (.int .i64 t.nx) (.slice (some ⟨pb, po, none⟩) t.pn e0) (.slice b1 t.d.n e1) (.slice b2 t.d.m e2) (.slice ra (t.g.n1 + t.g.n2) rc) (.slice none 0 0) (.slice b5 t.hn e5) (.slice b6 t.on e6)) := by
    rw [hV]
    refine ⟨?_, ?_, ?_, ?_, ?_, ?_, ?_, ?_⟩ <;> simp [go_sem, *]
  have HFV : Hid (∀ i, V.frozen? ⟨w2.heap.size, i, none⟩ = false) := fun i => by rw [hV, World.frozen?_setCell, World.frozen?_setCell]; exact yf i
  rw [← hV]
  clear hV v0 v1 v2 v3 v4 v5 v6 v7 y4 y5 yf z4 z5
  have hz0 := HV0s.out
  have hz3 := HS3.out
  have hzb := hb3.size
  have hzw := hw.size
  have HRV : Hid (RdV t (fpG t k) (some ⟨pb, po, none⟩) b1 b2 b5 b6 ra none w1'.heap.size w2.heap.size V) := fun w' hs hk => by
    have e1 : ∀ x, w1'.heap.size ≤ x → x < w2.heap.size → w'.heap[x]? = W3.heap[x]? := fun x x1 x2 => by
      rw [hk x x1 (by omega) (by omega), hw.block x (by omega) (by omega), hB3.block x (by omega)]
    have hi := (HOW.out.keep (w' := w') (by omega) (fun x x1 x2 _ => e1 x x1 x2)).at
    have hl : OwnB w' V0.heap.size w3.heap.size ra (t.g.n1 + t.g.n2) (aZ t.g) := ho3.keep (by omega) (fun x x1 x2 x3 => by
      rw [hk x (by have := HS2.out; omega) (by omega) (by omega), hw.block x (by omega) (by omega)])
    refine ⟨hi.1, hi.2.1, ?_, hi.2.2.2.1, hi.2.2.2.2⟩
    show LogAt w' ra none (fpG t k)
    rw [HGG.out]
    exact ⟨hl.at, .inl rfl⟩
  have HVW : Hid (Below w.heap.size w V) := hw.below (below_then (below_then HB.out HB3.out) hB3) (by have := HS2.out; have := HB.out.size; omega)
  have HNV : Hid (w2.heap.size < V.heap.size) := by show _ < _; omega
  have HZV : Hid (ZR V (w.heap.size + 1)) := (HZ.out.below (below_then HB3.out hB3)).block (hw.block _ (by have := HZ0.out; have := HB3.out.size; omega) (by have := HZ0.out; have := HS2.out; omega))
  have HG12 : Hid ((fpG t k).n1 = t.g.n1 + t.g.n2 ∧ (fpG t k).n2 = 0) := by show _ ∧ _; rw [HGG.out]; exact ⟨rfl, rfl⟩
  clear hw hb3 hB3 ho3 hz0 hz3 hzb hzw z1 p0 p1 p2 hf2
  have HUN : ∃ y3 n3 f3 y4 n4 f4, Hid (BoxS V w2.heap.size (.int .i64 t.nx) (.slice (some ⟨pb, po, none⟩) t.pn e0) (.slice b1 t.d.n e1) (.slice b2 t.d.m e2) (.slice y3 n3 f3) (.slice y4 n4 f4) (.slice b5 t.hn e5) (.slice b6 t.on e6)) ∧ Hid (RdV t (fpG t k) (some ⟨pb, po, none⟩) b1 b2 b5 b6 y3 y4 w1'.heap.size w2.heap.size V) ∧ Hid ((fpG t k).n1 = n3 ∧ (fpG t k).n2 = n4) := ⟨ra, (t.g.n1 + t.g.n2), rc, none, 0, 0, HBV, HRV, HG12⟩
  clear HBV HRV HG12 HGG
  obtain ⟨y3, n3, f3, y4, n4, f4, HBV, HRV, HG12⟩ := HUN
  rotate_left
  have hf2 : ¬ wrap64 ((t.g.n1 : Int) / 13) < (t.pT k).lsn := by have hz := (lgC_zero HGD.out.lg).1; unfold wrap64; omega
  have HGG : Hid (fpG t k = t.g) := by
    have hfl' : ¬ (((t.g.n1 / 13 : Nat) : Int) < (t.pT k).lsn) := by omega
    show fpG t k = _
    unfold fpG
    rw [if_neg hfl']
  clear hfl
  go_quiet (fail)
  go_upto_region 9 with fail
  obtain ⟨V, hV⟩ : ∃ y, y = W3.drewN nq := ⟨_, rfl⟩
  have hB3 : Below W3.heap.size W3 V := by rw [hV]; exact below_drewN (Below.refl _ _) _
  have hzV : V.heap.size = W3.heap.size := by rw [hV]; rfl
  rw [← hV]
  clear hV
  have hz3 := HS3.out
  have HBV : Hid (BoxS V w2.heap.size (.int .i64 t.nx) (.slice (some ⟨pb, po, none⟩) t.pn e0) (.slice b1 t.d.n e1) (.slice b2 t.d.m e2) (.slice b3 t.g.n1 e3) (.slice b4 t.g.n2 e4) (.slice b5 t.hn e5) (.slice b6 t.on e6)) := HBX.out.below hB3
  have HFV : Hid (∀ i, V.frozen? ⟨w2.heap.size, i, none⟩ = false) := fun i => (hB3.frozen (p := ⟨w2.heap.size, i, none⟩) (by show w2.heap.size < W3.heap.size; omega)).trans (HFX.out i)
  have HRV : Hid (RdV t (fpG t k) (some ⟨pb, po, none⟩) b1 b2 b5 b6 b3 b4 w1'.heap.size w2.heap.size V) := fun w' hs hk => by
    have hi := (HOW.out.keep (w' := w') (by omega) (fun x x1 x2 _ => (hk x x1 (by omega) (by omega)).trans (hB3.block x (by omega)))).at
    refine ⟨hi.1, hi.2.1, ?_, hi.2.2.2.1, hi.2.2.2.2⟩
    show LogAt w' b3 b4 (fpG t k)
    rw [HGG.out]
    exact hi.2.2.1
  have HVW : Hid (Below w.heap.size w V) := below_then (below_then HB.out HB3.out) hB3
  have HNV : Hid (w2.heap.size < V.heap.size) := by show _ < _; omega
  have HZV : Hid (ZR V (w.heap.size + 1)) := HZ.out.below (below_then HB3.out hB3)
  have HG12 : Hid ((fpG t k).n1 = t.g.n1 ∧ (fpG t k).n2 = t.g.n2) := by show _ ∧ _; rw [HGG.out]; exact ⟨rfl, rfl⟩
  clear hB3 hzV hz3 z1 z4 z5 p0 p1 p2 hf2
  have HUN : ∃ y3 n3 f3 y4 n4 f4, Hid (BoxS V w2.heap.size (.int .i64 t.nx) (.slice (some ⟨pb, po, none⟩) t.pn e0) (.slice b1 t.d.n e1) (.slice b2 t.d.m e2) (.slice y3 n3 f3) (.slice y4 n4 f4) (.slice b5 t.hn e5) (.slice b6 t.on e6)) ∧ Hid (RdV t (fpG t k) (some ⟨pb, po, none⟩) b1 b2 b5 b6 y3 y4 w1'.heap.size w2.heap.size V) ∧ Hid ((fpG t k).n1 = n3 ∧ (fpG t k).n2 = n4) := ⟨b3, t.g.n1, e3, b4, t.g.n2, e4, HBV, HRV, HG12⟩
  clear HBV HRV HG12 HGG
  obtain ⟨y3, n3, f3, y4, n4, f4, HBV, HRV, HG12⟩ := HUN
  all_goals
    obtain ⟨ca, cc, HCV⟩ : ∃ ca cc, Hid (CPg V pb (po + k * 3) (t.pT k) ca cc) := by
      rcases HRV.out.at.1 with q | ⟨b, off, q1, _, q2⟩
      · have e : t.pn = 0 := q
        have := HGD.out.pn
        omega
      · injection q1 with q1
        injection q1 with q11 q12
        subst q11 q12
        obtain ⟨a0, c0, r1, _, _⟩ := q2 k (by have := HGD.out.pn; show k < t.pn; omega)
        exact ⟨a0, c0, r1⟩
    have HPB : Hid (pb < V.heap.size) := Go.block_lt_of_cell HCV.out.1
    have HGP : Hid (GoodP (t.pT k).id (t.pT k).lsn (t.pT k).cn (t.pT k).cK (t.pT k).cV) := good_of (HGD.out.pg k hk4).1
    have HKP : Hid (k < t.pn) := by have := HGD.out.pn; show k < t.pn; omega
    have HGDd : Hid (GoodD t.d) := goodD_of HGD.out.df
    have HLR : Hid (w.heap.size + 1 < w1'.heap.size ∧ w1'.heap.size ≤ w2.heap.size ∧ w2.heap.size < V.heap.size) := ⟨HZ0.out, HS2.out, HNV.out⟩
    clear HBX HFX HOW HZ HCPg
    have HK9 : Hid (∀ u u' : World, Below u.heap.size u u' → (u.cell? ⟨w2.heap.size, 1, none⟩ = some (.slice (some ⟨pb, po, none⟩) t.pn e0) ∧ u.cell? ⟨w2.heap.size, 2, none⟩ = some (.slice b1 t.d.n e1) ∧ u.cell? ⟨w2.heap.size, 3, none⟩ = some (.slice b2 t.d.m e2)) ∧ CPg u pb (po + k * 3) (t.pT k) ca cc → (u'.cell? ⟨w2.heap.size, 1, none⟩ = some (.slice (some ⟨pb, po, none⟩) t.pn e0) ∧ u'.cell? ⟨w2.heap.size, 2, none⟩ = some (.slice b1 t.d.n e1) ∧ u'.cell? ⟨w2.heap.size, 3, none⟩ = some (.slice b2 t.d.m e2)) ∧ CPg u' pb (po + k * 3) (t.pT k) ca cc) := fun u u' hb hS => ⟨⟨cell_below hS.1.1 hb, cell_below hS.1.2.1 hb, cell_below hS.1.2.2 hb⟩, cell_below hS.2.1 hb, cell_below hS.2.2.1 hb, cell_below hS.2.2.2 hb⟩
    have HKW : Hid (∀ (u u' : World) (B : Nat), V.heap.size ≤ B → Writes B (B + 1) u u' → (u.cell? ⟨w2.heap.size, 1, none⟩ = some (.slice (some ⟨pb, po, none⟩) t.pn e0) ∧ u.cell? ⟨w2.heap.size, 2, none⟩ = some (.slice b1 t.d.n e1) ∧ u.cell? ⟨w2.heap.size, 3, none⟩ = some (.slice b2 t.d.m e2)) ∧ CPg u pb (po + k * 3) (t.pT k) ca cc → (u'.cell? ⟨w2.heap.size, 1, none⟩ = some (.slice (some ⟨pb, po, none⟩) t.pn e0) ∧ u'.cell? ⟨w2.heap.size, 2, none⟩ = some (.slice b1 t.d.n e1) ∧ u'.cell? ⟨w2.heap.size, 3, none⟩ = some (.slice b2 t.d.m e2)) ∧ CPg u' pb (po + k * 3) (t.pT k) ca cc) := fun u u' B hB hw hS => by
      have h1 := HNV.out
      have h2 := HPB.out
      exact ⟨⟨cell_writes hS.1.1 hw (.inl (by omega)), cell_writes hS.1.2.1 hw (.inl (by omega)), cell_writes hS.1.2.2 hw (.inl (by omega))⟩, cell_writes hS.2.1 hw (.inl (by omega)), cell_writes hS.2.2.1 hw (.inl (by omega)), cell_writes hS.2.2.2 hw (.inl (by omega))⟩
    refine wp_region_E 15 (S := fun u => (u.cell? ⟨w2.heap.size, 1, none⟩ = some (.slice (some ⟨pb, po, none⟩) t.pn e0) ∧ u.cell? ⟨w2.heap.size, 2, none⟩ = some (.slice b1 t.d.n e1) ∧ u.cell? ⟨w2.heap.size, 3, none⟩ = some (.slice b2 t.d.m e2)) ∧ CPg u pb (po + k * 3) (t.pT k) ca cc) (by kernel_rfl) ⟨⟨HBV.out.2.1, HBV.out.2.2.1, HBV.out.2.2.2.1⟩, HCV.out⟩ (fun hS => ?_)
    obtain ⟨y0, hy0⟩ : ∃ y, y = V.drew := ⟨_, rfl⟩
    have HVY : Hid (Below V.heap.size V y0) := by rw [hy0]; exact (Below.refl _ _).drew
    have HYS : Hid (y0.heap.size = V.heap.size) := by rw [hy0]; rfl
    rw [← hy0] at hS ⊢
    clear hy0
    refine wpAnyE_takeD (L := 15) (i := 0) (v := .pointer (some ⟨w2.heap.size, 2, none⟩)) (some 37) rfl rfl (by kernel_rfl) (by kernel_rfl) (by kernel_rfl) (by kernel_rfl) (fun _ _ _ h => h) (Or.inl ⟨by kernel_rfl, by intro u hSu; go_simp⟩) hS ?_
    try simp only [Act.put, List.setIfInBounds_toArray, List.set_cons_zero, List.set_cons_succ]
    refine wpAnyE_takeD (L := 15) (i := 1) (v := .agg #[.slice b1 t.d.n e1, .slice b2 t.d.m e2]) (some 38) rfl rfl (by kernel_rfl) (by kernel_rfl) (by kernel_rfl) (by kernel_rfl) (fun _ _ _ h => h) (Or.inl ⟨by kernel_rfl, by intro u hSu; obtain ⟨⟨g1, g2, g3⟩, -⟩ := hSu; go_simp⟩) hS ?_
    try simp only [Act.put, List.setIfInBounds_toArray, List.set_cons_zero, List.set_cons_succ]
    refine wpAnyE_takeD (L := 15) (i := 2) (v := .int .i64 (k : Int)) (some 39) rfl rfl (by kernel_rfl) (by kernel_rfl) (by kernel_rfl) (by kernel_rfl) (fun _ _ _ h => h) (Or.inl ⟨by kernel_rfl, by intro u hSu; go_simp⟩) hS ?_
    try simp only [Act.put, List.setIfInBounds_toArray, List.set_cons_zero, List.set_cons_succ]
    refine wpAnyE_takeD (L := 15) (i := 3) (v := .pointer (some ⟨w2.heap.size, 1, none⟩)) (some 40) rfl rfl (by kernel_rfl) (by kernel_rfl) (by kernel_rfl) (by kernel_rfl) (fun _ _ _ h => h) (Or.inl ⟨by kernel_rfl, by intro u hSu; go_simp⟩) hS ?_
    try simp only [Act.put, List.setIfInBounds_toArray, List.set_cons_zero, List.set_cons_succ]
    refine wpAnyE_takeD (L := 15) (i := 4) (v := .slice (some ⟨pb, po, none⟩) t.pn e0) (some 41) rfl rfl (by kernel_rfl) (by kernel_rfl) (by kernel_rfl) (by kernel_rfl) (fun _ _ _ h => h) (Or.inl ⟨by kernel_rfl, by intro u hSu; obtain ⟨⟨g1, g2, g3⟩, -⟩ := hSu; go_simp⟩) hS ?_
    try simp only [Act.put, List.setIfInBounds_toArray, List.set_cons_zero, List.set_cons_succ]
    refine wpAnyE_takeD (L := 15) (i := 5) (v := .int .i64 (k : Int)) (some 42) rfl rfl (by kernel_rfl) (by kernel_rfl) (by kernel_rfl) (by kernel_rfl) (fun _ _ _ h => h) (Or.inl ⟨by kernel_rfl, by intro u hSu; go_simp⟩) hS ?_
    try simp only [Act.put, List.setIfInBounds_toArray, List.set_cons_zero, List.set_cons_succ]
    refine wpAnyE_takeD (L := 15) (i := 6) (v := .pointer (some ⟨pb, po + k * 3, none⟩)) (some 43) rfl rfl (by kernel_rfl) (by kernel_rfl) (by kernel_rfl) (by kernel_rfl) (fun _ _ _ h => h) (Or.inl ⟨by kernel_rfl, by intro u hSu; go_simp⟩) hS ?_
    try simp only [Act.put, List.setIfInBounds_toArray, List.set_cons_zero, List.set_cons_succ]
    refine wpAnyE_takeD (L := 15) (i := 7) (v := .agg #[.int .i64 (t.pT k).id, .int .i64 (t.pT k).lsn, .slice ca (t.pT k).cn cc]) (some 44) rfl rfl (by kernel_rfl) (by kernel_rfl) (by kernel_rfl) (by kernel_rfl) (fun _ _ _ h => h) (Or.inl ⟨by kernel_rfl, by intro u hSu; obtain ⟨-, g4, g5, g6⟩ := hSu; go_simp⟩) hS ?_
    try simp only [Act.put, List.setIfInBounds_toArray, List.set_cons_zero, List.set_cons_succ]
    by_cases hm : t.d.m ≤ 57
    · have HM57 : Hid (t.d.m ≤ 57) := hm
      clear hm
      have HFD : Hid (fpD t k = plD t.d (k : Int) (fpZ t k)) := by show fpD t k = _; unfold fpD; rw [if_neg (by have := HM57.out; omega)]
      refine wpAnyE_ready (rs := [8, 13]) (by kernel_rfl) (by simp) ?_
      refine AllReadyE.cons rfl (fun K9 hK => ?_) (AllReadyE.cons rfl (fun K9 hK => ?_) AllReadyE.nil)
      go_simp
      refine (specPk_any (t.pT k).id (t.pT k).lsn (t.pT k).cn (t.pT k).cK (t.pT k).cV ca cc y0 HGP.out (HRV.out.cells HKP.out HVY.out hS.2)).mono ?_
      rintro e w5 ⟨vp, rfl, hb_w5, ho_w5⟩
      obtain ⟨gp, cp, rfl, hcp, hpy⟩ := packed_form ho_w5 (pgb_48 HGP.out.gn)
      refine hK.out _ _ (HK9.out _ _ hb_w5 hS) (fun hS9 => ?_)
      try simp only [Act.put, List.setIfInBounds_toArray, List.set_cons_zero, List.set_cons_succ]
      clear hK K9 hS
      have hS := hS9
      clear hS9
      have HB5 : Hid (Below V.heap.size V w5) := below_then HVY.out hb_w5
      clear hb_w5 ho_w5
      refine wpAnyE_ready (rs := [9, 13]) (by kernel_rfl) (by simp) ?_
      refine AllReadyE.cons rfl (fun K9 hK => ?_) (AllReadyE.cons rfl (fun K9 hK => ?_) AllReadyE.nil)
      go_simp
      refine (l2Place_ok t.d.n t.d.m t.d.L t.d.Z t.d.P t.d.T t.d.M t.d.Y (k : Int) (fpZ t k) b1 b2 (some ⟨gp, 0, none⟩) e1 e2 cp w5 HGDd.out.n8 HM57.out hcp HGDd.out.L HGDd.out.M (HRV.out.below HB5.out).2.1.1 (HRV.out.below HB5.out).2.1.2 hpy).mono ?_
      rintro e w6 ⟨a5, c5, a6, c6, rfl, hb6, hop, hol⟩
      refine hK.out _ _ (HK9.out _ _ hb6 hS) (fun hS9 => ?_)
      try simp only [Act.put, List.setIfInBounds_toArray, List.set_cons_zero, List.set_cons_succ]
      clear hK K9 hS
      have hS := hS9
      clear hS9
      refine wpAnyE_takeD (L := 15) (i := 10) (v := .tuple #[.agg #[.slice a5 t.d.n c5, .slice a6 (t.d.m + 3) c6], .int .i64 0]) (some 36) rfl rfl (by kernel_rfl) (by kernel_rfl) (by kernel_rfl) (by kernel_rfl) (fun _ _ _ h => h) (Or.inl ⟨by kernel_rfl, by intro u hSu; go_simp⟩) hS ?_
      try simp only [Act.put, List.setIfInBounds_toArray, List.set_cons_zero, List.set_cons_succ]
      refine wpAnyE_takeD (L := 15) (i := 11) (v := .agg #[.slice a5 t.d.n c5, .slice a6 (t.d.m + 3) c6]) (some 47) rfl rfl (by kernel_rfl) (by kernel_rfl) (by kernel_rfl) (by kernel_rfl) (fun _ _ _ h => h) (Or.inl ⟨by kernel_rfl, by intro u hSu; go_simp⟩) hS ?_
      try simp only [Act.put, List.setIfInBounds_toArray, List.set_cons_zero, List.set_cons_succ]
      refine wpAnyE_takeD (L := 15) (i := 12) (v := .int .i64 0) (some 48) rfl rfl (by kernel_rfl) (by kernel_rfl) (by kernel_rfl) (by kernel_rfl) (fun _ _ _ h => h) (Or.inl ⟨by kernel_rfl, by intro u hSu; go_simp⟩) hS ?_
      try simp only [Act.put, List.setIfInBounds_toArray, List.set_cons_zero, List.set_cons_succ]
      have hS6 := hS
      refine wpAnyE_ready (rs := [13]) (by kernel_rfl) (by simp) ?_
      refine AllReadyE.cons rfl (fun K9 hK => ?_) AllReadyE.nil
      go_simp
      refine hK.out _ _ (HK9.out _ _ (below_new _ _) hS) (fun hS9 => ?_)
      try simp only [Act.put, List.setIfInBounds_toArray, List.set_cons_zero, List.set_cons_succ]
      clear hK K9 hS
      have hS := hS9
      clear hS9
      refine wpAnyE_ready (rs := [14]) (by kernel_rfl) (by simp) ?_
      refine AllReadyE.cons rfl (fun K9 hK => ?_) AllReadyE.nil
      go_simp
      refine hK.out _ _ (HK9.out _ _ (below_new _ _) hS6) (fun hS9 => ?_)
      try simp only [Act.put, List.setIfInBounds_toArray, List.set_cons_zero, List.set_cons_succ]
      clear hK K9 hS
      have hS := hS9
      clear hS9
      clear hS6
      refine wpAnyE_ready (rs := [15]) (by kernel_rfl) (by simp) ?_
      refine AllReadyE.last rfl (fun K9 hK => ?_)
      go_simp
      refine hK.out _ _ ?_
      try simp only [Act.put, List.setIfInBounds_toArray, List.set_cons_zero, List.set_cons_succ]
      clear hK K9 hS
      refine wpAnyE_done (by kernel_rfl) ?_ _
      go_simp
      obtain ⟨X, hX⟩ : ∃ y, y = w6.alloc (.cells #[.slice a5 t.d.n c5, .slice a6 (t.d.m + 3) c6] 38) := ⟨_, rfl⟩
      have HXB : Hid (Below V.heap.size V X) := by rw [hX]; exact below_then (below_then HB5.out hb6) (below_new _ _)
      have HX2 : Hid (Box2 X w6.heap.size (.slice a5 t.d.n c5) (.slice a6 (t.d.m + 3) c6)) := by rw [hX]; exact Box2.new _ _ _ _
      have HXO : Hid (OwnR X w5.heap.size w6.heap.size a5 a6 (fpD t k)) := by rw [hX, HFD.out]; exact ⟨hop.below (below_new _ _), hol.below (below_new _ _)⟩
      have HXL : Hid (V.heap.size ≤ w5.heap.size ∧ w6.heap.size ≤ X.heap.size ∧ V.heap.size ≤ w6.heap.size) := by have z1 := HB5.out.size; have z2 := hb6.size; rw [hX]; show _ ∧ _; rw [World.size_alloc]; omega
      rw [← hX]
      clear hX hb6 hop hol
      obtain ⟨dX, hdX⟩ : ∃ n, n = w6.heap.size := ⟨_, rfl⟩
      rw [← hdX] at HX2 HXL HXO ⊢
      obtain ⟨lX, hlX⟩ : ∃ n, n = w5.heap.size := ⟨_, rfl⟩
      rw [← hlX] at HXL HXO
      obtain ⟨gX, hgX⟩ : ∃ n, n = dX := ⟨_, rfl⟩
      rw [← hgX] at HXO
      replace HXL : Hid (V.heap.size ≤ lX ∧ gX ≤ X.heap.size ∧ V.heap.size ≤ dX) := by show _ ∧ _; rw [hgX]; exact HXL.out
      clear hdX hlX hgX
      rotate_left
      go_simp
      refine hK.out _ _ (HK9.out _ _ (below_new _ _) hS) (fun hS9 => ?_)
      try simp only [Act.put, List.setIfInBounds_toArray, List.set_cons_zero, List.set_cons_succ]
      clear hK K9 hS
      have hS := hS9
      clear hS9
      obtain ⟨y1, hy1⟩ : ∃ z, z = w5.alloc (.cells #[.slice none 0 0, .slice none 0 0] 38) := ⟨_, rfl⟩
      have HYA : Hid (Below w5.heap.size w5 y1) := by rw [hy1]; exact below_new _ _
      have HB2 : Hid (Box2 y1 w5.heap.size (.slice none 0 0) (.slice none 0 0)) := by rw [hy1]; exact Box2.new _ _ _ _
      have HF2 : Hid (∀ i, y1.frozen? ⟨w5.heap.size, i, none⟩ = false) := fun i => by rw [hy1]; simp [go_sem]
      have HS1 : Hid (y1.heap.size = w5.heap.size + 1) := by rw [hy1]; simp [Hid]
      rw [← hy1] at hS ⊢
      clear hy1
      refine wpAnyE_ready (rs := [9]) (by kernel_rfl) (by simp) ?_
      refine AllReadyE.cons rfl (fun K9 hK => ?_) AllReadyE.nil
      go_simp
      have hpy0 := hpy
      clear hpy
      have hpy := hpy0.below HYA.out
      refine (l2Place_ok t.d.n t.d.m t.d.L t.d.Z t.d.P t.d.T t.d.M t.d.Y (k : Int) (fpZ t k) b1 b2 (some ⟨gp, 0, none⟩) e1 e2 cp y1 HGDd.out.n8 HM57.out hcp HGDd.out.L HGDd.out.M (HRV.out.below (below_then HB5.out HYA.out)).2.1.1 (HRV.out.below (below_then HB5.out HYA.out)).2.1.2 hpy).mono ?_
      rintro e w6 ⟨a5, c5, a6, c6, rfl, hb6, hop, hol⟩
      obtain ⟨r0, r1⟩ := HB2.out.below hb6
      have rf6 : ∀ i, w6.frozen? ⟨w5.heap.size, i, none⟩ = false := fun i => (hb6.frozen (p := ⟨w5.heap.size, i, none⟩) (by have := HS1.out; show w5.heap.size < y1.heap.size; omega)).trans (HF2.out i)
      have HLO : Hid (w5.heap.size < y1.heap.size) := by have := HS1.out; show _ < _; omega
      refine hK.out _ _ (HK9.out _ _ hb6 hS) (fun hS9 => ?_)
      try simp only [Act.put, List.setIfInBounds_toArray, List.set_cons_zero, List.set_cons_succ]
      clear hK K9 hS
      have hS := hS9
      clear hS9
      refine wpAnyE_takeD (L := 15) (i := 10) (v := .tuple #[.agg #[.slice a5 t.d.n c5, .slice a6 (t.d.m + 3) c6], .int .i64 0]) (some 36) rfl rfl (by kernel_rfl) (by kernel_rfl) (by kernel_rfl) (by kernel_rfl) (fun _ _ _ h => h) (Or.inl ⟨by kernel_rfl, by intro u hSu; go_simp⟩) hS ?_
      try simp only [Act.put, List.setIfInBounds_toArray, List.set_cons_zero, List.set_cons_succ]
      refine wpAnyE_takeD (L := 15) (i := 11) (v := .agg #[.slice a5 t.d.n c5, .slice a6 (t.d.m + 3) c6]) (some 47) rfl rfl (by kernel_rfl) (by kernel_rfl) (by kernel_rfl) (by kernel_rfl) (fun _ _ _ h => h) (Or.inl ⟨by kernel_rfl, by intro u hSu; go_simp⟩) hS ?_
      try simp only [Act.put, List.setIfInBounds_toArray, List.set_cons_zero, List.set_cons_succ]
      refine wpAnyE_takeD (L := 15) (i := 12) (v := .int .i64 0) (some 48) rfl rfl (by kernel_rfl) (by kernel_rfl) (by kernel_rfl) (by kernel_rfl) (fun _ _ _ h => h) (Or.inl ⟨by kernel_rfl, by intro u hSu; go_simp⟩) hS ?_
      try simp only [Act.put, List.setIfInBounds_toArray, List.set_cons_zero, List.set_cons_succ]
      have hzV : V.heap.size ≤ w5.heap.size := by first | exact HB5.out.size | exact Nat.le_of_eq HYS.out.symm
      have hzb := ((below_then HB5.out HYA.out)).size
      have hz6 := hb6.size
      have hSW : Writes w5.heap.size (w5.heap.size + 1) w6 ((w6.setCell ⟨w5.heap.size, 0, none⟩ (.slice a5 t.d.n c5)).setCell ⟨w5.heap.size, 1, none⟩ (.slice a6 (t.d.m + 3) c6)) := ((Writes.refl _ _ _).setCell (p := ⟨w5.heap.size, 0, none⟩) (Nat.le_refl _) (Nat.lt_succ_self _) _).setCell (p := ⟨w5.heap.size, 1, none⟩) (Nat.le_refl _) (Nat.lt_succ_self _) _
      refine wpAnyE_ready (rs := [14]) (by kernel_rfl) (by simp) ?_
      refine AllReadyE.cons rfl (fun K9 hK => ?_) AllReadyE.nil
      go_simp
      refine hK.out _ _ (HKW.out _ _ _ hzV hSW hS) (fun hS9 => ?_)
      try simp only [Act.put, List.setIfInBounds_toArray, List.set_cons_zero, List.set_cons_succ]
      clear hK K9 hS
      have hS := hS9
      clear hS9
      refine wpAnyE_ready (rs := [15]) (by kernel_rfl) (by simp) ?_
      refine AllReadyE.last rfl (fun K9 hK => ?_)
      go_simp
      refine hK.out _ _ ?_
      try simp only [Act.put, List.setIfInBounds_toArray, List.set_cons_zero, List.set_cons_succ]
      clear hK K9 hS
      refine wpAnyE_done (by kernel_rfl) ?_ _
      go_simp
      obtain ⟨X, hX⟩ : ∃ z, z = (w6.setCell ⟨w5.heap.size, 0, none⟩ (.slice a5 t.d.n c5)).setCell ⟨w5.heap.size, 1, none⟩ (.slice a6 (t.d.m + 3) c6) := ⟨_, rfl⟩
      have HX2 : Hid (Box2 X w5.heap.size (.slice a5 t.d.n c5) (.slice a6 (t.d.m + 3) c6)) := by rw [hX]; exact ⟨by rw [setO (by omega)]; exact setS r0, setS (by rw [setO (by omega)]; exact r1)⟩
      rw [← hX] at hSW ⊢
      clear hX
      have HXB : Hid (Below V.heap.size V X) := hSW.below (below_then (below_then HB5.out HYA.out) hb6) hzV
      have HXO : Hid (OwnR X y1.heap.size w6.heap.size a5 a6 (fpD t k)) := by
        show OwnR _ _ _ _ _ _
        rw [HFD.out]
        exact ⟨hop.writes hSW (.inr (by have := HLO.out; omega)), hol.writes hSW (.inr (by have := HLO.out; omega))⟩
      have HXL : Hid (V.heap.size ≤ y1.heap.size ∧ w6.heap.size ≤ X.heap.size ∧ V.heap.size ≤ w5.heap.size) := ⟨hzb, hSW.size, hzV⟩
      clear hSW hb6 hop hol r0 r1 rf6
      obtain ⟨dX, hdX⟩ : ∃ n, n = w5.heap.size := ⟨_, rfl⟩
      rw [← hdX] at HX2 HXL ⊢
      obtain ⟨lX, hlX⟩ : ∃ n, n = y1.heap.size := ⟨_, rfl⟩
      rw [← hlX] at HXL HXO
      obtain ⟨gX, hgX⟩ : ∃ n, n = w6.heap.size := ⟨_, rfl⟩
      rw [← hgX] at HXL HXO
      clear hdX hlX hgX
      rotate_left
      go_simp
      refine hK.out _ _ (HK9.out _ _ (below_new _ _) hS) (fun hS9 => ?_)
      try simp only [Act.put, List.setIfInBounds_toArray, List.set_cons_zero, List.set_cons_succ]
      clear hK K9 hS
      have hS := hS9
      clear hS9
      obtain ⟨y1, hy1⟩ : ∃ z, z = y0.alloc (.cells #[.slice none 0 0, .slice none 0 0] 38) := ⟨_, rfl⟩
      have HYA : Hid (Below y0.heap.size y0 y1) := by rw [hy1]; exact below_new _ _
      have HB2 : Hid (Box2 y1 y0.heap.size (.slice none 0 0) (.slice none 0 0)) := by rw [hy1]; exact Box2.new _ _ _ _
      have HF2 : Hid (∀ i, y1.frozen? ⟨y0.heap.size, i, none⟩ = false) := fun i => by rw [hy1]; simp [go_sem]
      have HS1 : Hid (y1.heap.size = y0.heap.size + 1) := by rw [hy1]; simp [Hid]
      rw [← hy1] at hS ⊢
      clear hy1
      refine wpAnyE_ready (rs := [8]) (by kernel_rfl) (by simp) ?_
      refine AllReadyE.cons rfl (fun K9 hK => ?_) AllReadyE.nil
      go_simp
      refine (specPk_any (t.pT k).id (t.pT k).lsn (t.pT k).cn (t.pT k).cK (t.pT k).cV ca cc y1 HGP.out (HRV.out.cells HKP.out (below_then HVY.out HYA.out) hS.2)).mono ?_
      rintro e w5 ⟨vp, rfl, hb_w5, ho_w5⟩
      obtain ⟨gp, cp, rfl, hcp, hpy⟩ := packed_form ho_w5 (pgb_48 HGP.out.gn)
      refine hK.out _ _ (HK9.out _ _ hb_w5 hS) (fun hS9 => ?_)
      try simp only [Act.put, List.setIfInBounds_toArray, List.set_cons_zero, List.set_cons_succ]
      clear hK K9 hS
      have hS := hS9
      clear hS9
      have HB5 : Hid (Below V.heap.size V w5) := below_then (below_then HVY.out HYA.out) hb_w5
      replace HB2 : Hid (Box2 w5 y0.heap.size (.slice none 0 0) (.slice none 0 0)) := HB2.out.below hb_w5
      replace HF2 : Hid (∀ i, w5.frozen? ⟨y0.heap.size, i, none⟩ = false) := fun i => (hb_w5.frozen (p := ⟨y0.heap.size, i, none⟩) (by have := HS1.out; show y0.heap.size < y1.heap.size; omega)).trans (HF2.out i)
      have HZ5 : Hid (y0.heap.size < w5.heap.size) := by have := HS1.out; have := hb_w5.size; show _ < _; omega
      clear hb_w5 ho_w5
      refine wpAnyE_ready (rs := [9]) (by kernel_rfl) (by simp) ?_
      refine AllReadyE.cons rfl (fun K9 hK => ?_) AllReadyE.nil
      go_simp
      refine (l2Place_ok t.d.n t.d.m t.d.L t.d.Z t.d.P t.d.T t.d.M t.d.Y (k : Int) (fpZ t k) b1 b2 (some ⟨gp, 0, none⟩) e1 e2 cp w5 HGDd.out.n8 HM57.out hcp HGDd.out.L HGDd.out.M (HRV.out.below HB5.out).2.1.1 (HRV.out.below HB5.out).2.1.2 hpy).mono ?_
      rintro e w6 ⟨a5, c5, a6, c6, rfl, hb6, hop, hol⟩
      obtain ⟨r0, r1⟩ := HB2.out.below hb6
      have rf6 : ∀ i, w6.frozen? ⟨y0.heap.size, i, none⟩ = false := fun i => (hb6.frozen (p := ⟨y0.heap.size, i, none⟩) HZ5.out).trans (HF2.out i)
      have HLO : Hid (y0.heap.size < w5.heap.size) := HZ5.out
      refine hK.out _ _ (HK9.out _ _ hb6 hS) (fun hS9 => ?_)
      try simp only [Act.put, List.setIfInBounds_toArray, List.set_cons_zero, List.set_cons_succ]
      clear hK K9 hS
      have hS := hS9
      clear hS9
      refine wpAnyE_takeD (L := 15) (i := 10) (v := .tuple #[.agg #[.slice a5 t.d.n c5, .slice a6 (t.d.m + 3) c6], .int .i64 0]) (some 36) rfl rfl (by kernel_rfl) (by kernel_rfl) (by kernel_rfl) (by kernel_rfl) (fun _ _ _ h => h) (Or.inl ⟨by kernel_rfl, by intro u hSu; go_simp⟩) hS ?_
      try simp only [Act.put, List.setIfInBounds_toArray, List.set_cons_zero, List.set_cons_succ]
      refine wpAnyE_takeD (L := 15) (i := 11) (v := .agg #[.slice a5 t.d.n c5, .slice a6 (t.d.m + 3) c6]) (some 47) rfl rfl (by kernel_rfl) (by kernel_rfl) (by kernel_rfl) (by kernel_rfl) (fun _ _ _ h => h) (Or.inl ⟨by kernel_rfl, by intro u hSu; go_simp⟩) hS ?_
      try simp only [Act.put, List.setIfInBounds_toArray, List.set_cons_zero, List.set_cons_succ]
      refine wpAnyE_takeD (L := 15) (i := 12) (v := .int .i64 0) (some 48) rfl rfl (by kernel_rfl) (by kernel_rfl) (by kernel_rfl) (by kernel_rfl) (fun _ _ _ h => h) (Or.inl ⟨by kernel_rfl, by intro u hSu; go_simp⟩) hS ?_
      try simp only [Act.put, List.setIfInBounds_toArray, List.set_cons_zero, List.set_cons_succ]
      have hzV : V.heap.size ≤ y0.heap.size := by first | exact HB5.out.size | exact Nat.le_of_eq HYS.out.symm
      have hzb := (HB5.out).size
      have hz6 := hb6.size
      have hSW : Writes y0.heap.size (y0.heap.size + 1) w6 ((w6.setCell ⟨y0.heap.size, 0, none⟩ (.slice a5 t.d.n c5)).setCell ⟨y0.heap.size, 1, none⟩ (.slice a6 (t.d.m + 3) c6)) := ((Writes.refl _ _ _).setCell (p := ⟨y0.heap.size, 0, none⟩) (Nat.le_refl _) (Nat.lt_succ_self _) _).setCell (p := ⟨y0.heap.size, 1, none⟩) (Nat.le_refl _) (Nat.lt_succ_self _) _
      refine wpAnyE_ready (rs := [14]) (by kernel_rfl) (by simp) ?_
      refine AllReadyE.cons rfl (fun K9 hK => ?_) AllReadyE.nil
      go_simp
      refine hK.out _ _ (HKW.out _ _ _ hzV hSW hS) (fun hS9 => ?_)
      try simp only [Act.put, List.setIfInBounds_toArray, List.set_cons_zero, List.set_cons_succ]
      clear hK K9 hS
      have hS := hS9
      clear hS9
      refine wpAnyE_ready (rs := [15]) (by kernel_rfl) (by simp) ?_
      refine AllReadyE.last rfl (fun K9 hK => ?_)
      go_simp
      refine hK.out _ _ ?_
      try simp only [Act.put, List.setIfInBounds_toArray, List.set_cons_zero, List.set_cons_succ]
      clear hK K9 hS
      refine wpAnyE_done (by kernel_rfl) ?_ _
      go_simp
      obtain ⟨X, hX⟩ : ∃ z, z = (w6.setCell ⟨y0.heap.size, 0, none⟩ (.slice a5 t.d.n c5)).setCell ⟨y0.heap.size, 1, none⟩ (.slice a6 (t.d.m + 3) c6) := ⟨_, rfl⟩
      have HX2 : Hid (Box2 X y0.heap.size (.slice a5 t.d.n c5) (.slice a6 (t.d.m + 3) c6)) := by rw [hX]; exact ⟨by rw [setO (by omega)]; exact setS r0, setS (by rw [setO (by omega)]; exact r1)⟩
      rw [← hX] at hSW ⊢
      clear hX
      have HXB : Hid (Below V.heap.size V X) := hSW.below (below_then HB5.out hb6) hzV
      have HXO : Hid (OwnR X w5.heap.size w6.heap.size a5 a6 (fpD t k)) := by
        show OwnR _ _ _ _ _ _
        rw [HFD.out]
        exact ⟨hop.writes hSW (.inr (by have := HLO.out; omega)), hol.writes hSW (.inr (by have := HLO.out; omega))⟩
      have HXL : Hid (V.heap.size ≤ w5.heap.size ∧ w6.heap.size ≤ X.heap.size ∧ V.heap.size ≤ y0.heap.size) := ⟨hzb, hSW.size, hzV⟩
      clear hSW hb6 hop hol r0 r1 rf6
      obtain ⟨dX, hdX⟩ : ∃ n, n = y0.heap.size := ⟨_, rfl⟩
      rw [← hdX] at HX2 HXL ⊢
      obtain ⟨lX, hlX⟩ : ∃ n, n = w5.heap.size := ⟨_, rfl⟩
      rw [← hlX] at HXL HXO
      obtain ⟨gX, hgX⟩ : ∃ n, n = w6.heap.size := ⟨_, rfl⟩
      rw [← hgX] at HXL HXO
      clear hdX hlX hgX
      all_goals
        have HF : Hid (∀ w9, WritesP (fun q => q = w.heap.size + 1 ∨ q = w2.heap.size) X w9 → SRr 0 0 (fpS t k) w (.returned (.agg #[.int .i64 0, .int .i64 0, .int .i64 t.nx, .slice (some ⟨pb, po, none⟩) t.pn e0, .slice a5 t.d.n c5, .slice a6 (t.d.m + 3) c6, .slice y3 n3 f3, .slice y4 n4 f4, .slice b5 t.hn e5, .slice b6 t.on e6])) w9) := fun w9 h9 => by
          have g1 : (fpS t k).d.n = t.d.n := by show (fpD t k).n = _; rw [HFD.out]; rfl
          have g2 : (fpS t k).d.m = (t.d.m + 3) := by show (fpD t k).m = _; rw [HFD.out]; rfl
          have g3 : (fpS t k).g.n1 = n3 := HG12.out.1
          have g4 : (fpS t k).g.n2 = n4 := HG12.out.2
          refine ⟨some ⟨pb, po, none⟩, e0, a5, c5, a6, c6, y3, f3, y4, f4, b5, e5, b6, e6, ?_, sfp_end HRV.out HVW.out HLR.out.1 HLR.out.2.1 HLR.out.2.2 HXB.out HXO.out HXL.out.1 HXL.out.2.1 (Nat.le_succ _) h9⟩
          rw [g1, g2, g3, g4] <;> rfl
        obtain ⟨q0, q1, q2, q3, q4, q5, q6, q7⟩ := HBV.out.below HXB.out
        have qf : ∀ i, X.frozen? ⟨w2.heap.size, i, none⟩ = false := fun i => (HXB.out.frozen (p := ⟨w2.heap.size, i, none⟩) HNV.out).trans (HFV.out i)
        obtain ⟨d0, d1⟩ := HX2.out
        obtain ⟨⟨r0, r1, r2, r3, r4, r5, r6, r7, r8, r9⟩, rf⟩ := HZV.out.below HXB.out
        have hne2 : ¬ (w.heap.size + 1 = w2.heap.size) := by have := HLR.out; omega
        have hne4 : ¬ (w2.heap.size = w.heap.size + 1) := by have := HLR.out; omega
        have hne5 : ¬ (dX = w2.heap.size) := by have := HLR.out; have := HXL.out; omega
        have hne6 : ¬ (w2.heap.size = dX) := by have := HLR.out; have := HXL.out; omega
        clear HRV HVW HBV HFV HZV HXB HXO HX2 HCV
        go_wp2_with fail
        refine bodyPost_ret (v := .agg #[.int .i64 0, .int .i64 0, .int .i64 t.nx, .slice (some ⟨pb, po, none⟩) t.pn e0, .slice a5 t.d.n c5, .slice a6 (t.d.m + 3) c6, .slice y3 n3 f3, .slice y4 n4 f4, .slice b5 t.hn e5, .slice b6 t.on e6]) (by simp [results, Tryz.results7, go_sem, *]) rfl ?_
        rw [HC.out, HT.out]
        refine HF.out _ ?_
        repeat (first | with_reducible exact WritesP.refl _ _ | with_reducible refine WritesP.setCell ?_ (by first | exact Or.inl rfl | exact Or.inr rfl) _)
    · have HM57 : Hid (57 < t.d.m) := Nat.lt_of_not_le hm
      clear hm
      have HFD : Hid (fpD t k = plD (syD t.d idF t.d.m) (k : Int) (fpZ t k)) := by show fpD t k = _; unfold fpD; rw [if_pos HM57.out]
      refine wpAnyE_ready (rs := [8, 13]) (by kernel_rfl) (by simp) ?_
      refine AllReadyE.cons rfl (fun K9 hK => ?_) (AllReadyE.cons rfl (fun K9 hK => ?_) AllReadyE.nil)
      go_simp
      refine (specPk_any (t.pT k).id (t.pT k).lsn (t.pT k).cn (t.pT k).cK (t.pT k).cV ca cc y0 HGP.out (HRV.out.cells HKP.out HVY.out hS.2)).mono ?_
      rintro e w5 ⟨vp, rfl, hb_w5, ho_w5⟩
      obtain ⟨gp, cp, rfl, hcp, hpy⟩ := packed_form ho_w5 (pgb_48 HGP.out.gn)
      refine hK.out _ _ (HK9.out _ _ hb_w5 hS) (fun hS9 => ?_)
      try simp only [Act.put, List.setIfInBounds_toArray, List.set_cons_zero, List.set_cons_succ]
      clear hK K9 hS
      have hS := hS9
      clear hS9
      have HB5 : Hid (Below V.heap.size V w5) := below_then HVY.out hb_w5
      clear hb_w5 ho_w5
      refine wpAnyE_ready (rs := [9, 13]) (by kernel_rfl) (by simp) ?_
      refine AllReadyE.cons rfl (fun K9 hK => ?_) (AllReadyE.cons rfl (fun K9 hK => ?_) AllReadyE.nil)
      go_simp
      refine (l2Place_many t.d.n t.d.m (k : Int) b1 b2 e1 e2 (.slice (some ⟨gp, 0, none⟩) 48 cp) w5 HM57.out (by have := HGDd.out.m; omega)).mono ?_
      rintro e w6 ⟨rfl, hb6⟩
      refine hK.out _ _ (HK9.out _ _ hb6 hS) (fun hS9 => ?_)
      try simp only [Act.put, List.setIfInBounds_toArray, List.set_cons_zero, List.set_cons_succ]
      clear hK K9 hS
      have hS := hS9
      clear hS9
      refine wpAnyE_takeD (L := 15) (i := 10) (v := .tuple #[.agg #[.slice b1 t.d.n e1, .slice b2 t.d.m e2], .int .i64 2]) (some 36) rfl rfl (by kernel_rfl) (by kernel_rfl) (by kernel_rfl) (by kernel_rfl) (fun _ _ _ h => h) (Or.inl ⟨by kernel_rfl, by intro u hSu; go_simp⟩) hS ?_
      try simp only [Act.put, List.setIfInBounds_toArray, List.set_cons_zero, List.set_cons_succ]
      refine wpAnyE_takeD (L := 15) (i := 11) (v := .agg #[.slice b1 t.d.n e1, .slice b2 t.d.m e2]) (some 47) rfl rfl (by kernel_rfl) (by kernel_rfl) (by kernel_rfl) (by kernel_rfl) (fun _ _ _ h => h) (Or.inl ⟨by kernel_rfl, by intro u hSu; go_simp⟩) hS ?_
      try simp only [Act.put, List.setIfInBounds_toArray, List.set_cons_zero, List.set_cons_succ]
      refine wpAnyE_takeD (L := 15) (i := 12) (v := .int .i64 2) (some 48) rfl rfl (by kernel_rfl) (by kernel_rfl) (by kernel_rfl) (by kernel_rfl) (fun _ _ _ h => h) (Or.inl ⟨by kernel_rfl, by intro u hSu; go_simp⟩) hS ?_
      try simp only [Act.put, List.setIfInBounds_toArray, List.set_cons_zero, List.set_cons_succ]
      have hS6 := hS
      refine wpAnyE_ready (rs := [13]) (by kernel_rfl) (by simp) ?_
      refine AllReadyE.cons rfl (fun K9 hK => ?_) AllReadyE.nil
      go_simp
      refine hK.out _ _ (HK9.out _ _ (below_new _ _) hS) (fun hS9 => ?_)
      try simp only [Act.put, List.setIfInBounds_toArray, List.set_cons_zero, List.set_cons_succ]
      clear hK K9 hS
      have hS := hS9
      clear hS9
      refine wpAnyE_ready (rs := [14]) (by kernel_rfl) (by simp) ?_
      refine AllReadyE.cons rfl (fun K9 hK => ?_) AllReadyE.nil
      go_simp
      refine hK.out _ _ (HK9.out _ _ (below_new _ _) hS6) (fun hS9 => ?_)
      try simp only [Act.put, List.setIfInBounds_toArray, List.set_cons_zero, List.set_cons_succ]
      clear hK K9 hS
      have hS := hS9
      clear hS9
      clear hS6
      refine wpAnyE_ready (rs := [15]) (by kernel_rfl) (by simp) ?_
      refine AllReadyE.last rfl (fun K9 hK => ?_)
      go_simp
      refine hK.out _ _ ?_
      try simp only [Act.put, List.setIfInBounds_toArray, List.set_cons_zero, List.set_cons_succ]
      clear hK K9 hS
      refine wpAnyE_done (by kernel_rfl) ?_ _
      go_simp
      obtain ⟨X, hX⟩ : ∃ y, y = w6.alloc (.cells #[.slice b1 t.d.n e1, .slice b2 t.d.m e2] 38) := ⟨_, rfl⟩
      have HXB : Hid (Below V.heap.size V X) := by rw [hX]; exact below_then (below_then HB5.out hb6) (below_new _ _)
      have HX2 : Hid (Box2 X w6.heap.size (.slice b1 t.d.n e1) (.slice b2 t.d.m e2)) := by rw [hX]; exact Box2.new _ _ _ _
      have HXF : Hid (∀ i, X.frozen? ⟨w6.heap.size, i, none⟩ = false) := fun i => by rw [hX]; simp [go_sem]
      have HXL : Hid (V.heap.size ≤ w6.heap.size ∧ w6.heap.size < X.heap.size) := ⟨by have z1 := HB5.out.size; have z2 := hb6.size; omega, HX2.out.lt⟩
      rw [← hX]
      clear hX hb6 hpy hcp
      obtain ⟨dX, hdX⟩ : ∃ n, n = w6.heap.size := ⟨_, rfl⟩
      rw [← hdX] at HX2 HXL HXF ⊢
      clear hdX
      rotate_left
      go_simp
      refine hK.out _ _ (HK9.out _ _ (below_new _ _) hS) (fun hS9 => ?_)
      try simp only [Act.put, List.setIfInBounds_toArray, List.set_cons_zero, List.set_cons_succ]
      clear hK K9 hS
      have hS := hS9
      clear hS9
      obtain ⟨y1, hy1⟩ : ∃ z, z = w5.alloc (.cells #[.slice none 0 0, .slice none 0 0] 38) := ⟨_, rfl⟩
      have HYA : Hid (Below w5.heap.size w5 y1) := by rw [hy1]; exact below_new _ _
      have HB2 : Hid (Box2 y1 w5.heap.size (.slice none 0 0) (.slice none 0 0)) := by rw [hy1]; exact Box2.new _ _ _ _
      have HF2 : Hid (∀ i, y1.frozen? ⟨w5.heap.size, i, none⟩ = false) := fun i => by rw [hy1]; simp [go_sem]
      have HS1 : Hid (y1.heap.size = w5.heap.size + 1) := by rw [hy1]; simp [Hid]
      rw [← hy1] at hS ⊢
      clear hy1
      refine wpAnyE_ready (rs := [9]) (by kernel_rfl) (by simp) ?_
      refine AllReadyE.cons rfl (fun K9 hK => ?_) AllReadyE.nil
      go_simp
      refine (l2Place_many t.d.n t.d.m (k : Int) b1 b2 e1 e2 (.slice (some ⟨gp, 0, none⟩) 48 cp) y1 HM57.out (by have := HGDd.out.m; omega)).mono ?_
      rintro e w6 ⟨rfl, hb6⟩
      obtain ⟨r0, r1⟩ := HB2.out.below hb6
      have rf6 : ∀ i, w6.frozen? ⟨w5.heap.size, i, none⟩ = false := fun i => (hb6.frozen (p := ⟨w5.heap.size, i, none⟩) (by have := HS1.out; show w5.heap.size < y1.heap.size; omega)).trans (HF2.out i)
      have HLO : Hid (w5.heap.size < y1.heap.size) := by have := HS1.out; show _ < _; omega
      refine hK.out _ _ (HK9.out _ _ hb6 hS) (fun hS9 => ?_)
      try simp only [Act.put, List.setIfInBounds_toArray, List.set_cons_zero, List.set_cons_succ]
      clear hK K9 hS
      have hS := hS9
      clear hS9
      refine wpAnyE_takeD (L := 15) (i := 10) (v := .tuple #[.agg #[.slice b1 t.d.n e1, .slice b2 t.d.m e2], .int .i64 2]) (some 36) rfl rfl (by kernel_rfl) (by kernel_rfl) (by kernel_rfl) (by kernel_rfl) (fun _ _ _ h => h) (Or.inl ⟨by kernel_rfl, by intro u hSu; go_simp⟩) hS ?_
      try simp only [Act.put, List.setIfInBounds_toArray, List.set_cons_zero, List.set_cons_succ]
      refine wpAnyE_takeD (L := 15) (i := 11) (v := .agg #[.slice b1 t.d.n e1, .slice b2 t.d.m e2]) (some 47) rfl rfl (by kernel_rfl) (by kernel_rfl) (by kernel_rfl) (by kernel_rfl) (fun _ _ _ h => h) (Or.inl ⟨by kernel_rfl, by intro u hSu; go_simp⟩) hS ?_
      try simp only [Act.put, List.setIfInBounds_toArray, List.set_cons_zero, List.set_cons_succ]
      refine wpAnyE_takeD (L := 15) (i := 12) (v := .int .i64 2) (some 48) rfl rfl (by kernel_rfl) (by kernel_rfl) (by kernel_rfl) (by kernel_rfl) (fun _ _ _ h => h) (Or.inl ⟨by kernel_rfl, by intro u hSu; go_simp⟩) hS ?_
      try simp only [Act.put, List.setIfInBounds_toArray, List.set_cons_zero, List.set_cons_succ]
      have hzV : V.heap.size ≤ w5.heap.size := by first | exact HB5.out.size | exact Nat.le_of_eq HYS.out.symm
      have hz6 := hb6.size
      have hSW : Writes w5.heap.size (w5.heap.size + 1) w6 ((w6.setCell ⟨w5.heap.size, 0, none⟩ (.slice b1 t.d.n e1)).setCell ⟨w5.heap.size, 1, none⟩ (.slice b2 t.d.m e2)) := ((Writes.refl _ _ _).setCell (p := ⟨w5.heap.size, 0, none⟩) (Nat.le_refl _) (Nat.lt_succ_self _) _).setCell (p := ⟨w5.heap.size, 1, none⟩) (Nat.le_refl _) (Nat.lt_succ_self _) _
      refine wpAnyE_ready (rs := [14]) (by kernel_rfl) (by simp) ?_
      refine AllReadyE.cons rfl (fun K9 hK => ?_) AllReadyE.nil
      go_simp
      refine hK.out _ _ (HKW.out _ _ _ hzV hSW hS) (fun hS9 => ?_)
      try simp only [Act.put, List.setIfInBounds_toArray, List.set_cons_zero, List.set_cons_succ]
      clear hK K9 hS
      have hS := hS9
      clear hS9
      refine wpAnyE_ready (rs := [15]) (by kernel_rfl) (by simp) ?_
      refine AllReadyE.last rfl (fun K9 hK => ?_)
      go_simp
      refine hK.out _ _ ?_
      try simp only [Act.put, List.setIfInBounds_toArray, List.set_cons_zero, List.set_cons_succ]
      clear hK K9 hS
      refine wpAnyE_done (by kernel_rfl) ?_ _
      go_simp
      obtain ⟨X, hX⟩ : ∃ z, z = (w6.setCell ⟨w5.heap.size, 0, none⟩ (.slice b1 t.d.n e1)).setCell ⟨w5.heap.size, 1, none⟩ (.slice b2 t.d.m e2) := ⟨_, rfl⟩
      have HX2 : Hid (Box2 X w5.heap.size (.slice b1 t.d.n e1) (.slice b2 t.d.m e2)) := by rw [hX]; exact ⟨by rw [setO (by omega)]; exact setS r0, setS (by rw [setO (by omega)]; exact r1)⟩
      have HXF : Hid (∀ i, X.frozen? ⟨w5.heap.size, i, none⟩ = false) := fun i => by rw [hX, World.frozen?_setCell, World.frozen?_setCell]; exact rf6 i
      rw [← hX] at hSW ⊢
      clear hX
      have HXB : Hid (Below V.heap.size V X) := hSW.below (below_then (below_then HB5.out HYA.out) hb6) hzV
      have HXL : Hid (V.heap.size ≤ w5.heap.size ∧ w5.heap.size < X.heap.size) := ⟨hzV, HX2.out.lt⟩
      clear hSW hb6 r0 r1 rf6 hpy hcp
      obtain ⟨dX, hdX⟩ : ∃ n, n = w5.heap.size := ⟨_, rfl⟩
      rw [← hdX] at HX2 HXL HXF ⊢
      clear hdX hzV hz6
      rotate_left
      go_simp
      refine hK.out _ _ (HK9.out _ _ (below_new _ _) hS) (fun hS9 => ?_)
      try simp only [Act.put, List.setIfInBounds_toArray, List.set_cons_zero, List.set_cons_succ]
      clear hK K9 hS
      have hS := hS9
      clear hS9
      obtain ⟨y1, hy1⟩ : ∃ z, z = y0.alloc (.cells #[.slice none 0 0, .slice none 0 0] 38) := ⟨_, rfl⟩
      have HYA : Hid (Below y0.heap.size y0 y1) := by rw [hy1]; exact below_new _ _
      have HB2 : Hid (Box2 y1 y0.heap.size (.slice none 0 0) (.slice none 0 0)) := by rw [hy1]; exact Box2.new _ _ _ _
      have HF2 : Hid (∀ i, y1.frozen? ⟨y0.heap.size, i, none⟩ = false) := fun i => by rw [hy1]; simp [go_sem]
      have HS1 : Hid (y1.heap.size = y0.heap.size + 1) := by rw [hy1]; simp [Hid]
      rw [← hy1] at hS ⊢
      clear hy1
      refine wpAnyE_ready (rs := [8]) (by kernel_rfl) (by simp) ?_
      refine AllReadyE.cons rfl (fun K9 hK => ?_) AllReadyE.nil
      go_simp
      refine (specPk_any (t.pT k).id (t.pT k).lsn (t.pT k).cn (t.pT k).cK (t.pT k).cV ca cc y1 HGP.out (HRV.out.cells HKP.out (below_then HVY.out HYA.out) hS.2)).mono ?_
      rintro e w5 ⟨vp, rfl, hb_w5, ho_w5⟩
      obtain ⟨gp, cp, rfl, hcp, hpy⟩ := packed_form ho_w5 (pgb_48 HGP.out.gn)
      refine hK.out _ _ (HK9.out _ _ hb_w5 hS) (fun hS9 => ?_)
      try simp only [Act.put, List.setIfInBounds_toArray, List.set_cons_zero, List.set_cons_succ]
      clear hK K9 hS
      have hS := hS9
      clear hS9
      have HB5 : Hid (Below V.heap.size V w5) := below_then (below_then HVY.out HYA.out) hb_w5
      replace HB2 : Hid (Box2 w5 y0.heap.size (.slice none 0 0) (.slice none 0 0)) := HB2.out.below hb_w5
      replace HF2 : Hid (∀ i, w5.frozen? ⟨y0.heap.size, i, none⟩ = false) := fun i => (hb_w5.frozen (p := ⟨y0.heap.size, i, none⟩) (by have := HS1.out; show y0.heap.size < y1.heap.size; omega)).trans (HF2.out i)
      have HZ5 : Hid (y0.heap.size < w5.heap.size) := by have := HS1.out; have := hb_w5.size; show _ < _; omega
      clear hb_w5 ho_w5
      refine wpAnyE_ready (rs := [9]) (by kernel_rfl) (by simp) ?_
      refine AllReadyE.cons rfl (fun K9 hK => ?_) AllReadyE.nil
      go_simp
      refine (l2Place_many t.d.n t.d.m (k : Int) b1 b2 e1 e2 (.slice (some ⟨gp, 0, none⟩) 48 cp) w5 HM57.out (by have := HGDd.out.m; omega)).mono ?_
      rintro e w6 ⟨rfl, hb6⟩
      obtain ⟨r0, r1⟩ := HB2.out.below hb6
      have rf6 : ∀ i, w6.frozen? ⟨y0.heap.size, i, none⟩ = false := fun i => (hb6.frozen (p := ⟨y0.heap.size, i, none⟩) HZ5.out).trans (HF2.out i)
      refine hK.out _ _ (HK9.out _ _ hb6 hS) (fun hS9 => ?_)
      try simp only [Act.put, List.setIfInBounds_toArray, List.set_cons_zero, List.set_cons_succ]
      clear hK K9 hS
      have hS := hS9
      clear hS9
      refine wpAnyE_takeD (L := 15) (i := 10) (v := .tuple #[.agg #[.slice b1 t.d.n e1, .slice b2 t.d.m e2], .int .i64 2]) (some 36) rfl rfl (by kernel_rfl) (by kernel_rfl) (by kernel_rfl) (by kernel_rfl) (fun _ _ _ h => h) (Or.inl ⟨by kernel_rfl, by intro u hSu; go_simp⟩) hS ?_
      try simp only [Act.put, List.setIfInBounds_toArray, List.set_cons_zero, List.set_cons_succ]
      refine wpAnyE_takeD (L := 15) (i := 11) (v := .agg #[.slice b1 t.d.n e1, .slice b2 t.d.m e2]) (some 47) rfl rfl (by kernel_rfl) (by kernel_rfl) (by kernel_rfl) (by kernel_rfl) (fun _ _ _ h => h) (Or.inl ⟨by kernel_rfl, by intro u hSu; go_simp⟩) hS ?_
      try simp only [Act.put, List.setIfInBounds_toArray, List.set_cons_zero, List.set_cons_succ]
      refine wpAnyE_takeD (L := 15) (i := 12) (v := .int .i64 2) (some 48) rfl rfl (by kernel_rfl) (by kernel_rfl) (by kernel_rfl) (by kernel_rfl) (fun _ _ _ h => h) (Or.inl ⟨by kernel_rfl, by intro u hSu; go_simp⟩) hS ?_
      try simp only [Act.put, List.setIfInBounds_toArray, List.set_cons_zero, List.set_cons_succ]
      have hzV : V.heap.size ≤ y0.heap.size := by first | exact HB5.out.size | exact Nat.le_of_eq HYS.out.symm
      have hz6 := hb6.size
      have hSW : Writes y0.heap.size (y0.heap.size + 1) w6 ((w6.setCell ⟨y0.heap.size, 0, none⟩ (.slice b1 t.d.n e1)).setCell ⟨y0.heap.size, 1, none⟩ (.slice b2 t.d.m e2)) := ((Writes.refl _ _ _).setCell (p := ⟨y0.heap.size, 0, none⟩) (Nat.le_refl _) (Nat.lt_succ_self _) _).setCell (p := ⟨y0.heap.size, 1, none⟩) (Nat.le_refl _) (Nat.lt_succ_self _) _
      refine wpAnyE_ready (rs := [14]) (by kernel_rfl) (by simp) ?_
      refine AllReadyE.cons rfl (fun K9 hK => ?_) AllReadyE.nil
      go_simp
      refine hK.out _ _ (HKW.out _ _ _ hzV hSW hS) (fun hS9 => ?_)
      try simp only [Act.put, List.setIfInBounds_toArray, List.set_cons_zero, List.set_cons_succ]
      clear hK K9 hS
      have hS := hS9
      clear hS9
      refine wpAnyE_ready (rs := [15]) (by kernel_rfl) (by simp) ?_
      refine AllReadyE.last rfl (fun K9 hK => ?_)
      go_simp
      refine hK.out _ _ ?_
      try simp only [Act.put, List.setIfInBounds_toArray, List.set_cons_zero, List.set_cons_succ]
      clear hK K9 hS
      refine wpAnyE_done (by kernel_rfl) ?_ _
      go_simp
      obtain ⟨X, hX⟩ : ∃ z, z = (w6.setCell ⟨y0.heap.size, 0, none⟩ (.slice b1 t.d.n e1)).setCell ⟨y0.heap.size, 1, none⟩ (.slice b2 t.d.m e2) := ⟨_, rfl⟩
      have HX2 : Hid (Box2 X y0.heap.size (.slice b1 t.d.n e1) (.slice b2 t.d.m e2)) := by rw [hX]; exact ⟨by rw [setO (by omega)]; exact setS r0, setS (by rw [setO (by omega)]; exact r1)⟩
      have HXF : Hid (∀ i, X.frozen? ⟨y0.heap.size, i, none⟩ = false) := fun i => by rw [hX, World.frozen?_setCell, World.frozen?_setCell]; exact rf6 i
      rw [← hX] at hSW ⊢
      clear hX
      have HXB : Hid (Below V.heap.size V X) := hSW.below (below_then HB5.out hb6) hzV
      have HXL : Hid (V.heap.size ≤ y0.heap.size ∧ y0.heap.size < X.heap.size) := ⟨hzV, HX2.out.lt⟩
      clear hSW hb6 r0 r1 rf6 hpy hcp
      obtain ⟨dX, hdX⟩ : ∃ n, n = y0.heap.size := ⟨_, rfl⟩
      rw [← hdX] at HX2 HXL HXF ⊢
      clear hdX hzV hz6
      all_goals
        obtain ⟨-, q1, q2, q3, -⟩ := HBV.out.below HXB.out
        have hcX : CPg X pb (po + k * 3) (t.pT k) ca cc := ⟨cell_below HCV.out.1 HXB.out, cell_below HCV.out.2.1 HXB.out, cell_below HCV.out.2.2 HXB.out⟩
        go_upto_region 11 with fail
        refine wp_region_E 15 (S := fun u => (u.cell? ⟨w2.heap.size, 1, none⟩ = some (.slice (some ⟨pb, po, none⟩) t.pn e0) ∧ u.cell? ⟨w2.heap.size, 2, none⟩ = some (.slice b1 t.d.n e1) ∧ u.cell? ⟨w2.heap.size, 3, none⟩ = some (.slice b2 t.d.m e2)) ∧ CPg u pb (po + k * 3) (t.pT k) ca cc) (by kernel_rfl) ⟨⟨q1, q2, q3⟩, hcX⟩ (fun hS => ?_)
        clear q1 q2 q3 hcX
        obtain ⟨z0, hz0⟩ : ∃ y, y = X.drew := ⟨_, rfl⟩
        have HVZ : Hid (Below V.heap.size V z0) := by rw [hz0]; exact HXB.out.drew
        have HZX : Hid (Below X.heap.size X z0) := by rw [hz0]; exact (Below.refl _ _).drew
        rw [← hz0] at hS ⊢
        clear hz0
        refine wpAnyE_takeD (L := 15) (i := 0) (v := .pointer (some ⟨w2.heap.size, 2, none⟩)) (some 52) rfl rfl (by kernel_rfl) (by kernel_rfl) (by kernel_rfl) (by kernel_rfl) (fun _ _ _ h => h) (Or.inl ⟨by kernel_rfl, by intro u hSu; go_simp⟩) hS ?_
        try simp only [Act.put, List.setIfInBounds_toArray, List.set_cons_zero, List.set_cons_succ]
        refine wpAnyE_takeD (L := 15) (i := 1) (v := .agg #[.slice b1 t.d.n e1, .slice b2 t.d.m e2]) (some 53) rfl rfl (by kernel_rfl) (by kernel_rfl) (by kernel_rfl) (by kernel_rfl) (fun _ _ _ h => h) (Or.inl ⟨by kernel_rfl, by intro u hSu; obtain ⟨⟨g1, g2, g3⟩, -⟩ := hSu; go_simp⟩) hS ?_
        try simp only [Act.put, List.setIfInBounds_toArray, List.set_cons_zero, List.set_cons_succ]
        refine wpAnyE_takeD (L := 15) (i := 3) (v := .int .i64 (k : Int)) (some 55) rfl rfl (by kernel_rfl) (by kernel_rfl) (by kernel_rfl) (by kernel_rfl) (fun _ _ _ h => h) (Or.inl ⟨by kernel_rfl, by intro u hSu; go_simp⟩) hS ?_
        try simp only [Act.put, List.setIfInBounds_toArray, List.set_cons_zero, List.set_cons_succ]
        refine wpAnyE_takeD (L := 15) (i := 4) (v := .pointer (some ⟨w2.heap.size, 1, none⟩)) (some 56) rfl rfl (by kernel_rfl) (by kernel_rfl) (by kernel_rfl) (by kernel_rfl) (fun _ _ _ h => h) (Or.inl ⟨by kernel_rfl, by intro u hSu; go_simp⟩) hS ?_
        try simp only [Act.put, List.setIfInBounds_toArray, List.set_cons_zero, List.set_cons_succ]
        refine wpAnyE_takeD (L := 15) (i := 5) (v := .slice (some ⟨pb, po, none⟩) t.pn e0) (some 57) rfl rfl (by kernel_rfl) (by kernel_rfl) (by kernel_rfl) (by kernel_rfl) (fun _ _ _ h => h) (Or.inl ⟨by kernel_rfl, by intro u hSu; obtain ⟨⟨g1, g2, g3⟩, -⟩ := hSu; go_simp⟩) hS ?_
        try simp only [Act.put, List.setIfInBounds_toArray, List.set_cons_zero, List.set_cons_succ]
        refine wpAnyE_takeD (L := 15) (i := 6) (v := .int .i64 (k : Int)) (some 58) rfl rfl (by kernel_rfl) (by kernel_rfl) (by kernel_rfl) (by kernel_rfl) (fun _ _ _ h => h) (Or.inl ⟨by kernel_rfl, by intro u hSu; go_simp⟩) hS ?_
        try simp only [Act.put, List.setIfInBounds_toArray, List.set_cons_zero, List.set_cons_succ]
        refine wpAnyE_takeD (L := 15) (i := 7) (v := .pointer (some ⟨pb, po + k * 3, none⟩)) (some 59) rfl rfl (by kernel_rfl) (by kernel_rfl) (by kernel_rfl) (by kernel_rfl) (fun _ _ _ h => h) (Or.inl ⟨by kernel_rfl, by intro u hSu; go_simp⟩) hS ?_
        try simp only [Act.put, List.setIfInBounds_toArray, List.set_cons_zero, List.set_cons_succ]
        refine wpAnyE_takeD (L := 15) (i := 8) (v := .agg #[.int .i64 (t.pT k).id, .int .i64 (t.pT k).lsn, .slice ca (t.pT k).cn cc]) (some 60) rfl rfl (by kernel_rfl) (by kernel_rfl) (by kernel_rfl) (by kernel_rfl) (fun _ _ _ h => h) (Or.inl ⟨by kernel_rfl, by intro u hSu; obtain ⟨-, g4, g5, g6⟩ := hSu; go_simp⟩) hS ?_
        try simp only [Act.put, List.setIfInBounds_toArray, List.set_cons_zero, List.set_cons_succ]
        refine wpAnyE_ready (rs := [2]) (by kernel_rfl) (by simp) ?_
        refine AllReadyE.cons rfl (fun K9 hK => ?_) AllReadyE.nil
        go_simp
        refine (l2Sync_any t.d b1 b2 e1 e2 z0 HGDd.out (HRV.out.below HVZ.out).2.1).mono ?_
        rintro e w7 ⟨s1, sc, rfl, hb_w7, hos⟩
        refine hK.out _ _ (HK9.out _ _ hb_w7 hS) (fun hS9 => ?_)
        try simp only [Act.put, List.setIfInBounds_toArray, List.set_cons_zero, List.set_cons_succ]
        clear hK K9 hS
        have hS := hS9
        clear hS9
        refine wpAnyE_ready (rs := [9]) (by kernel_rfl) (by simp) ?_
        refine AllReadyE.cons rfl (fun K9 hK => ?_) AllReadyE.nil
        go_simp
        refine (specPk_any (t.pT k).id (t.pT k).lsn (t.pT k).cn (t.pT k).cK (t.pT k).cV ca cc w7 HGP.out (HRV.out.cells HKP.out (below_then HVZ.out hb_w7) hS.2)).mono ?_
        rintro e w8 ⟨vp, rfl, hb_w8, ho_w8⟩
        obtain ⟨gp, cp, rfl, hcp, hpy⟩ := packed_form ho_w8 (pgb_48 HGP.out.gn)
        refine hK.out _ _ (HK9.out _ _ hb_w8 hS) (fun hS9 => ?_)
        try simp only [Act.put, List.setIfInBounds_toArray, List.set_cons_zero, List.set_cons_succ]
        clear hK K9 hS
        have hS := hS9
        clear hS9
        have HX8 : Hid (Below X.heap.size X w8) := below_then (below_then HZX.out hb_w7) hb_w8
        have HOS : Hid (OwnP w8 z0.heap.size w7.heap.size s1 t.d.n (fun _ => 48) (stl t.d idF t.d.m)) := hos.below hb_w8
        have HPY : Hid (BytesAt w8 (some ⟨gp, 0, none⟩) 48 (fpZ t k)) := hpy
        clear hos hb_w7 hb_w8 ho_w8 hpy
        refine wpAnyE_ready (rs := [10]) (by kernel_rfl) (by simp) ?_
        refine AllReadyE.cons rfl (fun K9 hK => ?_) AllReadyE.nil
        go_simp
        refine (l2Place_zero t.d.n (stl t.d idF t.d.m) (k : Int) (fpZ t k) s1 (some ⟨gp, 0, none⟩) sc cp w8 HGDd.out.n8 hcp HOS.out.at HPY.out).mono ?_
        rintro e w9 ⟨a5, c5, a6, c6, rfl, hb9, hop, hol⟩
        obtain ⟨r0, r1⟩ := HX2.out.below (below_then HX8.out hb9)
        have rf6 : ∀ i, w9.frozen? ⟨dX, i, none⟩ = false := fun i => ((below_then HX8.out hb9).frozen (p := ⟨dX, i, none⟩) HXL.out.2).trans (HXF.out i)
        refine hK.out _ _ (HK9.out _ _ hb9 hS) (fun hS9 => ?_)
        try simp only [Act.put, List.setIfInBounds_toArray, List.set_cons_zero, List.set_cons_succ]
        clear hK K9 hS
        have hS := hS9
        clear hS9
        refine wpAnyE_takeD (L := 15) (i := 11) (v := .tuple #[.agg #[.slice a5 t.d.n c5, .slice a6 3 c6], .int .i64 0]) (some 51) rfl rfl (by kernel_rfl) (by kernel_rfl) (by kernel_rfl) (by kernel_rfl) (fun _ _ _ h => h) (Or.inl ⟨by kernel_rfl, by intro u hSu; go_simp⟩) hS ?_
        try simp only [Act.put, List.setIfInBounds_toArray, List.set_cons_zero, List.set_cons_succ]
        refine wpAnyE_takeD (L := 15) (i := 12) (v := .agg #[.slice a5 t.d.n c5, .slice a6 3 c6]) (some 63) rfl rfl (by kernel_rfl) (by kernel_rfl) (by kernel_rfl) (by kernel_rfl) (fun _ _ _ h => h) (Or.inl ⟨by kernel_rfl, by intro u hSu; go_simp⟩) hS ?_
        try simp only [Act.put, List.setIfInBounds_toArray, List.set_cons_zero, List.set_cons_succ]
        refine wpAnyE_takeD (L := 15) (i := 13) (v := .int .i64 0) (some 64) rfl rfl (by kernel_rfl) (by kernel_rfl) (by kernel_rfl) (by kernel_rfl) (fun _ _ _ h => h) (Or.inl ⟨by kernel_rfl, by intro u hSu; go_simp⟩) hS ?_
        try simp only [Act.put, List.setIfInBounds_toArray, List.set_cons_zero, List.set_cons_succ]
        have hzV : V.heap.size ≤ dX := HXL.out.1
        have hzd := HXL.out.2
        have hz8 := HX8.out.size
        have hz9 := hb9.size
        have hSW : Writes dX (dX + 1) w9 ((w9.setCell ⟨dX, 0, none⟩ (.slice a5 t.d.n c5)).setCell ⟨dX, 1, none⟩ (.slice a6 3 c6)) := ((Writes.refl _ _ _).setCell (p := ⟨dX, 0, none⟩) (Nat.le_refl _) (Nat.lt_succ_self _) _).setCell (p := ⟨dX, 1, none⟩) (Nat.le_refl _) (Nat.lt_succ_self _) _
        refine wpAnyE_ready (rs := [14]) (by kernel_rfl) (by simp) ?_
        refine AllReadyE.cons rfl (fun K9 hK => ?_) AllReadyE.nil
        go_simp
        refine hK.out _ _ (HKW.out _ _ _ hzV hSW hS) (fun hS9 => ?_)
        try simp only [Act.put, List.setIfInBounds_toArray, List.set_cons_zero, List.set_cons_succ]
        clear hK K9 hS
        have hS := hS9
        clear hS9
        refine wpAnyE_ready (rs := [15]) (by kernel_rfl) (by simp) ?_
        refine AllReadyE.last rfl (fun K9 hK => ?_)
        go_simp
        refine hK.out _ _ ?_
        try simp only [Act.put, List.setIfInBounds_toArray, List.set_cons_zero, List.set_cons_succ]
        clear hK K9 hS
        refine wpAnyE_done (by kernel_rfl) ?_ _
        go_simp
        have hXo := HXB.out
        have hX8 := HX8.out
        clear HX2 HXB HXF HVZ HZX
        obtain ⟨Y, hY⟩ : ∃ z, z = (w9.setCell ⟨dX, 0, none⟩ (.slice a5 t.d.n c5)).setCell ⟨dX, 1, none⟩ (.slice a6 3 c6) := ⟨_, rfl⟩
        have HX2 : Hid (Box2 Y dX (.slice a5 t.d.n c5) (.slice a6 3 c6)) := by rw [hY]; exact ⟨by rw [setO (by omega)]; exact setS r0, setS (by rw [setO (by omega)]; exact r1)⟩
        rw [← hY] at hSW ⊢
        clear hY
        have HXB : Hid (Below V.heap.size V Y) := hSW.below (below_then (below_then hXo hX8) hb9) hzV
        have HXO : Hid (OwnR Y w8.heap.size w9.heap.size a5 a6 (fpD t k)) := by
          show OwnR _ _ _ _ _ _
          rw [HFD.out]
          exact ⟨hop.writes hSW (.inr (by omega)), hol.writes hSW (.inr (by omega))⟩
        replace HXL : Hid (V.heap.size ≤ w8.heap.size ∧ w9.heap.size ≤ Y.heap.size ∧ V.heap.size ≤ dX) := ⟨by omega, hSW.size, hzV⟩
        clear hSW hb9 hop hol r0 r1 rf6 hXo hX8 hz8 hz9 hzd hzV HX8 HOS HPY hcp
        obtain ⟨lX, hlX⟩ : ∃ n, n = w8.heap.size := ⟨_, rfl⟩
        rw [← hlX] at HXL HXO
        obtain ⟨gX, hgX⟩ : ∃ n, n = w9.heap.size := ⟨_, rfl⟩
        rw [← hgX] at HXL HXO
        clear hlX hgX
        have HF : Hid (∀ w9, WritesP (fun q => q = w.heap.size + 1 ∨ q = w2.heap.size) Y w9 → SRr 0 0 (fpS t k) w (.returned (.agg #[.int .i64 0, .int .i64 0, .int .i64 t.nx, .slice (some ⟨pb, po, none⟩) t.pn e0, .slice a5 t.d.n c5, .slice a6 3 c6, .slice y3 n3 f3, .slice y4 n4 f4, .slice b5 t.hn e5, .slice b6 t.on e6])) w9) := fun w9 h9 => by
          have g1 : (fpS t k).d.n = t.d.n := by show (fpD t k).n = _; rw [HFD.out]; rfl
          have g2 : (fpS t k).d.m = 3 := by show (fpD t k).m = _; rw [HFD.out]; rfl
          have g3 : (fpS t k).g.n1 = n3 := HG12.out.1
          have g4 : (fpS t k).g.n2 = n4 := HG12.out.2
          refine ⟨some ⟨pb, po, none⟩, e0, a5, c5, a6, c6, y3, f3, y4, f4, b5, e5, b6, e6, ?_, sfp_end HRV.out HVW.out HLR.out.1 HLR.out.2.1 HLR.out.2.2 HXB.out HXO.out HXL.out.1 HXL.out.2.1 (Nat.le_succ _) h9⟩
          rw [g1, g2, g3, g4] <;> rfl
        obtain ⟨q0, q1, q2, q3, q4, q5, q6, q7⟩ := HBV.out.below HXB.out
        have qf : ∀ i, Y.frozen? ⟨w2.heap.size, i, none⟩ = false := fun i => (HXB.out.frozen (p := ⟨w2.heap.size, i, none⟩) HNV.out).trans (HFV.out i)
        obtain ⟨d0, d1⟩ := HX2.out
        obtain ⟨⟨r0, r1, r2, r3, r4, r5, r6, r7, r8, r9⟩, rf⟩ := HZV.out.below HXB.out
        have hne2 : ¬ (w.heap.size + 1 = w2.heap.size) := by have := HLR.out; omega
        have hne4 : ¬ (w2.heap.size = w.heap.size + 1) := by have := HLR.out; omega
        have hne5 : ¬ (dX = w2.heap.size) := by have := HLR.out; have := HXL.out; omega
        have hne6 : ¬ (w2.heap.size = dX) := by have := HLR.out; have := HXL.out; omega
        clear HRV HVW HBV HFV HZV HXB HXO HX2 HCV
        go_wp2_with fail
        refine bodyPost_ret (v := .agg #[.int .i64 0, .int .i64 0, .int .i64 t.nx, .slice (some ⟨pb, po, none⟩) t.pn e0, .slice a5 t.d.n c5, .slice a6 3 c6, .slice y3 n3 f3, .slice y4 n4 f4, .slice b5 t.hn e5, .slice b6 t.on e6]) (by simp [results, Tryz.results7, go_sem, *]) rfl ?_
        rw [HC.out, HT.out]
        refine HF.out _ ?_
        repeat (first | with_reducible exact WritesP.refl _ _ | with_reducible refine WritesP.setCell ?_ (by first | exact Or.inl rfl | exact Or.inr rfl) _)
end Go.Proofs.YtaokclhcmgbgnaaGreat
