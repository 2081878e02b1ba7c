/- Edges: those of a read: the program. -/
import Derived.Test.YtnmmnhfgkcdajaaEdc
namespace Go.Proofs.Ytnmmnhfgkcdajaa
open Go.RowKit Go.Deep
set_option linter.unusedVariables false
set_option maxRecDepth 20000

theorem r2_yes {r : Hp} {ws : List Int} (h1 : 0 < (nxt ws r.o).length) (h2 : (zI (nxt ws r.o) 0 != r.t) = true) : r2 r ws = [⟨r.t, zI (nxt ws r.o) 0, 4⟩] := by simp only [r2]; rw [if_pos (by rw [h2, decide_eq_true h1]; rfl)]
theorem r2_no {r : Hp} {ws : List Int} (h : ¬ 0 < (nxt ws r.o).length ∨ (zI (nxt ws r.o) 0 != r.t) = false) : r2 r ws = [] := by
  simp only [r2]
  rw [if_neg]
  rcases h with h | h
  · rw [decide_eq_false h]; simp
  · rw [h]; simp
theorem r1_yes {r : Hp} {cm : List Int} (h1 : (r.o != r.t) = true) (h2 : decide (r.o ∈ cm) = true) : r1 r cm = [⟨r.o, r.t, 2⟩] := by simp only [r1]; rw [if_pos (by rw [h1, h2]; rfl)]
theorem r1_no {r : Hp} {cm : List Int} (h : (r.o != r.t) = false ∨ decide (r.o ∈ cm) = false) : r1 r cm = [] := by
  simp only [r1]
  rw [if_neg]
  rcases h with h | h
  · rw [h]; simp
  · rw [h]; simp
theorem below_dr {w w' : World} (h : Below w.heap.size w w') (o : Obj) : Below w.heap.size w (w'.alloc o).drew := (below_then h (below_new _ _)).drew
theorem ed_newd (w : World) (e : Ed) (t : TypeId) : EdsAt (w.alloc (.cells #[.int .i64 e.f, .int .i64 e.t, .int .i64 e.k] t)).drew (some ⟨w.heap.size, 0, none⟩) [e] := (ed_new w e t).below ((Below.refl _ _).drew)
/-- What the tail of edgesOfRead stands on. -/
structure ET (r : Hp) (cm ws : List Int) (wa : Option Addr) (w W : World) (v : Value) : Prop where
  bel : Below w.heap.size w W
  own : OwnE W w.heap.size v (r1 r cm)
  ints : IntsAt W wa ws.length (zI ws)
  box : Box4 W w.heap.size (.int .i64 r.k) (.int .i64 r.t) (.int .i64 r.y) (.int .i64 r.o)
theorem ET.below {r : Hp} {cm ws : List Int} {wa : Option Addr} {w W W' : World} {v : Value} (h : ET r cm ws wa w W v) (hb : Below W.heap.size W W') : ET r cm ws wa w W' v :=
  ⟨below_then h.bel hb, own_belowI h.own hb, h.ints.below hb, h.box.below hb⟩
set_option maxHeartbeats 8000000 in
theorem edgesOfRead_any (r : Hp) (cm ws : List Int) (ca wa : Option Addr) (cc wc : Nat) (w : World) (hcm : cm.length ≤ 100000) (hws : ws.length ≤ 90000) (hwc : ws.length ≤ wc) (hc : IntsAt w ca cm.length (zI cm)) (hw : IntsAt w wa ws.length (zI ws)) :
    Calls Try.prog 71 #[.agg #[.int .i64 r.k, .int .i64 r.t, .int .i64 r.y, .int .i64 r.o], .slice ca cm.length cc, .slice wa ws.length wc] w (ERs (eR r cm ws) w) := by
  have HC : Hid (∀ o, IntsAt (w.alloc o) ca cm.length (zI cm)) := fun o => hc.below (below_new _ _)
  have HHC : Hid (∀ v wv, IntsAt wv ca cm.length (zI cm) → Calls Try.prog 70 #[.slice ca cm.length cc, .int .i64 v] wv fun e w' => e = .returned (.bool (decide (v ∈ cm))) ∧ w' = wv) := fun v wv h => containsI_any cm ca cc v wv hcm h
  have HWB : Hid (∀ wv, IntsAt wv wa ws.length (zI ws) → Calls Try.prog 73 #[.slice wa ws.length wc, .int .i64 r.o] wv (WBs ws r.o wv)) := fun wv h => writersBehind_any ws wa wc r.o wv hws hwc h
  have HT0 : Hid (r1 r cm = [] → ET r cm ws wa w (w.alloc (.cells #[.int .i64 r.k, .int .i64 r.t, .int .i64 r.y, .int .i64 r.o] 50)) (.slice none 0 0)) := fun e =>
    ⟨below_new _ _, by rw [e]; exact World.ownsRow_nil _ _ _ _, hw.below (below_new _ _), Box4.new _ _ _ _ _ _⟩
  have HT1 : Hid (∀ w5 v2, r1 r cm = [⟨r.o, r.t, 2⟩] → Below (w.alloc (.cells #[.int .i64 r.k, .int .i64 r.t, .int .i64 r.y, .int .i64 r.o] 50)).heap.size (w.alloc (.cells #[.int .i64 r.k, .int .i64 r.t, .int .i64 r.y, .int .i64 r.o] 50)) w5 → OwnE w5 w.heap.size v2 ([] ++ [⟨r.o, r.t, 2⟩]) → ET r cm ws wa w w5 v2) := fun w5 v2 e hb ho =>
    ⟨below_then (below_new _ _) hb, by rw [e]; exact ho, hw.below (below_then (below_new _ _) hb), (Box4.new _ _ _ _ _ _).below hb⟩
  obtain ⟨y0, y1, y2, y3⟩ := Box4.new w (.int .i64 r.k) (.int .i64 r.t) (.int .i64 r.y) (.int .i64 r.o) 50
  have HEE : Hid (eR r cm ws = r1 r cm ++ r2 r ws) := rfl
  clear hc hw
  obtain h1 | h1 := boolor (r.o != r.t)
  · obtain h2 | h2 := boolor (decide (r.o ∈ cm))
    · have HR1 := r1_yes h1 h2
      have HON : Hid (∀ o, OwnE ((w.alloc (.cells #[.int .i64 r.k, .int .i64 r.t, .int .i64 r.y, .int .i64 r.o] 50)).alloc o) w.heap.size (.slice none 0 0) []) := fun o => World.ownsRow_nil _ _ _ _
      go_enter Try.func71, Try.ntmps71
      go_wp2_with (first | (go_at_call 70; refine (HHC.out r.o _ (HC.out _)).mono ?_; rintro e w' ⟨rfl, hq⟩; have hq2 := hq.symm; clear hq; subst hq2) | (at_builtin; refine wpList_appE _ rfl (.tmp 20) (.tmp 26) rfl w.heap.size _ [] [⟨r.o, r.t, 2⟩] rfl (HON.out _) (some ⟨w.heap.size + 1, 0, none⟩) 1 1 rfl rfl (by have h := ed_new (w.alloc (.cells #[.int .i64 r.k, .int .i64 r.t, .int .i64 r.y, .int .i64 r.o] 50)) ⟨r.o, r.t, 2⟩ 61; rw [World.size_alloc] at h; exact h) (by simp) (by simp; omega) ?_))
      intro v2 W ho5 hg5
      have hb5 := (below_new (w.alloc (.cells #[.int .i64 r.k, .int .i64 r.t, .int .i64 r.y, .int .i64 r.o] 50)) _).grown hg5 (by simp) fun q hq => by simp [Value.ownBlock] at hq
      have HT : Hid (ET r cm ws wa w W v2) := HT1.out W v2 HR1 hb5 ho5
      obtain ⟨va, vc, rfl⟩ := rowE_slice ho5
      clear ho5 hg5 hb5 HT0 HT1 HON HR1 h1 h2 y0 y1 y2 y3 HC HHC
      obtain ⟨z0, z1, z2, z3⟩ := HT.out.box
      go_wp2_with fail
      refine (HWB.out W HT.out.ints).mono ?_
      rintro e w6 ⟨ba, bc, rfl, hq, hbi⟩
      have HBI : Hid (IntsAt W ba (nxt ws r.o).length (zI (nxt ws r.o))) := hbi
      subst hq
      clear hbi HWB
      have HLR : Hid ((r1 r cm).length + 1 ≤ 100000) := by have := r1_len r cm; show _ ≤ _; omega
      have hszW := HT.out.bel.size
      go_wp2_with fail
      by_cases hl : 0 < (nxt ws r.o).length
      · rcases HBI.out with h | ⟨bb, bo, rfl, hbb, hbc⟩
        · omega
        have lx := hbc 0 hl
        rw [Nat.add_zero] at lx
        have hl' : (0 : Int) < ((nxt ws r.o).length : Int) := by omega
        have hd : decide (0 < (nxt ws r.o).length) = true := decide_eq_true hl
        have HY : Hid ((zI (nxt ws r.o) 0 != r.t) = true → r2 r ws = [⟨r.t, zI (nxt ws r.o) 0, 4⟩]) := fun h => r2_yes hl h
        have HN : Hid ((zI (nxt ws r.o) 0 != r.t) = false → r2 r ws = []) := fun h => r2_no (.inr h)
        clear hbc HBI
        generalize zI (nxt ws r.o) 0 = z at *
        generalize (nxt ws r.o).length = bl at *
        obtain h5 | h5 := boolor (z != r.t)
        · have HE : Hid (eR r cm ws = r1 r cm ++ [⟨r.t, z, 4⟩]) := by show eR r cm ws = _; rw [HEE.out, HY.out h5]
          clear HY HN HEE
          go_quiet (fail)
          have HTq : Hid (ET r cm ws wa w (w6.drewN nq) _) := HT.out.below (below_drewN (Below.refl _ _) _)
          replace z0 := cell_below z0 (below_drewN (Below.refl w6.heap.size w6) nq)
          replace z1 := cell_below z1 (below_drewN (Below.refl w6.heap.size w6) nq)
          replace z2 := cell_below z2 (below_drewN (Below.refl w6.heap.size w6) nq)
          replace z3 := cell_below z3 (below_drewN (Below.refl w6.heap.size w6) nq)
          replace lx := cell_below lx (below_drewN (Below.refl w6.heap.size w6) nq)
          clear HT hbb hszW
          generalize w6.drewN nq = Wq at *
          have hszq := HTq.out.bel.size
          go_wp2_with fail
          have HOA : Hid (∀ o, OwnE (Wq.alloc o).drew w.heap.size _ (r1 r cm)) := fun o => own_belowI HTq.out.own (below_new _ _).drew
          go_region_law (first | (refine step_appE (Wq.alloc (.cells #[.int .i64 r.t, .int .i64 z, .int .i64 4] 61)).drew rfl (.tmp 43) (.tmp 50) rfl w.heap.size _ (r1 r cm) [⟨r.t, z, 4⟩] rfl (HOA.out _) (some ⟨Wq.heap.size, 0, none⟩) 1 1 rfl rfl (ed_newd Wq ⟨r.t, z, 4⟩ _) HLR.out (Nat.le_trans hszq (below_new Wq _).size) ?_; intro v3 W3 ho3 hg3) | fail)
          all_goals
            have HB3 : Hid (Below w.heap.size w W3) := (below_dr HTq.out.bel _).grown hg3 (Nat.le_trans hszq (below_new Wq _).size) fun q hq => (ownI_lt HTq.out.own q hq).1
            have HF : Hid (ERs (eR r cm ws) w (.returned v3) W3) := by show ERs _ _ _ _; rw [HE.out]; exact ⟨_, rfl, HB3.out, ho3⟩
            obtain ⟨xa, xc, rfl⟩ := rowE_slice ho3
            clear ho3 hg3 HB3 HOA HTq HE
            generalize (r1 r cm ++ [({ f := r.t, t := z, k := 4 } : Ed)]).length = tl at *
            go_wp2_with fail
            go_ret
            exact HF.out
        · have HE : Hid (eR r cm ws = r1 r cm) := by show eR r cm ws = _; rw [HEE.out, HN.out h5, List.append_nil]
          clear HY HN HEE
          go_quiet (fail)
          go_wp2_with fail
          go_ret
          exact ⟨_, rfl, (HT.out.below (below_drewN (Below.refl _ _) _)).bel, by rw [HE.out]; exact (HT.out.below (below_drewN (Below.refl _ _) _)).own⟩
      · have HE : Hid (eR r cm ws = r1 r cm) := by show eR r cm ws = _; rw [HEE.out, r2_no (.inl hl), List.append_nil]
        have hl' : ¬ ((0 : Int) < ((nxt ws r.o).length : Int)) := by omega
        have hd : decide (0 < (nxt ws r.o).length) = false := decide_eq_false hl
        clear HEE hl HBI
        generalize (nxt ws r.o).length = bl at *
        go_quiet (fail)
        go_wp2_with fail
        go_ret
        exact ⟨_, rfl, (HT.out.below (below_drewN (Below.refl _ _) _)).bel, by rw [HE.out]; exact (HT.out.below (below_drewN (Below.refl _ _) _)).own⟩
    · skip
      have HT := HT0.out (r1_no (.inr h2))
      go_enter Try.func71, Try.ntmps71
      go_upto_region 4 with (first | (go_at_call 70; refine (HHC.out r.o _ (HC.out _)).mono ?_; rintro e w' ⟨rfl, hq⟩; have hq2 := hq.symm; clear hq; subst hq2))
      clear HT0 HT1 h1 h2 y0 y1 y2 y3 HC HHC
      generalize w.alloc (.cells #[.int .i64 r.k, .int .i64 r.t, .int .i64 r.y, .int .i64 r.o] 50) = W at *
      replace HT : Hid (ET r cm ws wa w W (.slice none 0 0)) := HT
      obtain ⟨z0, z1, z2, z3⟩ := HT.out.box
      go_wp2_with fail
      refine (HWB.out W HT.out.ints).mono ?_
      rintro e w6 ⟨ba, bc, rfl, hq, hbi⟩
      have HBI : Hid (IntsAt W ba (nxt ws r.o).length (zI (nxt ws r.o))) := hbi
      subst hq
      clear hbi HWB
      have HLR : Hid ((r1 r cm).length + 1 ≤ 100000) := by have := r1_len r cm; show _ ≤ _; omega
      have hszW := HT.out.bel.size
      go_wp2_with fail
      by_cases hl : 0 < (nxt ws r.o).length
      · rcases HBI.out with h | ⟨bb, bo, rfl, hbb, hbc⟩
        · omega
        have lx := hbc 0 hl
        rw [Nat.add_zero] at lx
        have hl' : (0 : Int) < ((nxt ws r.o).length : Int) := by omega
        have hd : decide (0 < (nxt ws r.o).length) = true := decide_eq_true hl
        have HY : Hid ((zI (nxt ws r.o) 0 != r.t) = true → r2 r ws = [⟨r.t, zI (nxt ws r.o) 0, 4⟩]) := fun h => r2_yes hl h
        have HN : Hid ((zI (nxt ws r.o) 0 != r.t) = false → r2 r ws = []) := fun h => r2_no (.inr h)
        clear hbc HBI
        generalize zI (nxt ws r.o) 0 = z at *
        generalize (nxt ws r.o).length = bl at *
        obtain h5 | h5 := boolor (z != r.t)
        · have HE : Hid (eR r cm ws = r1 r cm ++ [⟨r.t, z, 4⟩]) := by show eR r cm ws = _; rw [HEE.out, HY.out h5]
          clear HY HN HEE
          go_quiet (fail)
          have HTq : Hid (ET r cm ws wa w (w6.drewN nq) _) := HT.out.below (below_drewN (Below.refl _ _) _)
          replace z0 := cell_below z0 (below_drewN (Below.refl w6.heap.size w6) nq)
          replace z1 := cell_below z1 (below_drewN (Below.refl w6.heap.size w6) nq)
          replace z2 := cell_below z2 (below_drewN (Below.refl w6.heap.size w6) nq)
          replace z3 := cell_below z3 (below_drewN (Below.refl w6.heap.size w6) nq)
          replace lx := cell_below lx (below_drewN (Below.refl w6.heap.size w6) nq)
          clear HT hbb hszW
          generalize w6.drewN nq = Wq at *
          have hszq := HTq.out.bel.size
          go_wp2_with fail
          have HOA : Hid (∀ o, OwnE (Wq.alloc o).drew w.heap.size _ (r1 r cm)) := fun o => own_belowI HTq.out.own (below_new _ _).drew
          go_region_law (first | (refine step_appE (Wq.alloc (.cells #[.int .i64 r.t, .int .i64 z, .int .i64 4] 61)).drew rfl (.tmp 43) (.tmp 50) rfl w.heap.size _ (r1 r cm) [⟨r.t, z, 4⟩] rfl (HOA.out _) (some ⟨Wq.heap.size, 0, none⟩) 1 1 rfl rfl (ed_newd Wq ⟨r.t, z, 4⟩ _) HLR.out (Nat.le_trans hszq (below_new Wq _).size) ?_; intro v3 W3 ho3 hg3) | fail)
          all_goals
            have HB3 : Hid (Below w.heap.size w W3) := (below_dr HTq.out.bel _).grown hg3 (Nat.le_trans hszq (below_new Wq _).size) fun q hq => (ownI_lt HTq.out.own q hq).1
            have HF : Hid (ERs (eR r cm ws) w (.returned v3) W3) := by show ERs _ _ _ _; rw [HE.out]; exact ⟨_, rfl, HB3.out, ho3⟩
            obtain ⟨xa, xc, rfl⟩ := rowE_slice ho3
            clear ho3 hg3 HB3 HOA HTq HE
            generalize (r1 r cm ++ [({ f := r.t, t := z, k := 4 } : Ed)]).length = tl at *
            go_wp2_with fail
            go_ret
            exact HF.out
        · have HE : Hid (eR r cm ws = r1 r cm) := by show eR r cm ws = _; rw [HEE.out, HN.out h5, List.append_nil]
          clear HY HN HEE
          go_quiet (fail)
          go_wp2_with fail
          go_ret
          exact ⟨_, rfl, (HT.out.below (below_drewN (Below.refl _ _) _)).bel, by rw [HE.out]; exact (HT.out.below (below_drewN (Below.refl _ _) _)).own⟩
      · have HE : Hid (eR r cm ws = r1 r cm) := by show eR r cm ws = _; rw [HEE.out, r2_no (.inl hl), List.append_nil]
        have hl' : ¬ ((0 : Int) < ((nxt ws r.o).length : Int)) := by omega
        have hd : decide (0 < (nxt ws r.o).length) = false := decide_eq_false hl
        clear HEE hl HBI
        generalize (nxt ws r.o).length = bl at *
        go_quiet (fail)
        go_wp2_with fail
        go_ret
        exact ⟨_, rfl, (HT.out.below (below_drewN (Below.refl _ _) _)).bel, by rw [HE.out]; exact (HT.out.below (below_drewN (Below.refl _ _) _)).own⟩
  · skip
    have HT := HT0.out (r1_no (.inl h1))
    go_enter Try.func71, Try.ntmps71
    go_upto_region 4 with (first | (go_at_call 70; refine (HHC.out r.o _ (HC.out _)).mono ?_; rintro e w' ⟨rfl, hq⟩; have hq2 := hq.symm; clear hq; subst hq2))
    clear HT0 HT1 h1 y0 y1 y2 y3 HC HHC
    generalize w.alloc (.cells #[.int .i64 r.k, .int .i64 r.t, .int .i64 r.y, .int .i64 r.o] 50) = W at *
    replace HT : Hid (ET r cm ws wa w W (.slice none 0 0)) := HT
    obtain ⟨z0, z1, z2, z3⟩ := HT.out.box
    go_wp2_with fail
    refine (HWB.out W HT.out.ints).mono ?_
    rintro e w6 ⟨ba, bc, rfl, hq, hbi⟩
    have HBI : Hid (IntsAt W ba (nxt ws r.o).length (zI (nxt ws r.o))) := hbi
    subst hq
    clear hbi HWB
    have HLR : Hid ((r1 r cm).length + 1 ≤ 100000) := by have := r1_len r cm; show _ ≤ _; omega
    have hszW := HT.out.bel.size
    go_wp2_with fail
    by_cases hl : 0 < (nxt ws r.o).length
    · rcases HBI.out with h | ⟨bb, bo, rfl, hbb, hbc⟩
      · omega
      have lx := hbc 0 hl
      rw [Nat.add_zero] at lx
      have hl' : (0 : Int) < ((nxt ws r.o).length : Int) := by omega
      have hd : decide (0 < (nxt ws r.o).length) = true := decide_eq_true hl
      have HY : Hid ((zI (nxt ws r.o) 0 != r.t) = true → r2 r ws = [⟨r.t, zI (nxt ws r.o) 0, 4⟩]) := fun h => r2_yes hl h
      have HN : Hid ((zI (nxt ws r.o) 0 != r.t) = false → r2 r ws = []) := fun h => r2_no (.inr h)
      clear hbc HBI
      generalize zI (nxt ws r.o) 0 = z at *
      generalize (nxt ws r.o).length = bl at *
      obtain h5 | h5 := boolor (z != r.t)
      · have HE : Hid (eR r cm ws = r1 r cm ++ [⟨r.t, z, 4⟩]) := by show eR r cm ws = _; rw [HEE.out, HY.out h5]
        clear HY HN HEE
        go_quiet (fail)
        have HTq : Hid (ET r cm ws wa w (w6.drewN nq) _) := HT.out.below (below_drewN (Below.refl _ _) _)
        replace z0 := cell_below z0 (below_drewN (Below.refl w6.heap.size w6) nq)
        replace z1 := cell_below z1 (below_drewN (Below.refl w6.heap.size w6) nq)
        replace z2 := cell_below z2 (below_drewN (Below.refl w6.heap.size w6) nq)
        replace z3 := cell_below z3 (below_drewN (Below.refl w6.heap.size w6) nq)
        replace lx := cell_below lx (below_drewN (Below.refl w6.heap.size w6) nq)
        clear HT hbb hszW
        generalize w6.drewN nq = Wq at *
        have hszq := HTq.out.bel.size
        go_wp2_with fail
        have HOA : Hid (∀ o, OwnE (Wq.alloc o).drew w.heap.size _ (r1 r cm)) := fun o => own_belowI HTq.out.own (below_new _ _).drew
        go_region_law (first | (refine step_appE (Wq.alloc (.cells #[.int .i64 r.t, .int .i64 z, .int .i64 4] 61)).drew rfl (.tmp 43) (.tmp 50) rfl w.heap.size _ (r1 r cm) [⟨r.t, z, 4⟩] rfl (HOA.out _) (some ⟨Wq.heap.size, 0, none⟩) 1 1 rfl rfl (ed_newd Wq ⟨r.t, z, 4⟩ _) HLR.out (Nat.le_trans hszq (below_new Wq _).size) ?_; intro v3 W3 ho3 hg3) | fail)
        all_goals
          have HB3 : Hid (Below w.heap.size w W3) := (below_dr HTq.out.bel _).grown hg3 (Nat.le_trans hszq (below_new Wq _).size) fun q hq => (ownI_lt HTq.out.own q hq).1
          have HF : Hid (ERs (eR r cm ws) w (.returned v3) W3) := by show ERs _ _ _ _; rw [HE.out]; exact ⟨_, rfl, HB3.out, ho3⟩
          obtain ⟨xa, xc, rfl⟩ := rowE_slice ho3
          clear ho3 hg3 HB3 HOA HTq HE
          generalize (r1 r cm ++ [({ f := r.t, t := z, k := 4 } : Ed)]).length = tl at *
          go_wp2_with fail
          go_ret
          exact HF.out
      · have HE : Hid (eR r cm ws = r1 r cm) := by show eR r cm ws = _; rw [HEE.out, HN.out h5, List.append_nil]
        clear HY HN HEE
        go_quiet (fail)
        go_wp2_with fail
        go_ret
        exact ⟨_, rfl, (HT.out.below (below_drewN (Below.refl _ _) _)).bel, by rw [HE.out]; exact (HT.out.below (below_drewN (Below.refl _ _) _)).own⟩
    · have HE : Hid (eR r cm ws = r1 r cm) := by show eR r cm ws = _; rw [HEE.out, r2_no (.inl hl), List.append_nil]
      have hl' : ¬ ((0 : Int) < ((nxt ws r.o).length : Int)) := by omega
      have hd : decide (0 < (nxt ws r.o).length) = false := decide_eq_false hl
      clear HEE hl HBI
      generalize (nxt ws r.o).length = bl at *
      go_quiet (fail)
      go_wp2_with fail
      go_ret
      exact ⟨_, rfl, (HT.out.below (below_drewN (Below.refl _ _) _)).bel, by rw [HE.out]; exact (HT.out.below (below_drewN (Below.refl _ _) _)).own⟩
end Go.Proofs.Ytnmmnhfgkcdajaa
