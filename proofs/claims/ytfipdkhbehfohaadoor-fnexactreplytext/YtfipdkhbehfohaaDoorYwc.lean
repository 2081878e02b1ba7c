/- The model's ReplyText. -/
import Derived.Test.YtfipdkhbehfohaaDoorYwb
namespace Go.Proofs.YtfipdkhbehfohaaDoor
open Go.RowKit Go.Deep
set_option linter.unusedVariables false
set_option maxRecDepth 20000

/-- What is kept: the reply's box, the answer's. -/
def KS (w u : World) (t : Rp) (a0 : Option Addr) (c0 : Nat) : Prop := Below w.heap.size w u ∧ Box3 u w.heap.size (.int .i64 t.cd) (.int .i64 t.vl) (.slice a0 t.cn c0) ∧ Box2 u (w.heap.size + 1) (.int .i64 0) (.string ⟨#[]⟩) ∧ ∀ i, u.frozen? ⟨w.heap.size + 1, i, none⟩ = false
theorem KS.below {w u u1 : World} {t : Rp} {a0 : Option Addr} {c0 : Nat} (h : KS w u t a0 c0) (hb : Below u.heap.size u u1) : KS w u1 t a0 c0 :=
  ⟨h.1.trans (hb.mono h.1.size), h.2.1.below hb, h.2.2.1.below hb, fun i => ((bcell hb).2 _ _ h.2.2.1.lt).trans (h.2.2.2 i)⟩
def Box2at (u : World) (b o : Nat) (x y : Value) : Prop := u.cell? ⟨b, o, none⟩ = some x ∧ u.cell? ⟨b, o + 1, none⟩ = some y
theorem Box2at.below {u u1 : World} {b o : Nat} {x y : Value} (h : Box2at u b o x y) (hb : Below u.heap.size u u1) : Box2at u1 b o x y := ⟨cell_below h.1 hb, cell_below h.2 hb⟩
theorem bd_cases (t : Rp) : (t.cd < 0 ∧ bdF t 0 = true) ∨ (¬ t.cd < 0 ∧ t.vl < 0 ∧ bdF t 0 = true) ∨ (¬ t.cd < 0 ∧ ¬ t.vl < 0 ∧ bdF t 0 = false) := by
  by_cases h1 : t.cd < 0
  · exact .inl ⟨h1, by simp [bdF, h1]⟩
  · by_cases h2 : t.vl < 0
    · exact .inr (.inl ⟨h1, h2, by simp [bdF, h2]⟩)
    · exact .inr (.inr ⟨h1, h2, by simp [bdF, h1, h2]⟩)
set_option maxHeartbeats 8000000 in
theorem specReply_any (t : Rp) (a0 : Option Addr) (c0 : Nat) (w : World) (hn : t.cn ≤ 1048576) (hw : RpW t) (h : InRp w a0 t) :
    Calls Tryd.prog 5 #[.agg #[.int .i64 t.cd, .int .i64 t.vl, .slice a0 t.cn c0]] w (RyR w t) := by
  have HA : Hid (InRp w a0 t) := h
  have HW : Hid (RpW t) := hw
  have hmo : Tryd.prog.follows .mixedOrders = true := by kernel_rfl
  have HC := bd_cases t
  clear h hw
  go_enter Tryd.func5, Tryd.ntmps5
  go_upto_region 1 with fail
  have K0 : Hid (KS w ((w.alloc (.cells #[.int .i64 t.cd, .int .i64 t.vl, .slice a0 t.cn c0] 31)).alloc (.cells #[.int .i64 0, .string ⟨#[]⟩] 27)) t a0 c0) := by
    refine ⟨(below_new _ _).alloc (by simp) _, (Box3.new w _ _ _ _).alloc _, ?_, fun i => by simp [go_sem]⟩
    have h := Box2.new (w.alloc (.cells #[.int .i64 t.cd, .int .i64 t.vl, .slice a0 t.cn c0] 31)) (.int .i64 0) (.string ⟨#[]⟩) 27
    simp only [World.size_alloc] at h
    exact h
  generalize ((w.alloc (.cells #[.int .i64 t.cd, .int .i64 t.vl, .slice a0 t.cn c0] 31)).alloc (.cells #[.int .i64 0, .string ⟨#[]⟩] 27)) = w0 at *
  obtain ⟨-, ⟨x0, x1, x2⟩, -, -⟩ := K0.out
  rcases HC with ⟨h1, hd⟩ | ⟨h1, h2, hd⟩ | ⟨h1, h2, hd⟩
  all_goals
    have HD : Hid (_ = bdF t 0) := hd.symm
    clear hd
    go_upto_region 2 with fail
    try clear h2
    clear h1
    go_wp2_with fail
    go_loopw [3, 4] (fun b i wr => ∃ q : Nat, q ≤ t.cn ∧ i = .int .i64 q ∧ b = .bool (bdF t q) ∧ wr = w0) (fun _ i _ => t.cn - (intOf i).toNat)
    case atStart => exact ⟨0, Nat.zero_le _, rfl, by rw [← HD.out], by first | trivial | rfl⟩
    case round =>
      clear HD
      obtain ⟨q, hq, rfl, rfl, hwr⟩ := hrel
      subst hwr
      by_cases hlt : q < t.cn
      · have hlt' : (q : Int) < (t.cn : Int) := by omega
        have hq0 : (0 : Int) ≤ (q : Int) := by omega
        rcases (HA.out.below K0.out.1).1 with h | ⟨b, off, rfl, hl, hc, hv⟩
        · omega
        have y0 := hc q hlt
        have y1 := hv q hlt
        have HN : Hid (bdF t (q + 1) = (bdF t q || decide (t.cK q < 0) || decide (t.cV q < 0))) := rfl
        clear hc hv HA HW
        generalize t.cK q = k at *
        generalize t.cV q = y at *
        cases hb : bdF t q with
        | true =>
          have HB : Hid (bdF t (q + 1) = true) := by show bdF t (q + 1) = true; rw [HN.out, hb]; rfl
          clear HN hb
          go_wp2_with fail
          go_roundw
          case rel => exact ⟨q + 1, hlt, by go_num, by rw [HB.out], by first | trivial | rfl⟩
          case measure => simp [intOf]; omega
        | false =>
          by_cases c1 : k < 0
          · have HB : Hid (bdF t (q + 1) = true) := by show bdF t (q + 1) = true; rw [HN.out, hb]; simp [c1]
            clear HN hb
            go_wp2_with fail
            go_roundw
            case rel => exact ⟨q + 1, hlt, by go_num, by rw [HB.out], by first | trivial | rfl⟩
            case measure => simp [intOf]; omega
          · by_cases c2 : y < 0
            · have HB : Hid (bdF t (q + 1) = true) := by show bdF t (q + 1) = true; rw [HN.out, hb]; simp [c2]
              clear HN hb
              go_wp2_with fail
              go_roundw
              case rel => exact ⟨q + 1, hlt, by go_num, by rw [HB.out], by first | trivial | rfl⟩
              case measure => simp [intOf]; omega
            · have HB : Hid (bdF t (q + 1) = false) := by show bdF t (q + 1) = false; rw [HN.out, hb]; simp [c1, c2]
              clear HN hb
              go_wp2_with fail
              go_roundw
              case rel => exact ⟨q + 1, hlt, by go_num, by rw [HB.out], by first | trivial | rfl⟩
              case measure => simp [intOf]; omega
      · have hqn : q = t.cn := by omega
        have hge : ¬ (q : Int) < (t.cn : Int) := by omega
        subst hqn
        cases hbd : bdF t t.cn with
        | true =>
          have HE : Hid (ryC t = 3 ∧ ryT t = ⟨#[]⟩) := ry_bad hbd
          have HX9 : Hid (Below w.heap.size w wr) := K0.out.1
          obtain ⟨-, -, ⟨z0, z1⟩, f0⟩ := K0.out
          clear hbd
          go_wp2_with fail
          refine bodyPost_ret (v := .agg #[.int .i64 3, .string ⟨#[]⟩]) (by simp [results, Tryd.results5, go_sem, z0, z1]) rfl ?_
          refine ⟨by rw [HE.out.1, HE.out.2], ?_⟩
          repeat (first | with_reducible exact HX9.out | with_reducible refine Below.setCell ?_ (by first | omega | (simp <;> omega)) _)
        | false =>
          have HG : Hid (0 ≤ t.cd ∧ 0 ≤ t.vl ∧ ∀ i, i < t.cn → 0 ≤ t.cK i ∧ 0 ≤ t.cV i) := bd_no _ hbd
          obtain ⟨hcd0, hvl0, -⟩ := HG.out
          obtain ⟨hcdW, hvlW, -⟩ := HW.out
          have hds := dw_size t.cd hcdW
          have hvs := dw_size t.vl hvlW
          unfold NmW at hcdW hvlW
          by_cases hz : t.cd = 0
          · have HE : Hid (ryC t = 0 ∧ ryT t = rtx t.vl t.cK t.cV t.cn) := ry_ok hbd hz
            have hne : (t.cd != 0) = false := by simp [hz]
            have H0 : Hid (rtx t.vl t.cK t.cV 0 = okB ++ blk ++ dg t.vl.toNat) := rfl
            have ha0 : ∀ u : World, (Op.stringOp .add ⟨#[111, 107, 32]⟩ (dg t.vl.toNat)).run Tryd.prog u = .ok (.string (okB ++ blk ++ dg t.vl.toNat)) u := fun u => run_string_add_sum u (okB ++ blk) _ (by have : (okB ++ blk).size = 3 := rfl; omega)
            clear hbd hz
            go_wp2_with fail
            refine (digW_any t.vl hvl0 hvlW _).mono ?_
            rintro e w2 ⟨rfl, hb2⟩
            have K2 : Hid (KS w w2 t a0 c0) := K0.out.below hb2
            clear hb2 x0 x1 x2 K0 hne
            go_wp2_with fail
            go_loopw [5, 6] (fun v i wr => ∃ q : Nat, q ≤ t.cn ∧ i = .int .i64 q ∧ v = .string (rtx t.vl t.cK t.cV q) ∧ Hid (KS w wr t a0 c0)) (fun _ i _ => t.cn - (intOf i).toNat)
            case atStart => exact ⟨0, Nat.zero_le _, rfl, rfl, K2⟩
            case round =>
              clear ha0 H0 K2
              obtain ⟨q, hq, rfl, rfl, K3⟩ := hrel
              by_cases hlt : q < t.cn
              · have hlt' : (q : Int) < (t.cn : Int) := by omega
                have hq0 : (0 : Int) ≤ (q : Int) := by omega
                rcases (HA.out.below K3.out.1).1 with h | ⟨b, off, rfl, hl, hc, hv⟩
                · omega
                have y0 := hc q hlt
                have y1 := hv q hlt
                obtain ⟨k0, v0⟩ := HG.out.2.2 q hlt
                obtain ⟨kW, vW⟩ := HW.out.2.2 q hlt
                have hks := dw_size _ kW
                have hys := dw_size _ vW
                unfold NmW at kW vW
                have hts := rtx_size (x := t.vl) (K := t.cK) (V := t.cV) HW.out.2.1 q (fun i hi => HW.out.2.2 i (by omega))
                have HNX : Hid (rtx t.vl t.cK t.cV (q + 1) = rtx t.vl t.cK t.cV q ++ blk ++ (dg (t.cK q).toNat ++ eqB ++ dg (t.cV q).toNat)) := rfl
                clear hc hv
                generalize t.cK q = k at *
                generalize t.cV q = y at *
                have hts2 : (rtx t.vl t.cK t.cV q).size ≤ 50000000 := by omega
                clear hts
                generalize rtx t.vl t.cK t.cV q = S0 at *
                have e1 : blk.size = 1 := rfl
                have e2 : eqB.size = 1 := rfl
                have ha1 : ∀ u : World, (Op.stringOp .add S0 ⟨#[32]⟩).run Tryd.prog u = .ok (.string (S0 ++ blk)) u := fun u => run_string_add_sum u _ blk (by omega)
                have ha2 : ∀ u : World, (Op.stringOp .add (S0 ++ blk) (dg k.toNat)).run Tryd.prog u = .ok (.string (S0 ++ blk ++ dg k.toNat)) u := fun u => run_string_add_sum u _ _ (by simp only [ByteArray.size_append]; omega)
                have ha3 : ∀ u : World, (Op.stringOp .add (S0 ++ blk ++ dg k.toNat) ⟨#[61]⟩).run Tryd.prog u = .ok (.string (S0 ++ blk ++ dg k.toNat ++ eqB)) u := fun u => run_string_add_sum u _ eqB (by simp only [ByteArray.size_append]; omega)
                have ha4 : ∀ u : World, (Op.stringOp .add (S0 ++ blk ++ dg k.toNat ++ eqB) (dg y.toNat)).run Tryd.prog u = .ok (.string (S0 ++ blk ++ dg k.toNat ++ eqB ++ dg y.toNat)) u := fun u => run_string_add_sum u _ _ (by simp only [ByteArray.size_append]; omega)
                obtain ⟨-, ⟨x0, x1, x2⟩, -, -⟩ := K3.out
                go_upto_region 14 with fail
                clear x0 x1 x2
                refine wp_region_E 999 (S := fun u => KS w u t (some ⟨b, off, none⟩) c0 ∧ Box2at u b (off + q * 2) (.int .i64 k) (.int .i64 y)) hmo ⟨K3.out.below (Below.refl _ _).drew, Box2at.below ⟨y0, y1⟩ (Below.refl _ _).drew⟩ (fun hS => ?_)
                refine wpAnyE_takeD (L := 999) (i := 0) (v := .string S0) (some 62) rfl rfl (by kernel_rfl) (by kernel_rfl) (by kernel_rfl) (by kernel_rfl) (fun _ _ _ h => h) (Or.inl ⟨by kernel_rfl, by intro u hSu; obtain ⟨⟨-, ⟨p0, p1, p2⟩, -, -⟩, r0, r1⟩ := hSu; go_simp⟩) hS ?_
                try simp only [Act.put, List.setIfInBounds_toArray, List.set_cons_zero, List.set_cons_succ]
                refine wpAnyE_takeD (L := 999) (i := 1) (v := .string (S0 ++ blk)) (some 63) rfl rfl (by kernel_rfl) (by kernel_rfl) (by kernel_rfl) (by kernel_rfl) (fun _ _ _ h => h) (Or.inl ⟨by kernel_rfl, by intro u hSu; obtain ⟨⟨-, ⟨p0, p1, p2⟩, -, -⟩, r0, r1⟩ := hSu; go_simp⟩) hS ?_
                try simp only [Act.put, List.setIfInBounds_toArray, List.set_cons_zero, List.set_cons_succ]
                refine wpAnyE_takeD (L := 999) (i := 2) (v := .pointer (some ⟨w.heap.size, 2, none⟩)) (some 64) rfl rfl (by kernel_rfl) (by kernel_rfl) (by kernel_rfl) (by kernel_rfl) (fun _ _ _ h => h) (Or.inl ⟨by kernel_rfl, by intro u hSu; obtain ⟨⟨-, ⟨p0, p1, p2⟩, -, -⟩, r0, r1⟩ := hSu; go_simp⟩) hS ?_
                try simp only [Act.put, List.setIfInBounds_toArray, List.set_cons_zero, List.set_cons_succ]
                refine wpAnyE_takeD (L := 999) (i := 3) (v := .slice (some ⟨b, off, none⟩) t.cn c0) (some 65) rfl rfl (by kernel_rfl) (by kernel_rfl) (by kernel_rfl) (by kernel_rfl) (fun _ _ _ h => h) (Or.inl ⟨by kernel_rfl, by intro u hSu; obtain ⟨⟨-, ⟨p0, p1, p2⟩, -, -⟩, r0, r1⟩ := hSu; go_simp⟩) hS ?_
                try simp only [Act.put, List.setIfInBounds_toArray, List.set_cons_zero, List.set_cons_succ]
                refine wpAnyE_takeD (L := 999) (i := 4) (v := .int .i64 (q : Int)) (some 66) rfl rfl (by kernel_rfl) (by kernel_rfl) (by kernel_rfl) (by kernel_rfl) (fun _ _ _ h => h) (Or.inl ⟨by kernel_rfl, by intro u hSu; obtain ⟨⟨-, ⟨p0, p1, p2⟩, -, -⟩, r0, r1⟩ := hSu; go_simp⟩) hS ?_
                try simp only [Act.put, List.setIfInBounds_toArray, List.set_cons_zero, List.set_cons_succ]
                refine wpAnyE_takeD (L := 999) (i := 5) (v := .pointer (some ⟨b, off + q * 2, none⟩)) (some 67) rfl rfl (by kernel_rfl) (by kernel_rfl) (by kernel_rfl) (by kernel_rfl) (fun _ _ _ h => h) (Or.inl ⟨by kernel_rfl, by intro u hSu; obtain ⟨⟨-, ⟨p0, p1, p2⟩, -, -⟩, r0, r1⟩ := hSu; go_simp⟩) hS ?_
                try simp only [Act.put, List.setIfInBounds_toArray, List.set_cons_zero, List.set_cons_succ]
                refine wpAnyE_takeD (L := 999) (i := 6) (v := .pointer (some ⟨b, off + q * 2, none⟩)) (some 68) rfl rfl (by kernel_rfl) (by kernel_rfl) (by kernel_rfl) (by kernel_rfl) (fun _ _ _ h => h) (Or.inl ⟨by kernel_rfl, by intro u hSu; obtain ⟨⟨-, ⟨p0, p1, p2⟩, -, -⟩, r0, r1⟩ := hSu; go_simp⟩) hS ?_
                try simp only [Act.put, List.setIfInBounds_toArray, List.set_cons_zero, List.set_cons_succ]
                refine wpAnyE_takeD (L := 999) (i := 7) (v := .int .i64 k) (some 69) rfl rfl (by kernel_rfl) (by kernel_rfl) (by kernel_rfl) (by kernel_rfl) (fun _ _ _ h => h) (Or.inl ⟨by kernel_rfl, by intro u hSu; obtain ⟨⟨-, ⟨p0, p1, p2⟩, -, -⟩, r0, r1⟩ := hSu; go_simp⟩) hS ?_
                try simp only [Act.put, List.setIfInBounds_toArray, List.set_cons_zero, List.set_cons_succ]
                refine wpAnyE_takeD (L := 999) (i := 11) (v := .pointer (some ⟨w.heap.size, 2, none⟩)) (some 73) rfl rfl (by kernel_rfl) (by kernel_rfl) (by kernel_rfl) (by kernel_rfl) (fun _ _ _ h => h) (Or.inl ⟨by kernel_rfl, by intro u hSu; obtain ⟨⟨-, ⟨p0, p1, p2⟩, -, -⟩, r0, r1⟩ := hSu; go_simp⟩) hS ?_
                try simp only [Act.put, List.setIfInBounds_toArray, List.set_cons_zero, List.set_cons_succ]
                refine wpAnyE_takeD (L := 999) (i := 12) (v := .slice (some ⟨b, off, none⟩) t.cn c0) (some 74) rfl rfl (by kernel_rfl) (by kernel_rfl) (by kernel_rfl) (by kernel_rfl) (fun _ _ _ h => h) (Or.inl ⟨by kernel_rfl, by intro u hSu; obtain ⟨⟨-, ⟨p0, p1, p2⟩, -, -⟩, r0, r1⟩ := hSu; go_simp⟩) hS ?_
                try simp only [Act.put, List.setIfInBounds_toArray, List.set_cons_zero, List.set_cons_succ]
                refine wpAnyE_takeD (L := 999) (i := 13) (v := .int .i64 (q : Int)) (some 75) rfl rfl (by kernel_rfl) (by kernel_rfl) (by kernel_rfl) (by kernel_rfl) (fun _ _ _ h => h) (Or.inl ⟨by kernel_rfl, by intro u hSu; obtain ⟨⟨-, ⟨p0, p1, p2⟩, -, -⟩, r0, r1⟩ := hSu; go_simp⟩) hS ?_
                try simp only [Act.put, List.setIfInBounds_toArray, List.set_cons_zero, List.set_cons_succ]
                refine wpAnyE_takeD (L := 999) (i := 14) (v := .pointer (some ⟨b, off + q * 2, none⟩)) (some 76) rfl rfl (by kernel_rfl) (by kernel_rfl) (by kernel_rfl) (by kernel_rfl) (fun _ _ _ h => h) (Or.inl ⟨by kernel_rfl, by intro u hSu; obtain ⟨⟨-, ⟨p0, p1, p2⟩, -, -⟩, r0, r1⟩ := hSu; go_simp⟩) hS ?_
                try simp only [Act.put, List.setIfInBounds_toArray, List.set_cons_zero, List.set_cons_succ]
                refine wpAnyE_takeD (L := 999) (i := 15) (v := .pointer (some ⟨b, off + q * 2 + 1, none⟩)) (some 77) rfl rfl (by kernel_rfl) (by kernel_rfl) (by kernel_rfl) (by kernel_rfl) (fun _ _ _ h => h) (Or.inl ⟨by kernel_rfl, by intro u hSu; obtain ⟨⟨-, ⟨p0, p1, p2⟩, -, -⟩, r0, r1⟩ := hSu; go_simp⟩) hS ?_
                try simp only [Act.put, List.setIfInBounds_toArray, List.set_cons_zero, List.set_cons_succ]
                refine wpAnyE_takeD (L := 999) (i := 16) (v := .int .i64 y) (some 78) rfl rfl (by kernel_rfl) (by kernel_rfl) (by kernel_rfl) (by kernel_rfl) (fun _ _ _ h => h) (Or.inl ⟨by kernel_rfl, by intro u hSu; obtain ⟨⟨-, ⟨p0, p1, p2⟩, -, -⟩, r0, r1⟩ := hSu; go_simp⟩) hS ?_
                try simp only [Act.put, List.setIfInBounds_toArray, List.set_cons_zero, List.set_cons_succ]
                refine wpAnyE_ready (rs := [8]) (by kernel_rfl) (by simp) ?_
                refine AllReadyE.cons rfl (fun K9 hK => ?_) AllReadyE.nil
                go_simp
                refine (digW_any k k0 kW _).mono ?_
                rintro e w6 ⟨rfl, hb6⟩
                refine hK.out _ _ (⟨hS.1.below hb6, hS.2.below hb6⟩) (fun hS9 => ?_)
                try simp only [Act.put, List.setIfInBounds_toArray, List.set_cons_zero, List.set_cons_succ]
                clear hK K9 hS
                have hS := hS9
                clear hS9
                clear hb6
                refine wpAnyE_takeD (L := 999) (i := 9) (v := .string (S0 ++ blk ++ dg k.toNat)) (some 71) rfl rfl (by kernel_rfl) (by kernel_rfl) (by kernel_rfl) (by kernel_rfl) (fun _ _ _ h => h) (Or.inl ⟨by kernel_rfl, by intro u hSu; go_simp⟩) hS ?_
                try simp only [Act.put, List.setIfInBounds_toArray, List.set_cons_zero, List.set_cons_succ]
                refine wpAnyE_takeD (L := 999) (i := 10) (v := .string (S0 ++ blk ++ dg k.toNat ++ eqB)) (some 72) rfl rfl (by kernel_rfl) (by kernel_rfl) (by kernel_rfl) (by kernel_rfl) (fun _ _ _ h => h) (Or.inl ⟨by kernel_rfl, by intro u hSu; go_simp⟩) hS ?_
                try simp only [Act.put, List.setIfInBounds_toArray, List.set_cons_zero, List.set_cons_succ]
                refine wpAnyE_ready (rs := [17]) (by kernel_rfl) (by simp) ?_
                refine AllReadyE.cons rfl (fun K9 hK => ?_) AllReadyE.nil
                go_simp
                refine (digW_any y v0 vW _).mono ?_
                rintro e w7 ⟨rfl, hb7⟩
                refine hK.out _ _ (⟨hS.1.below hb7, hS.2.below hb7⟩) (fun hS9 => ?_)
                try simp only [Act.put, List.setIfInBounds_toArray, List.set_cons_zero, List.set_cons_succ]
                clear hK K9 hS
                have hS := hS9
                clear hS9
                clear hb7
                refine wpAnyE_takeD (L := 999) (i := 18) (v := .string (S0 ++ blk ++ dg k.toNat ++ eqB ++ dg y.toNat)) (some 80) rfl rfl (by kernel_rfl) (by kernel_rfl) (by kernel_rfl) (by kernel_rfl) (fun _ _ _ h => h) (Or.inl ⟨by kernel_rfl, by intro u hSu; go_simp⟩) hS ?_
                try simp only [Act.put, List.setIfInBounds_toArray, List.set_cons_zero, List.set_cons_succ]
                refine wpAnyE_takeD (L := 999) (i := 19) (v := .string (S0 ++ blk ++ dg k.toNat ++ eqB ++ dg y.toNat)) (some 5) rfl rfl (by kernel_rfl) (by kernel_rfl) (by kernel_rfl) (by kernel_rfl) (fun _ _ _ h => h) (Or.inl ⟨by kernel_rfl, by intro u hSu; go_simp⟩) hS ?_
                try simp only [Act.put, List.setIfInBounds_toArray, List.set_cons_zero, List.set_cons_succ]
                have K8 : Hid (KS w w7 t (some ⟨b, off, none⟩) c0) := hS.1
                refine wpAnyE_done (by kernel_rfl) ?_ _
                go_simp
                have HV : Hid (S0 ++ blk ++ dg k.toNat ++ eqB ++ dg y.toNat = rtx t.vl t.cK t.cV (q + 1)) := by show S0 ++ blk ++ dg k.toNat ++ eqB ++ dg y.toNat = _; rw [HNX.out]; simp only [ByteArray.append_assoc]
                clear ha1 ha2 ha3 ha4 y0 y1
                go_wp2_with fail
                go_roundw
                case rel => exact ⟨q + 1, hlt, by go_num, by rw [HV.out], K8⟩
                case measure => simp [intOf]; omega
              · have hqm : q = t.cn := by omega
                have hge2 : ¬ (q : Int) < (t.cn : Int) := by omega
                subst hqm
                have HE2 : Hid (ryC t = 0 ∧ ryT t = rtx t.vl t.cK t.cV t.cn) := HE
                have HX9 : Hid (Below w.heap.size w wr) := K3.out.1
                obtain ⟨-, ⟨x0, x1, x2⟩, ⟨z0, z1⟩, f0⟩ := K3.out
                clear HE
                generalize rtx t.vl t.cK t.cV t.cn = S0 at *
                go_wp2_with fail
                refine bodyPost_ret (v := .agg #[.int .i64 0, .string S0]) (by simp [results, Tryd.results5, go_sem, z0, z1]) rfl ?_
                refine ⟨by rw [HE2.out.1, HE2.out.2], ?_⟩
                repeat (first | with_reducible exact HX9.out | with_reducible refine Below.setCell ?_ (by first | omega | (simp <;> omega)) _)
          · have HE : Hid (ryC t = 0 ∧ ryT t = noB ++ dg t.cd.toNat) := ry_no hbd hz
            have hne : (t.cd != 0) = true := by simp [hz]
            have ha1 : ∀ u : World, (Op.stringOp .add ⟨#[33, 32]⟩ (dg t.cd.toNat)).run Tryd.prog u = .ok (.string (noB ++ dg t.cd.toNat)) u := fun u => run_string_add_sum u noB _ (by have : noB.size = 2 := rfl; omega)
            clear hbd hz
            go_wp2_with fail
            refine (digW_any t.cd hcd0 hcdW _).mono ?_
            rintro e w2 ⟨rfl, hb2⟩
            have K2 : Hid (KS w w2 t a0 c0) := K0.out.below hb2
            have HX9 : Hid (Below w.heap.size w w2) := K2.out.1
            obtain ⟨-, -, ⟨z0, z1⟩, f0⟩ := K2.out
            clear hb2 x0 x1 x2 K0
            go_wp2_with fail
            refine bodyPost_ret (v := .agg #[.int .i64 0, .string (noB ++ dg t.cd.toNat)]) (by simp [results, Tryd.results5, go_sem, z0, z1]) rfl ?_
            refine ⟨by rw [HE.out.1, HE.out.2], ?_⟩
            repeat (first | with_reducible exact HX9.out | with_reducible refine Below.setCell ?_ (by first | omega | (simp <;> omega)) _)
end Go.Proofs.YtfipdkhbehfohaaDoor
