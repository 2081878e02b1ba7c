/- Faults of copies: the walks of impl.copiedFault and impl.CopiesFault. -/
import Derived.Test.YtenglcgkachomaaCqa
namespace Go.Proofs.Ytenglcgkachomaa
open Go.ChangeShapes Go.WideShapes Go.ChangeAt Go.RowKit Go.Deep Go.Joins
set_option linter.unusedVariables false
set_option maxRecDepth 20000

theorem skipH {P : Program} {md : Region.Mode} {ops : Array Oper} {Q : Exit → Act → World → Prop} {S : World → Prop} {fuel : Nat} {listed : Array Bool} {a : Act} {w : World} (i : Nat) (d : Option Tmp) (hd : (ops[i]?).map (fun o => o.dst) = some d)
    (hs : Region.noSelect ops = true) (hf : Region.free md ops listed i = true) (hr : (Region.ready md ops listed).contains i = true)
    (hw : (ops[i]?).map (fun o => Region.wanted o (yielded ops a.tmps)) = some false) (hQ : ∀ c a w, Q (.panic c) (a.put d undef) w → Q (.panic c) a w) (hS : S w)
    (h : wpAnyH P md ops Q S fuel (listed.setIfInBounds i true) (a.put d undef) w) : wpAnyH P md ops Q S (fuel + 1) listed a w := by
  obtain ⟨o, ho, rfl⟩ := Option.map_eq_some_iff.1 hd
  obtain ⟨o', ho', hw'⟩ := Option.map_eq_some_iff.1 hw
  obtain rfl : o = o' := by rw [ho] at ho'; exact Option.some.inj ho'
  exact wpAnyH_take ho hs hf hr hQ (.inr ⟨hw', rfl⟩) hS h
set_option maxHeartbeats 8000000 in
theorem copiedFault_any (t : Cs) (k : Nat) (a0 : Option Addr) (c0 : Nat) (a1 : Option Addr) (c1 : Nat) (a2 : Option Addr) (c2 : Nat) (w : World) (hk : k < t.tn) (hS : SmCs t) (hN : 1 ≤ t.nx ∧ t.nx ≤ 999) (h : InCs w a0 a1 a2 t) :
    Calls Try.prog 54 #[.agg #[.int .i64 t.nx, .int .i64 t.ck, .slice a0 t.wn c0, .slice a1 t.ln c1, .slice a2 t.tn c2], .int .i64 (k : Int)] w fun e w' => e = .returned (.int .i64 (cdF t.nx t.ck t.tT k)) ∧ Below w.heap.size w w' := by
  have HSm := hS.2.2.2
  have htn := hS.2.2.1
  rcases h.2.2 with h0 | ⟨b, off, rfl, hl, hc⟩
  · omega
  obtain ⟨x0, y0, x1, y1, x2, y2, ⟨q0, q1, q2, q3, q4, q5⟩, hI, -⟩ := hc k hk
  have HCC : Hid (∀ i, i < t.tn → w.cell? ⟨b, off + i * 6, none⟩ = some (.int .i64 (t.tT i).id)) := fun i hi => by obtain ⟨_, _, _, _, _, _, ⟨h, _⟩, _⟩ := hc i hi; exact h
  have HIN : Hid (InCd w x0 x1 x2 (t.tT k)) := hI
  have HSK : Hid (SmCd (t.tT k)) := HSm k hk
  have hbne : ¬ b = w.heap.size := by omega
  have hk' : (k : Int) < (t.tn : Int) := by omega
  have hk0 : (0 : Int) ≤ (k : Int) := by omega
  have hwn : IntKind.i64.wrap (t.nx - 1) = t.nx - 1 := by rw [IntKind.wrap_i64]; omega
  have HI : Hid (cdIn t.nx t.ck (t.tT k) = (inB (t.tT k).id 1 (t.nx - 1) && inB (t.tT k).am 0 t.ck && inB (t.tT k).st 1 3)) := rfl
  generalize hC : cdF t.nx t.ck t.tT k = C
  have HE : Hid (C = _) := hC.symm.trans (show cdF t.nx t.ck t.tT k = if cdIn t.nx t.ck (t.tT k) = true then (if (cdB1 t.tT k || cdB2 (t.tT k)) = true then 1 else if cff (t.tT k).sK (t.tT k).sV (t.tT k).sn 0 = 0 then (if cff (t.tT k).wK (t.tT k).wV (t.tT k).wn 0 = 0 then wrF (t.tT k).rn (t.tT k).rF else cff (t.tT k).wK (t.tT k).wV (t.tT k).wn 0) else cff (t.tT k).sK (t.tT k).sV (t.tT k).sn 0) else 3 from rfl)
  have q0a := fun o : Obj => cell_alloc q0 o
  have q1a := fun o : Obj => cell_alloc q1 o
  have q2a := fun o : Obj => cell_alloc q2 o
  have q3a := fun o : Obj => cell_alloc q3 o
  have q4a := fun o : Obj => cell_alloc q4 o
  have q5a := fun o : Obj => cell_alloc q5 o
  have hb0 : ∀ o1 o2, Below w.heap.size w ((w.alloc o1).alloc o2) := fun o1 o2 => (((Below.refl _ _).alloc (Nat.le_refl _) _).alloc (by simp) _)
  have HB0 : Hid (∀ o1 o2, Below w.heap.size w ((w.alloc o1).alloc o2)) := hb0
  clear hC hc hI HSm h hS hb0
  obtain h1 | h1 := bool_or9 (inB (t.tT k).id 1 (t.nx - 1))
  case inr =>
    have HC : Hid (C = 3) := HE.out.trans (if_neg (by rw [HI.out, h1]; simp))
    clear HE HI
    go_enter Try.func54, Try.ntmps54
    go_wp2_with (first | (go_at_call 52; refine (within_any _ _ _ _).mono ?_; rintro e w' ⟨rfl, rfl⟩; rw [h1]))
    go_ret
    exact ⟨ret_int HC.out.symm, HB0.out _ _⟩
  obtain h2 | h2 := bool_or9 (inB (t.tT k).am 0 t.ck)
  case inr =>
    have HC : Hid (C = 3) := HE.out.trans (if_neg (by rw [HI.out, h1, h2]; simp))
    clear HE HI
    go_enter Try.func54, Try.ntmps54
    go_wp2_with (first | (go_at_call 52; refine (within_any _ _ _ _).mono ?_; rintro e w' ⟨rfl, rfl⟩; first | rw [h1] | rw [h2]))
    go_ret
    exact ⟨ret_int HC.out.symm, HB0.out _ _⟩
  obtain h3 | h3 := bool_or9 (inB (t.tT k).st 1 3)
  case inr =>
    have HC : Hid (C = 3) := HE.out.trans (if_neg (by rw [HI.out, h1, h2, h3]; simp))
    clear HE HI
    go_enter Try.func54, Try.ntmps54
    go_wp2_with (first | (go_at_call 52; refine (within_any _ _ _ _).mono ?_; rintro e w' ⟨rfl, rfl⟩; first | rw [h1] | rw [h2] | rw [h3]))
    go_ret
    exact ⟨ret_int HC.out.symm, HB0.out _ _⟩
  replace HE : Hid (C = _) := HE.out.trans (if_pos (by rw [HI.out, h1, h2, h3]; rfl))
  go_enter Try.func54, Try.ntmps54
  go_upto_region 4 with (first | (go_at_call 52; refine (within_any _ _ _ _).mono ?_; rintro e w' ⟨rfl, rfl⟩; first | rw [h1] | rw [h2] | rw [h3]))
  clear h1 h2 h3 HI
  obtain ⟨W, hW⟩ : ∃ x, x = (w.alloc (.cells #[.int .i64 t.nx, .int .i64 t.ck, .slice a0 t.wn c0, .slice a1 t.ln c1, .slice (some ⟨b, off, none⟩) t.tn c2] 50)).alloc (.cells #[.int .i64 (t.tT k).id, .int .i64 (t.tT k).am, .int .i64 (t.tT k).st, .slice x0 (t.tT k).sn y0, .slice x1 (t.tT k).wn y1, .slice x2 (t.tT k).rn y2] 107) := ⟨_, rfl⟩
  have HB : Hid (Below w.heap.size w W) := by rw [hW]; exact HB0.out _ _
  have p : Box6 W (w.heap.size + 1) (.int .i64 (t.tT k).id) (.int .i64 (t.tT k).am) (.int .i64 (t.tT k).st) (.slice x0 (t.tT k).sn y0) (.slice x1 (t.tT k).wn y1) (.slice x2 (t.tT k).rn y2) := by
    have := Box6.new (w.alloc (.cells #[.int .i64 t.nx, .int .i64 t.ck, .slice a0 t.wn c0, .slice a1 t.ln c1, .slice (some ⟨b, off, none⟩) t.tn c2] 50)) (.int .i64 (t.tT k).id) (.int .i64 (t.tT k).am) (.int .i64 (t.tT k).st) (.slice x0 (t.tT k).sn y0) (.slice x1 (t.tT k).wn y1) (.slice x2 (t.tT k).rn y2) 107
    rw [hW]
    simpa using this
  have e4 : W.cell? ⟨w.heap.size, 4, none⟩ = some (.slice (some ⟨b, off, none⟩) t.tn c2) := by
    rw [hW]
    exact cell_alloc (Box5.new w (.int .i64 t.nx) (.int .i64 t.ck) (.slice a0 t.wn c0) (.slice a1 t.ln c1) (.slice (some ⟨b, off, none⟩) t.tn c2) 50).2.2.2.2 _
  rw [← hW]
  clear hW
  obtain ⟨p0, p1, p2, p3, p4, p5⟩ := p
  replace HCC : Hid (∀ i, i < t.tn → W.cell? ⟨b, off + i * 6, none⟩ = some (.int .i64 (t.tT i).id)) := fun i hi => cell_below (HCC.out i hi) HB.out
  replace HIN : Hid (InCd W x0 x1 x2 (t.tT k)) := HIN.out.below HB.out
  clear q0 q1 q2 q3 q4 q5 q0a q1a q2a q3a q4a q5a HB0
  go_cut [53] (fun cc wx => cc = .bool (cdB1 t.tT k || cdB2 (t.tT k)) ∧ Below W.heap.size W wx)
  case first =>
    have h1B : Hid (cdB1 t.tT k = (decide (0 < k) && decide ((t.tT k).id ≤ (t.tT (k - 1)).id))) := rfl
    have HQ : Hid (∀ w', Calls Try.prog 77 #[.agg #[.int .i64 (t.tT k).id, .int .i64 (t.tT k).am, .int .i64 (t.tT k).st, .slice x0 (t.tT k).sn y0, .slice x1 (t.tT k).wn y1, .slice x2 (t.tT k).rn y2]] w' fun e w2 => e = .returned (.bool (!cdB2 (t.tT k))) ∧ Below w'.heap.size w' w2) := fun w' => hasForm_any _ _ _ _ _ _ _ _ HSK.out
    have hfirst : (∃ j, k = j + 1 ∧ cdB1 t.tT k = decide ((t.tT k).id ≤ (t.tT j).id)) ∨ (decide (0 < k) = false ∧ cdB1 t.tT k = false) := by
      rcases Nat.eq_zero_or_pos k with e | e
      · exact .inr ⟨by simp; omega, by rw [h1B.out, show decide (0 < k) = false by simp; omega]; rfl⟩
      · refine .inl ⟨k - 1, by omega, ?_⟩
        rw [h1B.out, show decide (0 < k) = true by simp; omega]; rfl
    clear HE h1B
    rcases hfirst with ⟨j, rfl, e1⟩ | ⟨hd, e1⟩
    · have y3 := HCC.out j (by omega)
      have hj1 : (j : Int) < (t.tn : Int) := by omega
      have hj2 : j < t.tn := by omega
      have hwj : IntKind.i64.wrap (j : Int) = (j : Int) := by rw [IntKind.wrap_i64]; omega
      obtain hx1 | hx1 := bool_or9 (decide ((t.tT (j + 1)).id ≤ (t.tT j).id))
      · rw [hx1] at e1
        have HV : Hid ((cdB1 t.tT (j + 1) || cdB2 (t.tT (j + 1))) = true) := by show _ = _; rw [e1]; rfl
        clear e1 HQ
        go_quiet (fail)
        go_wp2_with fail
        go_meet
        exact ⟨by rw [HV.out], by first | exact below_drewN (Below.refl _ _) _ | exact (Below.refl _ _).drew⟩
      · rw [hx1] at e1
        have HV : Hid ((cdB1 t.tT (j + 1) || cdB2 (t.tT (j + 1))) = cdB2 (t.tT (j + 1))) := by show _ = _; rw [e1]; rfl
        clear e1
        generalize cdB2 (t.tT (j + 1)) = c at *
        have hb0 : Below W.heap.size W W.drew := (Below.refl _ _).drew
        go_region_held3 (fun w' => Below W.heap.size W w' ∧ w'.cell? ⟨w.heap.size + 1, 0, none⟩ = some (.int .i64 (t.tT (j + 1)).id) ∧ w'.cell? ⟨w.heap.size + 1, 1, none⟩ = some (.int .i64 (t.tT (j + 1)).am) ∧ w'.cell? ⟨w.heap.size + 1, 2, none⟩ = some (.int .i64 (t.tT (j + 1)).st) ∧ w'.cell? ⟨w.heap.size + 1, 3, none⟩ = some (.slice x0 (t.tT (j + 1)).sn y0) ∧ w'.cell? ⟨w.heap.size + 1, 4, none⟩ = some (.slice x1 (t.tT (j + 1)).wn y1) ∧ w'.cell? ⟨w.heap.size + 1, 5, none⟩ = some (.slice x2 (t.tT (j + 1)).rn y2) ∧ w'.cell? ⟨w.heap.size, 4, none⟩ = some (.slice (some ⟨b, off, none⟩) t.tn c2) ∧ w'.cell? ⟨b, off + j * 6, none⟩ = some (.int .i64 (t.tT j).id)) (go_keep)
          (first | (go_at_call 77; refine (HQ.out _).mono ?_; rintro e w2 ⟨rfl, hb2⟩; have hU := below_then (w := W) (by simp [*]) hb2; have u0 := cell_below (B := w.heap.size + 1) (o := 0) (v := .int .i64 (t.tT (j + 1)).id) (by simp [*]) hb2; have u1 := cell_below (B := w.heap.size + 1) (o := 1) (v := .int .i64 (t.tT (j + 1)).am) (by simp [*]) hb2; have u2 := cell_below (B := w.heap.size + 1) (o := 2) (v := .int .i64 (t.tT (j + 1)).st) (by simp [*]) hb2; have u3 := cell_below (B := w.heap.size + 1) (o := 3) (v := .slice x0 (t.tT (j + 1)).sn y0) (by simp [*]) hb2; have u4 := cell_below (B := w.heap.size + 1) (o := 4) (v := .slice x1 (t.tT (j + 1)).wn y1) (by simp [*]) hb2; have u5 := cell_below (B := w.heap.size + 1) (o := 5) (v := .slice x2 (t.tT (j + 1)).rn y2) (by simp [*]) hb2; have u6 := cell_below (B := w.heap.size) (o := 4) (v := .slice (some ⟨b, off, none⟩) t.tn c2) (by simp [*]) hb2; have u7 := cell_below (B := b) (o := off + j * 6) (v := .int .i64 (t.tT j).id) (by simp [*]) hb2))
        go_wp2_with fail
        go_meet
        exact ⟨by rw [HV.out], by assumption⟩
    · have HV : Hid ((cdB1 t.tT k || cdB2 (t.tT k)) = !(!cdB2 (t.tT k))) := by show _ = _; rw [e1]; simp
      clear e1
      generalize (!cdB2 (t.tT k)) = cc at *
      refine wp_region_held_drew (S := fun w' => Below W.heap.size W w' ∧ w'.cell? ⟨w.heap.size + 1, 0, none⟩ = some (.int .i64 (t.tT k).id) ∧ w'.cell? ⟨w.heap.size + 1, 1, none⟩ = some (.int .i64 (t.tT k).am) ∧ w'.cell? ⟨w.heap.size + 1, 2, none⟩ = some (.int .i64 (t.tT k).st) ∧ w'.cell? ⟨w.heap.size + 1, 3, none⟩ = some (.slice x0 (t.tT k).sn y0) ∧ w'.cell? ⟨w.heap.size + 1, 4, none⟩ = some (.slice x1 (t.tT k).wn y1) ∧ w'.cell? ⟨w.heap.size + 1, 5, none⟩ = some (.slice x2 (t.tT k).rn y2)) (by kernel_rfl) ⟨(Below.refl _ _).drew, p0, p1, p2, p3, p4, p5⟩ (fun hS => ?_)
      refine wpAnyH_take (i := 0) (v := .int .i64 (k : Int)) rfl (by kernel_rfl) (by kernel_rfl) (by kernel_rfl) (fun _ _ _ h => h) (Or.inl ⟨by kernel_rfl, by intro u hSu; obtain ⟨g9, g0, g1, g2, g3, g4, g5⟩ := hSu; go_simp⟩) hS ?_
      refine wpAnyH_take (i := 1) (v := .bool false) rfl (by kernel_rfl) (by kernel_rfl) (by kernel_rfl) (fun _ _ _ h => h) (Or.inl ⟨by kernel_rfl, by intro u hSu; obtain ⟨g9, g0, g1, g2, g3, g4, g5⟩ := hSu; go_simp⟩) hS ?_
      refine wpAnyH_take (i := 2) (v := .bool false) rfl (by kernel_rfl) (by kernel_rfl) (by kernel_rfl) (fun _ _ _ h => h) (Or.inl ⟨by kernel_rfl, by intro u hSu; obtain ⟨g9, g0, g1, g2, g3, g4, g5⟩ := hSu; go_simp⟩) hS ?_
      refine skipH 3 (some 38) (by kernel_rfl) (by kernel_rfl) (by kernel_rfl) (by kernel_rfl) (by kernel_rfl) (fun _ _ _ h => h) hS ?_
      refine skipH 4 (some 39) (by kernel_rfl) (by kernel_rfl) (by kernel_rfl) (by kernel_rfl) (by kernel_rfl) (fun _ _ _ h => h) hS ?_
      refine skipH 5 (some 40) (by kernel_rfl) (by kernel_rfl) (by kernel_rfl) (by kernel_rfl) (by kernel_rfl) (fun _ _ _ h => h) hS ?_
      refine skipH 6 (some 41) (by kernel_rfl) (by kernel_rfl) (by kernel_rfl) (by kernel_rfl) (by kernel_rfl) (fun _ _ _ h => h) hS ?_
      refine skipH 7 (some 42) (by kernel_rfl) (by kernel_rfl) (by kernel_rfl) (by kernel_rfl) (by kernel_rfl) (fun _ _ _ h => h) hS ?_
      refine skipH 8 (some 43) (by kernel_rfl) (by kernel_rfl) (by kernel_rfl) (by kernel_rfl) (by kernel_rfl) (fun _ _ _ h => h) hS ?_
      refine skipH 9 (some 44) (by kernel_rfl) (by kernel_rfl) (by kernel_rfl) (by kernel_rfl) (by kernel_rfl) (fun _ _ _ h => h) hS ?_
      refine skipH 10 (some 45) (by kernel_rfl) (by kernel_rfl) (by kernel_rfl) (by kernel_rfl) (by kernel_rfl) (fun _ _ _ h => h) hS ?_
      refine skipH 11 (some 46) (by kernel_rfl) (by kernel_rfl) (by kernel_rfl) (by kernel_rfl) (by kernel_rfl) (fun _ _ _ h => h) hS ?_
      refine skipH 12 (some 47) (by kernel_rfl) (by kernel_rfl) (by kernel_rfl) (by kernel_rfl) (by kernel_rfl) (fun _ _ _ h => h) hS ?_
      refine wpAnyH_take (i := 13) (v := .bool false) rfl (by kernel_rfl) (by kernel_rfl) (by kernel_rfl) (fun _ _ _ h => h) (Or.inl ⟨by kernel_rfl, by intro u hSu; obtain ⟨g9, g0, g1, g2, g3, g4, g5⟩ := hSu; go_simp⟩) hS ?_
      refine wpAnyH_take (i := 14) (v := .bool false) rfl (by kernel_rfl) (by kernel_rfl) (by kernel_rfl) (fun _ _ _ h => h) (Or.inl ⟨by kernel_rfl, by intro u hSu; obtain ⟨g9, g0, g1, g2, g3, g4, g5⟩ := hSu; go_simp⟩) hS ?_
      refine wpAnyH_take (i := 15) (v := .agg #[.int .i64 (t.tT k).id, .int .i64 (t.tT k).am, .int .i64 (t.tT k).st, .slice x0 (t.tT k).sn y0, .slice x1 (t.tT k).wn y1, .slice x2 (t.tT k).rn y2]) rfl (by kernel_rfl) (by kernel_rfl) (by kernel_rfl) (fun _ _ _ h => h) (Or.inl ⟨by kernel_rfl, by intro u hSu; obtain ⟨g9, g0, g1, g2, g3, g4, g5⟩ := hSu; go_simp⟩) hS ?_
      refine wpAnyH_ready (rs := [16]) (by kernel_rfl) (by simp) ?_
      refine AllReadyH.cons rfl (fun K hK => ?_) AllReadyH.nil
      go_simp
      refine (HQ.out _).mono ?_
      rintro e w2 ⟨rfl, hb2⟩
      have hB2 : Below W.heap.size W w2 := below_then (w := W) (Below.refl _ _).drew hb2
      refine hK.out _ _ ⟨hB2, cell_below p0 hB2, cell_below p1 hB2, cell_below p2 hB2, cell_below p3 hB2, cell_below p4 hB2, cell_below p5 hB2⟩ (fun hS2 => ?_)
      clear hK K hS
      have hS := hS2
      clear hS2

      refine wpAnyH_take (i := 17) (v := .bool (!cc)) rfl (by kernel_rfl) (by kernel_rfl) (by kernel_rfl) (fun _ _ _ h => h) (Or.inl ⟨by kernel_rfl, by intro u hSu; obtain ⟨g9, g0, g1, g2, g3, g4, g5⟩ := hSu; go_simp⟩) hS ?_
      refine wpAnyH_take (i := 18) (v := .bool (!cc)) rfl (by kernel_rfl) (by kernel_rfl) (by kernel_rfl) (fun _ _ _ h => h) (Or.inl ⟨by kernel_rfl, by intro u hSu; obtain ⟨g9, g0, g1, g2, g3, g4, g5⟩ := hSu; go_simp⟩) hS ?_
      refine wpAnyH_done (by kernel_rfl) ?_ _
      go_simp
      go_wp2_with fail
      go_meet
      exact ⟨by rw [HV.out], hB2⟩
  case rest =>
  obtain ⟨rfl, hbw⟩ := hcut
  replace HB : Hid (Below w.heap.size w wc) := below_then HB.out hbw
  replace p3 := cell_below p3 hbw
  replace p4 := cell_below p4 hbw
  replace p5 := cell_below p5 hbw
  replace HIN : Hid (InCd wc x0 x1 x2 (t.tT k)) := HIN.out.below hbw
  clear hbw e4 p0 p1 p2 HCC W
  obtain ⟨s0, s1, s2⟩ := HSK.out
  generalize t.tT k = u at *
  obtain hbb | hbb := bool_or9 (cdB1 t.tT k || cdB2 u)
  case inl =>
    have HC : Hid (C = 1) := HE.out.trans (if_pos hbb)
    rw [hbb]
    clear HE hbb
    go_wp2_with fail
    go_ret
    exact ⟨ret_int HC.out.symm, HB.out⟩
  replace HE : Hid (C = _) := HE.out.trans (if_neg (by simp [hbb]))
  rw [hbb]
  clear hbb
  go_wp2_with fail
  obtain ⟨V, hV⟩ : ∃ x, x = wc.alloc (.cells #[.slice x0 u.sn y0, .slice x1 u.wn y1] 29) := ⟨_, rfl⟩
  have hbv : Below wc.heap.size wc V := by rw [hV]; exact below_new _ _
  have v : Box2 V wc.heap.size (.slice x0 u.sn y0) (.slice x1 u.wn y1) := by rw [hV]; exact Box2.new _ _ _ _
  rw [← hV]
  clear hV
  obtain ⟨v0, v1⟩ := v
  have HV0 : Hid (V.cell? ⟨wc.heap.size, 0, none⟩ = some (.slice x0 u.sn y0)) := v0
  have HV1 : Hid (V.cell? ⟨wc.heap.size, 1, none⟩ = some (.slice x1 u.wn y1)) := v1
  have HP5 : Hid (V.cell? ⟨w.heap.size + 1, 5, none⟩ = some (.slice x2 u.rn y2)) := cell_below p5 hbv
  replace HB : Hid (Below w.heap.size w V) := below_then HB.out hbv
  replace HIN : Hid (InCd V x0 x1 x2 u) := HIN.out.below hbv
  clear hbv v0 v1 p3 p4 p5
  go_loopw [7, 8, 60] (fun _ _ i wr => ∃ k : Nat, k ≤ 2 ∧ i = .int .i64 k ∧ Hid (0 < k → cff u.sK u.sV u.sn 0 = 0) ∧ Hid (1 < k → cff u.wK u.wV u.wn 0 = 0) ∧ Hid (Below V.heap.size V wr)) (fun _ _ i _ => 2 - (intOf i).toNat)
  case atStart => exact ⟨0, by omega, rfl, fun h => absurd h (by omega), fun h => absurd h (by omega), Below.refl _ _⟩
  case round =>
    obtain ⟨q, hq, rfl, HZ0, HZ1, HBV⟩ := hrel
    have HIr : Hid (InCd wr x0 x1 x2 u) := HIN.out.below HBV.out
    have HBr : Hid (Below w.heap.size w wr) := below_then HB.out HBV.out
    have hcase : q = 0 ∨ q = 1 ∨ q = 2 := by omega
    rcases hcase with rfl | rfl | rfl
    · have v0 := cell_below HV0.out HBV.out
      go_wp2_with fail
      refine (cellsFault_any u.sn u.sK u.sV x0 y0 _ (by omega) HIr.out.1).mono ?_
      rintro e w4 ⟨rfl, hb4⟩
      have HB4 : Hid (Below V.heap.size V w4) := below_then HBV.out hb4
      have HB4' : Hid (Below w.heap.size w w4) := below_then HBr.out hb4
      clear hb4 v0
      by_cases hz : cff u.sK u.sV u.sn 0 = 0
      · have HZ : Hid (0 < 0 + 1 → cff u.sK u.sV u.sn 0 = 0) := fun _ => hz
        rw [hz]
        clear hz
        go_wp2_with fail
        go_roundw
        case rel => exact ⟨0 + 1, by omega, by go_num, HZ, fun h => absurd h (by omega), HB4⟩
        case measure => simp [intOf]
      · have HC : Hid (C = cff u.sK u.sV u.sn 0) := HE.out.trans (if_neg hz)
        have hd : (cff u.sK u.sV u.sn 0 != 0) = true := by simpa using hz
        clear HE HZ0
        generalize cff u.sK u.sV u.sn 0 = z at *
        clear hz
        go_wp2_with fail
        go_ret
        exact ⟨ret_int HC.out.symm, HB4'.out⟩
    · have v1 := cell_below HV1.out HBV.out
      go_wp2_with fail
      refine (cellsFault_any u.wn u.wK u.wV x1 y1 _ (by omega) HIr.out.2.1).mono ?_
      rintro e w4 ⟨rfl, hb4⟩
      have HB4 : Hid (Below V.heap.size V w4) := below_then HBV.out hb4
      have HB4' : Hid (Below w.heap.size w w4) := below_then HBr.out hb4
      clear hb4 v1
      by_cases hz : cff u.wK u.wV u.wn 0 = 0
      · have HZ : Hid (1 < 1 + 1 → cff u.wK u.wV u.wn 0 = 0) := fun _ => hz
        rw [hz]
        clear hz
        go_wp2_with fail
        go_roundw
        case rel => exact ⟨1 + 1, by omega, by go_num, fun _ => HZ0.out (by omega), HZ, HB4⟩
        case measure => simp [intOf]
      · have HC : Hid (C = cff u.wK u.wV u.wn 0) := (HE.out.trans (if_pos (HZ0.out (by omega)))).trans (if_neg hz)
        have hd : (cff u.wK u.wV u.wn 0 != 0) = true := by simpa using hz
        clear HE HZ0 HZ1
        generalize cff u.wK u.wV u.wn 0 = z at *
        clear hz
        go_wp2_with fail
        go_ret
        exact ⟨ret_int HC.out.symm, HB4'.out⟩
    · have HC : Hid (C = wrF u.rn u.rF) := (HE.out.trans (if_pos (HZ0.out (by omega)))).trans (if_pos (HZ1.out (by omega)))
      have p5 := cell_below HP5.out HBV.out
      clear HE HZ0 HZ1
      go_wp2_with fail
      refine (wroteFault_any u.rn u.rF x2 y2 _ s2 HIr.out.2.2).mono ?_
      rintro e w4 ⟨rfl, hw4⟩
      rw [hw4]
      clear hw4 w4
      go_wp2_with fail
      go_ret
      exact ⟨ret_int HC.out.symm, HBr.out⟩
set_option maxHeartbeats 4000000 in
theorem implCf_any (t : Cs) (a0 : Option Addr) (c0 : Nat) (a1 : Option Addr) (c1 : Nat) (a2 : Option Addr) (c2 : Nat) (w : World) (hS : SmCs t) (h : InCs w a0 a1 a2 t) :
    Calls Try.prog 21 #[.agg #[.int .i64 t.nx, .int .i64 t.ck, .slice a0 t.wn c0, .slice a1 t.ln c1, .slice a2 t.tn c2]] w fun e w' => e = .returned (.int .i64 (csF t)) ∧ Below w.heap.size w w' := by
  generalize hC : csF t = C
  have HE : Hid (C = _) := hC.symm.trans (show csF t = if (inB t.nx 1 999 && inB t.ck 0 1000000) = true then (if 20 < t.tn then 2 else if t.ln = 32 then (if alI 0 t.ck t.lF t.ln 0 = true then (if cff t.wK t.wV t.wn 0 = 0 then ffy (cdF t.nx t.ck t.tT) t.tn 0 else cff t.wK t.wV t.wn 0) else 3) else 1) else 3 from rfl)
  have HA : Hid (InCs w a0 a1 a2 t) := h
  have HSM : Hid (SmCs t) := hS
  have hwn := hS.1
  clear hC h hS
  obtain h1 | h1 := bool_or9 (inB t.nx 1 999)
  case inr =>
    have HC : Hid (C = 3) := HE.out.trans (if_neg (by simp [h1]))
    clear HE
    go_enter Try.func21, Try.ntmps21
    go_wp2_with (first | (go_at_call 50; refine (isTxn_any _ _).mono ?_; rintro e w' ⟨rfl, rfl⟩; rw [h1]) | (go_at_call 51; refine (isAt_any _ _).mono ?_; rintro e w' ⟨rfl, rfl⟩))
    go_ret
    exact ⟨ret_int HC.out.symm, below_new _ _⟩
  obtain h2 | h2 := bool_or9 (inB t.ck 0 1000000)
  case inr =>
    have HC : Hid (C = 3) := HE.out.trans (if_neg (by simp [h2]))
    clear HE
    go_enter Try.func21, Try.ntmps21
    go_wp2_with (first | (go_at_call 50; refine (isTxn_any _ _).mono ?_; rintro e w' ⟨rfl, rfl⟩; rw [h1]) | (go_at_call 51; refine (isAt_any _ _).mono ?_; rintro e w' ⟨rfl, rfl⟩; rw [h2]))
    go_ret
    exact ⟨ret_int HC.out.symm, below_new _ _⟩
  replace HE : Hid (C = _) := HE.out.trans (if_pos (by rw [h1, h2]; rfl))
  by_cases h3 : 20 < t.tn
  case pos =>
    have HC : Hid (C = 2) := HE.out.trans (if_pos h3)
    clear HE
    go_enter Try.func21, Try.ntmps21
    go_wp2_with (first | (go_at_call 50; refine (isTxn_any _ _).mono ?_; rintro e w' ⟨rfl, rfl⟩; rw [h1]) | (go_at_call 51; refine (isAt_any _ _).mono ?_; rintro e w' ⟨rfl, rfl⟩; rw [h2]))
    go_ret
    exact ⟨ret_int HC.out.symm, below_new _ _⟩
  replace HE : Hid (C = _) := HE.out.trans (if_neg h3)
  by_cases h4 : t.ln = 32
  case neg =>
    have HC : Hid (C = 1) := HE.out.trans (if_neg h4)
    have hd : ((t.ln : Int) != 32) = true := by simp; omega
    clear HE h4
    go_enter Try.func21, Try.ntmps21
    go_wp2_with (first | (go_at_call 50; refine (isTxn_any _ _).mono ?_; rintro e w' ⟨rfl, rfl⟩; rw [h1]) | (go_at_call 51; refine (isAt_any _ _).mono ?_; rintro e w' ⟨rfl, rfl⟩; rw [h2]))
    go_ret
    exact ⟨ret_int HC.out.symm, below_new _ _⟩
  replace HE : Hid (C = _) := HE.out.trans (if_pos h4)
  have hd4 : ((t.ln : Int) != 32) = false := by simp; omega
  have hlsm : t.ln ≤ 1048576 := by omega
  have HNX : Hid (1 ≤ t.nx ∧ t.nx ≤ 999) := inB_iff.1 h1
  clear h4
  go_enter Try.func21, Try.ntmps21
  go_wp2_with (first | (go_at_call 50; refine (isTxn_any _ _).mono ?_; rintro e w' ⟨rfl, rfl⟩; rw [h1]) | (go_at_call 51; refine (isAt_any _ _).mono ?_; rintro e w' ⟨rfl, rfl⟩; rw [h2]))
  clear h1 h2
  have hbx := Box5.new w (.int .i64 t.nx) (.int .i64 t.ck) (.slice a0 t.wn c0) (.slice a1 t.ln c1) (.slice a2 t.tn c2) 50
  have HB0 : Hid (Below w.heap.size w (w.alloc (.cells #[.int .i64 t.nx, .int .i64 t.ck, .slice a0 t.wn c0, .slice a1 t.ln c1, .slice a2 t.tn c2] 50))) := below_new _ _
  generalize (w.alloc (.cells #[.int .i64 t.nx, .int .i64 t.ck, .slice a0 t.wn c0, .slice a1 t.ln c1, .slice a2 t.tn c2] 50)) = W at *
  have HF : Hid (IntsAt W a1 t.ln t.lF) := HA.out.2.1.below HB0.out
  obtain ⟨e0, e1, e2, e3, e4⟩ := hbx
  go_loop [4, 29] (fun _ i => ∃ k : Nat, k ≤ t.ln ∧ i = .int .i64 k ∧ Hid (alI 0 t.ck t.lF t.ln 0 = alI 0 t.ck t.lF (t.ln - k) k)) (fun _ i => t.ln - (intOf i).toNat)
  case atStart => exact ⟨0, Nat.zero_le _, rfl, rfl⟩
  case round =>
    obtain ⟨k, hk, rfl, HC⟩ := hrel
    by_cases hlt : k < t.ln
    · rcases HF.out with h | ⟨b, off, rfl, hl, hc⟩
      · omega
      have h0 := hc k hlt
      have hlt' : (k : Int) < (t.ln : Int) := by omega
      have hk0 : (0 : Int) ≤ (k : Int) := by omega
      have HD : Hid (alI 0 t.ck t.lF t.ln 0 = _) := HC.out.trans (alI_at hlt)
      clear HC hc
      obtain hx | hx := bool_or9 (inB (t.lF k) 0 t.ck)
      · have HC : Hid (alI 0 t.ck t.lF t.ln 0 = alI 0 t.ck t.lF (t.ln - (k + 1)) (k + 1)) := HD.out.trans (if_pos hx)
        clear HD
        go_wp2_with (go_at_call 52; refine (within_any _ _ _ _).mono ?_; rintro e w' ⟨rfl, rfl⟩; rw [hx])
        go_round
        case rel => exact ⟨k + 1, hlt, by go_num, HC⟩
        case measure => simp [intOf]; omega
      · have HC : Hid (C = 3) := by refine HE.out.trans (if_neg ?_); rw [HD.out, if_neg (by simp [hx])]; simp
        clear HD HE
        go_wp2_with (go_at_call 52; refine (within_any _ _ _ _).mono ?_; rintro e w' ⟨rfl, rfl⟩; rw [hx])
        go_ret
        exact ⟨ret_int HC.out.symm, HB0.out⟩
    · have HA2 : Hid (alI 0 t.ck t.lF t.ln 0 = true) := by refine HC.out.trans ?_; rw [show t.ln - k = 0 by omega, alI]
      have HE2 : Hid (C = _) := HE.out.trans (if_pos HA2.out)
      have hnl : ¬ ((k : Int) < (t.ln : Int)) := by omega
      clear HC HE HA2 HF
      have HIN : Hid (InCs W a0 a1 a2 t) := HA.out.below HB0.out
      go_wp2_with fail
      refine (cellsFault_any t.wn t.wK t.wV a0 c0 _ (by omega) HIN.out.1).mono ?_
      rintro e w2 ⟨rfl, hb2⟩
      have HB2 : Hid (Below w.heap.size w w2) := below_then HB0.out hb2
      have HBX : Hid (Box5 w2 w.heap.size (.int .i64 t.nx) (.int .i64 t.ck) (.slice a0 t.wn c0) (.slice a1 t.ln c1) (.slice a2 t.tn c2)) := Box5.below ⟨e0, e1, e2, e3, e4⟩ hb2
      have HIN2 : Hid (InCs w2 a0 a1 a2 t) := HIN.out.below hb2
      obtain ⟨r0, r1, r2, r3, r4⟩ := HBX.out
      clear hb2 HIN e0 e1 e2 e3 e4
      by_cases hz : cff t.wK t.wV t.wn 0 = 0
      case neg =>
        have HC : Hid (C = cff t.wK t.wV t.wn 0) := HE2.out.trans (if_neg hz)
        have hd : (cff t.wK t.wV t.wn 0 != 0) = true := by simpa using hz
        generalize cff t.wK t.wV t.wn 0 = z at *
        clear HE2 hz
        go_wp2_with fail
        go_ret
        exact ⟨ret_int HC.out.symm, HB2.out⟩
      replace HE2 : Hid (C = ffy (cdF t.nx t.ck t.tT) t.tn 0) := HE2.out.trans (if_pos hz)
      rw [hz]
      clear hz
      go_wp2_with fail
      clear r0 r1 r2 r3 r4
      go_loopw [6, 7, 48] (fun _ _ i wr => ∃ k : Nat, k ≤ t.tn ∧ i = .int .i64 k ∧ Hid (C = ffy (cdF t.nx t.ck t.tT) (t.tn - k) k) ∧ Hid (Below w2.heap.size w2 wr)) (fun _ _ i _ => t.tn - (intOf i).toNat)
      case atStart => exact ⟨0, Nat.zero_le _, rfl, HE2, Below.refl _ _⟩
      case round =>
        obtain ⟨q, hq, rfl, HC, HBR⟩ := hrel
        obtain ⟨e0, e1, e2, e3, e4⟩ := HBX.out.below HBR.out
        have HINr : Hid (InCs wr a0 a1 a2 t) := HIN2.out.below HBR.out
        have HBr : Hid (Below w.heap.size w wr) := below_then HB2.out HBR.out
        by_cases hlt : q < t.tn
        · have hlt' : (q : Int) < (t.tn : Int) := by omega
          have HD : Hid (C = _) := HC.out.trans (ffy_at _ hlt)
          clear HC
          go_wp2_with fail
          refine (copiedFault_any t q a0 c0 a1 c1 a2 c2 _ hlt HSM.out HNX.out HINr.out).mono ?_
          rintro e w3 ⟨rfl, hb3⟩
          have HB3 : Hid (Below w2.heap.size w2 w3) := below_then HBR.out hb3
          have HB3' : Hid (Below w.heap.size w w3) := below_then HBr.out hb3
          clear hb3 e0 e1 e2 e3 e4
          by_cases hz : cdF t.nx t.ck t.tT q = 0
          · have HC : Hid (C = ffy (cdF t.nx t.ck t.tT) (t.tn - (q + 1)) (q + 1)) := HD.out.trans (if_pos hz)
            rw [hz]
            clear HD hz
            go_wp2_with fail
            go_roundw
            case rel => exact ⟨q + 1, hlt, by go_num, HC, HB3⟩
            case measure => simp [intOf]; omega
          · have HC : Hid (C = cdF t.nx t.ck t.tT q) := HD.out.trans (if_neg hz)
            have hd : (cdF t.nx t.ck t.tT q != 0) = true := by simpa using hz
            generalize cdF t.nx t.ck t.tT q = z at *
            clear HD hz
            go_wp2_with fail
            go_ret
            exact ⟨ret_int HC.out.symm, HB3'.out⟩
        · have HC2 : Hid (C = 0) := by refine HC.out.trans ?_; rw [show t.tn - q = 0 by omega, ffy]
          have hnl2 : ¬ ((q : Int) < (t.tn : Int)) := by omega
          clear HC
          go_wp2_with fail
          go_ret
          exact ⟨ret_int HC2.out.symm, HBr.out⟩
end Go.Proofs.Ytenglcgkachomaa
