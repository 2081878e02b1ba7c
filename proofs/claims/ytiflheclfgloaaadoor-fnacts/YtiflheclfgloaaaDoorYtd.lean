/- The model's FormatAct. -/
import Derived.Test.YtiflheclfgloaaaDoorYtb
import Derived.Test.YtiflheclfgloaaaDoorYsj
namespace Go.Proofs.YtiflheclfgloaaaDoor
open Go.RowKit Go.Deep
set_option linter.unusedVariables false
set_option maxRecDepth 20000

/-- The numbers that the model lists. -/
def NumsAt (x y z : Int) (n : Nat) (w : World) (e : Ending) (w' : World) : Prop := ∃ a cap, e = .returned (.slice a n cap) ∧ Below w.heap.size w w' ∧ n ≤ cap ∧ (n = 0 ∨ ∃ b, a = some ⟨b, 0, none⟩ ∧ b < w'.heap.size ∧ ∀ j, j < n → w'.cell? ⟨b, j, none⟩ = some (.int .i64 (nm x y z j)))
theorem nums_zero (w : World) (k x y z : Int) (hk : k = 1) : Calls Tryd.prog 23 #[.agg #[.int .i64 k, .int .i64 x, .int .i64 y, .int .i64 z]] w (NumsAt x y z 0 w) := by
  subst hk
  go_enter Tryd.func23, Tryd.ntmps23
  go_wp2_with fail
  go_ret
  exact ⟨_, _, rfl, below_new _ _, Nat.le_refl _, .inl rfl⟩
theorem nums_two (w : World) (k x y z : Int) (h1 : (k == 1) = false) (h2 : (k == 2 || k == 5) = true) : Calls Tryd.prog 23 #[.agg #[.int .i64 k, .int .i64 x, .int .i64 y, .int .i64 z]] w (NumsAt x y z 2 w) := by
  have hb : ∀ o1 o2, Below w.heap.size w ((w.alloc o1).alloc o2) := fun o1 o2 => (below_new _ _).alloc (by simp) _
  cases h3 : (k == 2) with
  | true =>
    go_enter Tryd.func23, Tryd.ntmps23
    go_wp2_with fail
    go_ret
    refine ⟨_, _, rfl, hb _ _, Nat.le_refl _, .inr ⟨_, rfl, by simp, fun j hj => ?_⟩⟩
    match j, hj with
    | 0, _ => simp [nm]
    | 1, _ => simp [nm]
  | false =>
    have h5 : (k == 5) = true := by simpa [h3] using h2
    go_enter Tryd.func23, Tryd.ntmps23
    go_wp2_with fail
    go_ret
    refine ⟨_, _, rfl, hb _ _, Nat.le_refl _, .inr ⟨_, rfl, by simp, fun j hj => ?_⟩⟩
    match j, hj with
    | 0, _ => simp [nm]
    | 1, _ => simp [nm]
theorem nums_three (w : World) (k x y z : Int) (hk : k = 4) : Calls Tryd.prog 23 #[.agg #[.int .i64 k, .int .i64 x, .int .i64 y, .int .i64 z]] w (NumsAt x y z 3 w) := by
  have hb : ∀ o1 o2, Below w.heap.size w ((w.alloc o1).alloc o2) := fun o1 o2 => (below_new _ _).alloc (by simp) _
  subst hk
  go_enter Tryd.func23, Tryd.ntmps23
  go_wp2_with fail
  go_ret
  refine ⟨_, _, rfl, hb _ _, Nat.le_refl _, .inr ⟨_, rfl, by simp, fun j hj => ?_⟩⟩
  match j, hj with
  | 0, _ => simp [nm]
  | 1, _ => simp [nm]
  | 2, _ => simp [nm]
theorem nums_one (w : World) (k x y z : Int) (h1 : (k == 1) = false) (h2 : (k == 2) = false) (h3 : (k == 5) = false) (h4 : (k == 4) = false) : Calls Tryd.prog 23 #[.agg #[.int .i64 k, .int .i64 x, .int .i64 y, .int .i64 z]] w (NumsAt x y z 1 w) := by
  have hb : ∀ o1 o2, Below w.heap.size w ((w.alloc o1).alloc o2) := fun o1 o2 => (below_new _ _).alloc (by simp) _
  go_enter Tryd.func23, Tryd.ntmps23
  go_wp2_with fail
  go_ret
  refine ⟨_, _, rfl, hb _ _, Nat.le_refl _, .inr ⟨_, rfl, by simp, fun j hj => ?_⟩⟩
  match j, hj with
  | 0, _ => simp [nm]
theorem nums_any (w : World) (k : Nat) (x y z : Int) (h1 : 1 ≤ k) (h7 : k ≤ 7) : Calls Tryd.prog 23 #[.agg #[.int .i64 (k : Int), .int .i64 x, .int .i64 y, .int .i64 z]] w (NumsAt x y z (fc k) w) := by
  match k, h1, h7 with
  | 1, _, _ => exact nums_zero w _ x y z rfl
  | 2, _, _ => exact nums_two w _ x y z rfl rfl
  | 3, _, _ => exact nums_one w _ x y z rfl rfl rfl rfl
  | 4, _, _ => exact nums_three w _ x y z rfl
  | 5, _, _ => exact nums_two w _ x y z rfl rfl
  | 6, _, _ => exact nums_one w _ x y z rfl rfl rfl rfl
  | 7, _, _ => exact nums_one w _ x y z rfl rfl rfl rfl
/-- The act's box and the answer's. -/
def GKp (w wr : World) (k x y z : Int) : Prop :=
  Below w.heap.size w wr ∧ w.heap.size + 2 ≤ wr.heap.size ∧ (wr.cell? ⟨w.heap.size + 1, 0, none⟩ = some (.int .i64 0) ∧ wr.frozen? ⟨w.heap.size + 1, 0, none⟩ = false) ∧ (wr.cell? ⟨w.heap.size + 1, 1, none⟩ = some (.string ⟨#[]⟩) ∧ wr.frozen? ⟨w.heap.size + 1, 1, none⟩ = false) ∧
    wr.cell? ⟨w.heap.size, 0, none⟩ = some (.int .i64 k) ∧ wr.cell? ⟨w.heap.size, 1, none⟩ = some (.int .i64 x) ∧ wr.cell? ⟨w.heap.size, 2, none⟩ = some (.int .i64 y) ∧ wr.cell? ⟨w.heap.size, 3, none⟩ = some (.int .i64 z)
theorem GKp.below {w wr w1 : World} {k x y z : Int} (h : GKp w wr k x y z) (hb : Below wr.heap.size wr w1) : GKp w w1 k x y z := by
  obtain ⟨h1, h2, ⟨h3, h4⟩, ⟨h5, h6⟩, h7, h8, h9, h10⟩ := h
  obtain ⟨e1, e2⟩ := bcell hb
  refine ⟨h1.trans (hb.mono h1.size), Nat.le_trans h2 hb.size, ⟨?_, ?_⟩, ⟨?_, ?_⟩, ?_, ?_, ?_, ?_⟩
  · rw [e1 _ _ (by omega)]; exact h3
  · rw [e2 _ _ (by omega)]; exact h4
  · rw [e1 _ _ (by omega)]; exact h5
  · rw [e2 _ _ (by omega)]; exact h6
  · rw [e1 _ _ (by omega)]; exact h7
  · rw [e1 _ _ (by omega)]; exact h8
  · rw [e1 _ _ (by omega)]; exact h9
  · rw [e1 _ _ (by omega)]; exact h10
set_option maxHeartbeats 2000000 in
theorem specFormat_any (k x y z : Int) (w : World) : Calls Tryd.prog 9 #[.agg #[.int .i64 k, .int .i64 x, .int .i64 y, .int .i64 z]] w (FRes w k x y z) := by
  have HB2 : Hid (∀ o1 o2, Below w.heap.size w ((w.alloc o1).alloc o2)) := fun o1 o2 => (below_new _ _).alloc (by simp) _
  go_enter Tryd.func9, Tryd.ntmps9
  go_wp2_with fail
  refine (l1In_any _ _ _ _).mono ?_
  rintro e w1 ⟨rfl, hq⟩
  have hq2 := hq.symm
  clear hq
  subst hq2
  cases hk : inB k 1 7 with
  | false =>
    have HA : Hid (fcode k x y z = 3 ∧ ftext k x y z = ByteArray.empty) := ff_no (by simp only [ffit, hk, Bool.false_and])
    go_wp2_with fail
    refine bodyPost_ret (v := .agg #[.int .i64 3, .string ⟨#[]⟩]) (by simp [results, Tryd.results9, go_sem]) rfl ?_
    refine ⟨by rw [HA.out.1, HA.out.2]; rfl, ?_⟩
    repeat (first | with_reducible exact HB2.out _ _ | with_reducible refine Below.setCell ?_ (by first | omega | (simp <;> omega)) _)
  | true =>
    have HK : Hid (inB k 1 7 = true) := hk
    obtain ⟨m, rfl⟩ : ∃ m : Nat, k = m := ⟨k.toNat, by simp only [inB, Bool.and_eq_true, decide_eq_true_eq] at hk; omega⟩
    have hm : 1 ≤ m ∧ m ≤ 7 := by simp only [inB, Bool.and_eq_true, decide_eq_true_eq] at hk; omega
    obtain ⟨hm1, hm7⟩ := hm
    have hfc := fc_le m hm7
    have hlt1 : (m : Int) < 8 := by omega
    have h0 : (0 : Int) ≤ (m : Int) := by omega
    have H0 : Hid (GKp w ((w.alloc (.cells #[.int .i64 (m : Int), .int .i64 x, .int .i64 y, .int .i64 z] 23)).alloc (.cells #[.int .i64 0, .string ⟨#[]⟩] 31)) m x y z) :=
      ⟨HB2.out _ _, by simp, ⟨by simp [go_sem], by simp [go_sem]⟩, ⟨by simp [go_sem], by simp [go_sem]⟩, by simp [go_sem], by simp [go_sem], by simp [go_sem], by simp [go_sem]⟩
    clear hk
    go_wp2_with fail
    refine (nums_any _ m x y z hm1 hm7).mono ?_
    rintro e w3 ⟨xa, xc, rfl, hB3, hxc, hN⟩
    have HG3 : Hid (GKp w w3 m x y z) := H0.out.below hB3
    clear hB3 H0
    go_upto_region 4 with fail
    have hm3 : Tryd.prog.follows .mixedOrders = true := by kernel_rfl
    have hx0 : Hid (GKp w w3.drew m x y z) := HG3.out.below (Below.refl _ _).drew
    refine wp_region_E 5 (S := fun u => GKp w u m x y z ∧ Below w3.heap.size w3 u) hm3 ⟨hx0.out, (Below.refl _ _).drew⟩ (fun hS => ?_)
    refine wpAnyE_takeD (L := 5) (i := 1) (v := .pointer (some ⟨w.heap.size, 0, none⟩)) (some 14) rfl rfl (by kernel_rfl) (by kernel_rfl) (by kernel_rfl) (by kernel_rfl) (fun _ _ _ h => h) (Or.inl ⟨by kernel_rfl, by intro u hSu; go_simp⟩) hS ?_
    try simp only [Act.put, List.setIfInBounds_toArray, List.set_cons_zero, List.set_cons_succ]
    refine wpAnyE_takeD (L := 5) (i := 2) (v := .int .i64 m) (some 15) rfl rfl (by kernel_rfl) (by kernel_rfl) (by kernel_rfl) (by kernel_rfl) (fun _ _ _ h => h) (Or.inl ⟨by kernel_rfl, by intro u hSu; have hq := hSu.1.2.2.2.2.1; go_simp⟩) hS ?_
    try simp only [Act.put, List.setIfInBounds_toArray, List.set_cons_zero, List.set_cons_succ]
    refine wpAnyE_ready (rs := [0]) (by kernel_rfl) (by simp) ?_
    refine AllReadyE.cons rfl (fun K9 hK => ?_) AllReadyE.nil
    go_simp
    refine (l15Names_any _).mono ?_
    rintro e w4 ⟨rfl, hb4, hsz4, hnm⟩
    have hcn : w4.cell? ⟨w3.heap.size, m, none⟩ = some (.string (fw m)) := hnm m (by omega)
    have HN4 : Hid (Below w3.heap.size w3 w4) := hS.2.trans (hb4.mono hS.2.size)
    refine hK.out _ _ (⟨hS.1.below hb4, HN4.out⟩) (fun hS9 => ?_)
    try simp only [Act.put, List.setIfInBounds_toArray, List.set_cons_zero, List.set_cons_succ]
    clear hK K9 hS
    have hS := hS9
    clear hS9
    clear hb4 hsz4 hnm
    refine wpAnyE_ready (rs := [3]) (by kernel_rfl) (by simp) ?_
    refine AllReadyE.cons rfl (fun K9 hK => ?_) AllReadyE.nil
    go_simp
    refine hK.out _ _ (hS) (fun hS9 => ?_)
    try simp only [Act.put, List.setIfInBounds_toArray, List.set_cons_zero, List.set_cons_succ]
    clear hK K9 hS
    have hS := hS9
    clear hS9
    refine wpAnyE_ready (rs := [4]) (by kernel_rfl) (by simp) ?_
    refine AllReadyE.cons rfl (fun K9 hK => ?_) AllReadyE.nil
    go_simp
    refine hK.out _ _ (hS) (fun hS9 => ?_)
    try simp only [Act.put, List.setIfInBounds_toArray, List.set_cons_zero, List.set_cons_succ]
    clear hK K9 hS
    have hS := hS9
    clear hS9
    have HG4 : Hid (GKp w w4 m x y z) := hS.1
    refine wpAnyE_ready (rs := [5]) (by kernel_rfl) (by simp) ?_
    refine AllReadyE.last rfl (fun K9 hK => ?_)
    go_simp
    refine hK.out _ _ ?_
    try simp only [Act.put, List.setIfInBounds_toArray, List.set_cons_zero, List.set_cons_succ]
    clear hK K9 hS
    refine wpAnyE_done (by kernel_rfl) ?_ _
    go_simp
    have HNN : Hid (fc m = 0 ∨ ∃ b, xa = some ⟨b, 0, none⟩ ∧ b < w4.heap.size ∧ ∀ j, j < fc m → w4.cell? ⟨b, j, none⟩ = some (.int .i64 (nm x y z j))) := by
      rcases hN with h | ⟨b, hb, hbl, hc⟩
      · exact .inl h
      · exact .inr ⟨b, hb, Nat.lt_of_lt_of_le hbl HN4.out.size, fun j hj => cell_below (hc j hj) HN4.out⟩
    clear hN HG3 hx0 HN4 hcn
    go_wp2_with fail
    go_loopw [4, 5] (fun v i wr => ∃ q : Nat, q ≤ fc m ∧ i = .int .i64 q ∧ Hid (GKp w wr m x y z) ∧ Hid (Below w4.heap.size w4 wr) ∧ v = .string (txt (fws m x y z q)) ∧ Hid (fok x y z q = true)) (fun _ i _ => fc m - (intOf i).toNat)
    case atStart => exact ⟨0, Nat.zero_le _, rfl, HG4, Below.refl _ _, by rw [txt_zero], rfl⟩
    case round =>
      clear HG4
      obtain ⟨q, hq, rfl, HF, HBW, rfl, HU⟩ := hrel
      by_cases hlt : q < fc m
      · have hlt' : (q : Int) < (fc m : Int) := by omega
        have hq0 : (0 : Int) ≤ (q : Int) := by omega
        rcases HNN.out with h | ⟨b, rfl, hbl, hcc⟩
        · omega
        have hc := cell_below (hcc q hlt) HBW.out
        clear hcc
        go_wp2_with fail
        refine (l1In_any _ _ _ _).mono ?_
        rintro e w5 ⟨rfl, hq3⟩
        have hq4 := hq3.symm
        clear hq3
        subst hq4
        cases hin : inB (nm x y z q) 0 999999999 with
        | false =>
          have HA : Hid (fcode m x y z = 3 ∧ ftext m x y z = ByteArray.empty) := ff_no (by simp only [ffit]; rw [show ((m : Int)).toNat = m by omega, fok_not hlt hin, Bool.and_false])
          obtain ⟨z0, f0⟩ := HF.out.2.2.1
          obtain ⟨z1, f1⟩ := HF.out.2.2.2.1
          have HBx : Hid (Below w.heap.size w wr) := HF.out.1
          go_wp2_with fail
          (try simp only [Exit.inBlock, Exit.then])
          refine bodyPost_ret (v := .agg #[.int .i64 3, .string ⟨#[]⟩]) (by simp [results, Tryd.results9, go_sem, z0, z1]) rfl ?_
          refine ⟨by rw [HA.out.1, HA.out.2]; rfl, ?_⟩
          repeat (first | with_reducible exact HBx.out | with_reducible refine Below.setCell ?_ (by first | omega | (simp <;> omega)) _)
        | true =>
          have hb := hin
          simp only [inB, Bool.and_eq_true, decide_eq_true_eq] at hb
          obtain ⟨n, hn⟩ : ∃ n : Nat, nm x y z q = n := ⟨(nm x y z q).toNat, by omega⟩
          have hn9 : n ≤ 999999999 := by omega
          have HWS : Hid (txt (fws m x y z (q + 1)) = txt (fws m x y z q) ++ blk ++ dg n) := by show txt (fws m x y z (q + 1)) = _; rw [txt_succ, hn]; rfl
          have HU2 : Hid (fok x y z (q + 1) = true) := by show (fok x y z q && inB (nm x y z q) 0 999999999) = true; rw [HU.out, hin]; rfl
          have hts := txt_size m (by omega) x y z q HU.out
          generalize txt (fws m x y z q) = T at *
          have ha1 : ∀ u : World, (Op.stringOp .add T ⟨#[32]⟩).run Tryd.prog u = .ok (.string (T ++ blk)) u := fun u => run_string_add_sum u _ blk (by have : blk.size = 1 := rfl; omega)
          have ha2 : ∀ u : World, (Op.stringOp .add (T ++ blk) (dg n)).run Tryd.prog u = .ok (.string (T ++ blk ++ dg n)) u := fun u => run_string_add_sum u _ _ (by have : blk.size = 1 := rfl; have := dg_size n (by omega); rw [ByteArray.size_append]; omega)
          rw [hn] at hc
          clear hn hin hb
          go_wp2_with fail
          refine (l7Digits_any n (by omega) _).mono ?_
          rintro e w6 ⟨rfl, hb6⟩
          have HF6 : Hid (GKp w w6 m x y z) := HF.out.below hb6
          have HB6 : Hid (Below w4.heap.size w4 w6) := HBW.out.trans (hb6.mono HBW.out.size)
          clear hb6 HF HBW
          go_wp2_with fail
          go_roundw
          case rel => exact ⟨q + 1, hlt, by go_num, HF6, HB6, by rw [HWS.out], HU2⟩
          case measure => simp [intOf]; omega
      · have hqm : q = fc m := by omega
        have hge : ¬ (q : Int) < (fc m : Int) := by omega
        have HA : Hid (fcode m x y z = 0 ∧ ftext m x y z = txt (fws m x y z q)) := by
          have h := ff_yes (k := (m : Int)) (x := x) (y := y) (z := z) (by simp only [ffit, HK.out, Bool.true_and]; rw [show ((m : Int)).toNat = m by omega, ← hqm]; exact HU.out)
          rw [show ((m : Int)).toNat = m by omega, ← hqm] at h
          exact h
        obtain ⟨z0, f0⟩ := HF.out.2.2.1
        obtain ⟨z1, f1⟩ := HF.out.2.2.2.1
        have HBx : Hid (Below w.heap.size w wr) := HF.out.1
        generalize txt (fws m x y z q) = T at *
        clear hqm HF
        go_wp2_with fail
        refine bodyPost_ret (v := .agg #[.int .i64 0, .string T]) (by simp [results, Tryd.results9, go_sem, z0, z1]) rfl ?_
        refine ⟨by rw [HA.out.1, HA.out.2], ?_⟩
        repeat (first | with_reducible exact HBx.out | with_reducible refine Below.setCell ?_ (by first | omega | (simp <;> omega)) _)
end Go.Proofs.YtiflheclfgloaaaDoor
