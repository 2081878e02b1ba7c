/- The program's FormatAct. -/
import Derived.Test.YtiflheclfgloaaaDoorYtb
import Derived.Test.YtiflheclfgloaaaDoorYsf
namespace Go.Proofs.YtiflheclfgloaaaDoor
open Go.RowKit Go.Deep
set_option linter.unusedVariables false
set_option maxRecDepth 20000

theorem nm_cells (W : World) (x y z : Int) (t : TypeId) : ∀ j, j < 3 → (W.alloc (.cells #[.int .i64 x, .int .i64 y, .int .i64 z] t)).cell? ⟨W.heap.size, j, none⟩ = some (.int .i64 (nm x y z j)) := fun j hj => by
  match j, hj with
  | 0, _ => simp [nm]
  | 1, _ => simp [nm]
  | 2, _ => simp [nm]
/-- What FormatAct keeps: the answer's box, the array of numbers. -/
def FKp (w wr : World) (x y z : Int) : Prop :=
  Below w.heap.size w wr ∧ w.heap.size + 5 ≤ wr.heap.size ∧ (wr.cell? ⟨w.heap.size + 1, 0, none⟩ = some (.int .i64 0) ∧ wr.frozen? ⟨w.heap.size + 1, 0, none⟩ = false) ∧ (wr.cell? ⟨w.heap.size + 1, 1, none⟩ = some (.string ByteArray.empty) ∧ wr.frozen? ⟨w.heap.size + 1, 1, none⟩ = false) ∧
    ∀ j, j < 3 → wr.cell? ⟨w.heap.size + 3, j, none⟩ = some (.int .i64 (nm x y z j))
theorem FKp.grow {w wr w1 : World} {x y z : Int} {b : Option Nat} (h : FKp w wr x y z) (hg : wr.grownBy w1 b) (hb : ∀ q, b = some q → w.heap.size + 4 ≤ q) : FKp w w1 x y z := by
  obtain ⟨h1, h2, ⟨h3, h4⟩, ⟨h5, h6⟩, h7⟩ := h
  have e1 : w1.heap[w.heap.size + 1]? = wr.heap[w.heap.size + 1]? := hg.block _ (by omega) fun e => by have := hb _ e.symm; omega
  have e3 : w1.heap[w.heap.size + 3]? = wr.heap[w.heap.size + 3]? := hg.block _ (by omega) fun e => by have := hb _ e.symm; omega
  refine ⟨h1.grown hg h1.size (fun q hq => by have := hb q hq; omega), Nat.le_trans h2 hg.size, ⟨?_, ?_⟩, ⟨?_, ?_⟩, fun j hj => ?_⟩
  · exact (World.cell?_of_block (w := wr) (a := ⟨w.heap.size + 1, 0, none⟩) e1).trans h3
  · exact (World.frozen?_of_block (w := wr) (a := ⟨w.heap.size + 1, 0, none⟩) e1).trans h4
  · exact (World.cell?_of_block (w := wr) (a := ⟨w.heap.size + 1, 1, none⟩) e1).trans h5
  · exact (World.frozen?_of_block (w := wr) (a := ⟨w.heap.size + 1, 1, none⟩) e1).trans h6
  · exact (World.cell?_of_block (w := wr) (a := ⟨w.heap.size + 3, j, none⟩) e3).trans (h7 j hj)
theorem FKp.below {w wr w1 : World} {x y z : Int} (h : FKp w wr x y z) (hb : Below wr.heap.size wr w1) : FKp w w1 x y z := by
  obtain ⟨h1, h2, ⟨h3, h4⟩, ⟨h5, h6⟩, h7⟩ := h
  obtain ⟨e1, e2⟩ := bcell hb
  refine ⟨h1.trans (hb.mono h1.size), Nat.le_trans h2 hb.size, ⟨?_, ?_⟩, ⟨?_, ?_⟩, fun j hj => ?_⟩
  · rw [e1 _ _ (by omega)]; exact h3
  · rw [e2 _ _ (by omega)]; exact h4
  · rw [e1 _ _ (by omega)]; exact h5
  · rw [e2 _ _ (by omega)]; exact h6
  · rw [e1 _ _ (by omega)]; exact h7 j hj
set_option maxHeartbeats 2000000 in
theorem implFormat_any (k x y z : Int) (w : World) (hT : TabAt w) (hP : PowAt w) : Calls Tryd.prog 11 #[.agg #[.int .i64 k, .int .i64 x, .int .i64 y, .int .i64 z]] w (FRes w k x y z) := by
  have HT : Hid (TabAt w) := hT
  have HP : Hid (PowAt w) := hP
  have HB2 : Hid (∀ o1 o2, Below w.heap.size w ((w.alloc o1).alloc o2)) := fun o1 o2 => (below_new _ _).alloc (by simp) _
  clear hT hP
  go_enter Tryd.func11, Tryd.ntmps11
  go_wp2_with fail
  refine (isActKind_int _ _).mono ?_
  rintro e w1 ⟨rfl, hq⟩
  have hq2 := hq.symm
  clear hq
  subst hq2
  cases hk : inB k 1 7 with
  | false =>
    have HA : Hid (fcode k x y z = 3 ∧ ftext k x y z = ByteArray.empty) := ff_no (by simp only [ffit, hk, Bool.false_and])
    go_wp2_with fail
    refine bodyPost_ret (v := .agg #[.int .i64 3, .string ⟨#[]⟩]) (by simp [results, Tryd.results11, go_sem]) rfl ?_
    refine ⟨by rw [HA.out.1, HA.out.2]; rfl, ?_⟩
    repeat (first | with_reducible exact HB2.out _ _ | with_reducible refine Below.setCell ?_ (by first | omega | (simp <;> omega)) _)
  | true =>
    have HK : Hid (inB k 1 7 = true) := hk
    obtain ⟨m, rfl⟩ : ∃ m : Nat, k = m := ⟨k.toNat, by simp only [inB, Bool.and_eq_true, decide_eq_true_eq] at hk; omega⟩
    have hm : 1 ≤ m ∧ m ≤ 7 := by simp only [inB, Bool.and_eq_true, decide_eq_true_eq] at hk; omega
    obtain ⟨hm1, hm7⟩ := hm
    have hfc := fc_le m hm7
    have hlt1 : (m : Int) < 8 := by omega
    have h0 : (0 : Int) ≤ (m : Int) := by omega
    have hfc3 : (fc m : Int) ≤ 3 := by omega
    have hfc0 : (0 : Int) ≤ (fc m : Int) := by omega
    have c0 : ∀ o1 o2 : Obj, ((w.alloc o1).alloc o2).cell? ⟨0, m * 2, none⟩ = some (.string (fw m)) := fun o1 o2 => ((HT.out.below (HB2.out o1 o2)).2 m (by omega)).1
    have c1 : ∀ o1 o2 : Obj, ((w.alloc o1).alloc o2).cell? ⟨0, m * 2 + 1, none⟩ = some (.int .i64 (fc m)) := fun o1 o2 => ((HT.out.below (HB2.out o1 o2)).2 m (by omega)).2
    clear hk
    have H0 : Hid (FKp w (((((w.alloc (.cells #[.int .i64 (m : Int), .int .i64 x, .int .i64 y, .int .i64 z] 23)).alloc (.cells #[.int .i64 0, .string ⟨#[]⟩] 31)).alloc (.cells #[.string (fw m), .int .i64 (fc m)] 56)).alloc (.cells #[.int .i64 x, .int .i64 y, .int .i64 z] 46)).alloc (.cells #[.string (fw m)] 9)) x y z) := by
      refine ⟨((((below_new _ _).alloc (by simp) _).alloc (by simp; omega) _).alloc (by simp; omega) _).alloc (by simp; omega) _, by simp, ⟨by simp [go_sem], by simp [go_sem]⟩, ⟨by simp [go_sem]; rfl, by simp [go_sem]⟩, fun j hj => ?_⟩
      match j, hj with
      | 0, _ => simp [go_sem, nm]
      | 1, _ => simp [go_sem, nm]
      | 2, _ => simp [go_sem, nm]
    have HO0 : Hid ((((((w.alloc (.cells #[.int .i64 (m : Int), .int .i64 x, .int .i64 y, .int .i64 z] 23)).alloc (.cells #[.int .i64 0, .string ⟨#[]⟩] 31)).alloc (.cells #[.string (fw m), .int .i64 (fc m)] 56)).alloc (.cells #[.int .i64 x, .int .i64 y, .int .i64 z] 46)).alloc (.cells #[.string (fw m)] 9)).ownsRow (w.heap.size + 4) 9 1 (.slice (some ⟨w.heap.size + 1 + 1 + 1 + 1, 0, none⟩) 1 1) (fws m x y z 0).length (svl (fws m x y z 0))) := by
      have h := World.ownsRow_lit (((((w.alloc (.cells #[.int .i64 (m : Int), .int .i64 x, .int .i64 y, .int .i64 z] 23)).alloc (.cells #[.int .i64 0, .string ⟨#[]⟩] 31)).alloc (.cells #[.string (fw m), .int .i64 (fc m)] 56)).alloc (.cells #[.int .i64 x, .int .i64 y, .int .i64 z] 46))) #[.string (fw m)] (e := 9) (size := 1) (base := w.heap.size + 4) 1 (by simp) (by unfold maxLen; omega) rfl
      have h2 := h
      simp only [World.size_alloc] at h2
      exact h2
    go_wp2_with fail
    go_loopw [5, 7, 31] (fun v _ i wr => ∃ q : Nat, q ≤ fc m ∧ i = .int .i64 q ∧ Hid (FKp w wr x y z) ∧ Hid (wr.ownsRow (w.heap.size + 4) 9 1 v (fws m x y z q).length (svl (fws m x y z q))) ∧ Hid (fok x y z q = true)) (fun _ _ i _ => fc m - (intOf i).toNat)
    case atStart => exact ⟨0, Nat.zero_le _, rfl, H0, HO0, rfl⟩
    case round =>
      clear H0 HO0 c0 c1
      obtain ⟨q, hq, rfl, HF, HO, HU⟩ := hrel
      by_cases hlt : q < fc m
      · have hlt' : (q : Int) < (fc m : Int) := by omega
        have hq0 : (0 : Int) ≤ (q : Int) := by omega
        have hc := HF.out.2.2.2.2 q (by omega)
        have hc2 : wr.cell? ⟨w.heap.size + 1 + 1 + 1, q, none⟩ = some (.int .i64 (nm x y z q)) := hc
        have hsz := HF.out.2.1
        go_wp2_with fail
        refine (within_any _ _ _ _).mono ?_
        rintro e w3 ⟨rfl, hq3⟩
        have hq4 := hq3.symm
        clear hq3
        subst hq4
        cases hin : inB (nm x y z q) 0 999999999 with
        | false =>
          have HA : Hid (fcode m x y z = 3 ∧ ftext m x y z = ByteArray.empty) := ff_no (by simp only [ffit]; rw [show ((m : Int)).toNat = m by omega, fok_not hlt hin, Bool.and_false])
          obtain ⟨z0, f0⟩ := HF.out.2.2.1
          obtain ⟨z1, f1⟩ := HF.out.2.2.2.1
          have HBx : Hid (Below w.heap.size w wr) := HF.out.1
          go_wp2_with fail
          (try simp only [Exit.inBlock, Exit.then])
          refine bodyPost_ret (v := .agg #[.int .i64 3, .string ⟨#[]⟩]) (by simp [results, Tryd.results11, go_sem, z0, z1]) rfl ?_
          refine ⟨by rw [HA.out.1, HA.out.2]; rfl, ?_⟩
          repeat (first | with_reducible exact HBx.out | with_reducible refine Below.setCell ?_ (by first | omega | (simp <;> omega)) _)
        | true =>
          have hb := hin
          simp only [inB, Bool.and_eq_true, decide_eq_true_eq] at hb
          obtain ⟨n, hn⟩ : ∃ n : Nat, nm x y z q = n := ⟨(nm x y z q).toNat, by omega⟩
          have hn9 : n ≤ 999999999 := by omega
          have HWS : Hid (fws m x y z (q + 1) = fws m x y z q ++ [dg n]) := by show fws m x y z (q + 1) = _; rw [fws_succ, hn]; rfl
          have HU2 : Hid (fok x y z (q + 1) = true) := by show (fok x y z q && inB (nm x y z q) 0 999999999) = true; rw [HU.out, hin]; rfl
          rw [hn]
          clear hn hc hc2 hin hb
          go_wp2_with fail
          refine (decimal_any n (by omega) _ (HP.out.below HF.out.1)).mono ?_
          rintro e w4 ⟨rfl, hb4⟩
          have HF4 : Hid (FKp w w4 x y z) := HF.out.below hb4
          have HO4 : Hid (w4.ownsRow (w.heap.size + 4) 9 1 u5 (fws m x y z q).length (svl (fws m x y z q))) := own_belowS HO.out hb4
          have hsz4 := HF4.out.2.1
          have hwl : (fws m x y z q).length ≤ 2000000 := by rw [fws_len]; omega
          clear hb4 HF HO hsz
          go_wp2_with (at_builtin; refine wpList_appS _ rfl (.tmp 39) (.tmp 42) rfl (w.heap.size + 4) _ (fws m x y z q) rfl (HO4.out.alloc _) w4.heap.size (dg n) rfl (cell_lit _ _ _) hwl (by simp; omega) ?_)
          intro v1 w5 ho5 hg5 _
          have HF5 : Hid (FKp w w5 x y z) := (HF4.out.below (below_new _ _)).grow hg5 (fun q hq => (HO4.out.lt q hq).1)
          have HO5 : Hid (w5.ownsRow (w.heap.size + 4) 9 1 v1 (fws m x y z (q + 1)).length (svl (fws m x y z (q + 1)))) := by rw [HWS.out, List.length_append]; exact ho5
          clear ho5 hg5
          go_wp2_with fail
          go_roundw
          case rel => exact ⟨q + 1, hlt, by go_num, HF5, HO5, HU2⟩
          case measure => simp [intOf]; omega
      · have hqm : q = fc m := by omega
        have hge : ¬ (q : Int) < (fc m : Int) := by omega
        have HA : Hid (fcode m x y z = 0 ∧ ftext m x y z = txt (fws m x y z q)) := by
          have h := ff_yes (k := (m : Int)) (x := x) (y := y) (z := z) (by simp only [ffit, HK.out, Bool.true_and]; rw [show ((m : Int)).toNat = m by omega, ← hqm]; exact HU.out)
          rw [show ((m : Int)).toNat = m by omega, ← hqm] at h
          exact h
        have hts := txt_size m (by omega) x y z q HU.out
        obtain ⟨va, vc, rfl, hvc, hat⟩ := strs_of_own HO.out
        rcases hat with h | ⟨pb, po, rfl, hpb, hcell⟩
        · rw [fws_len] at h; omega
        have HJ : Hid (Calls Tryd.prog 28 #[.slice (some ⟨pb, po, none⟩) (fws m x y z q).length vc, .string ⟨#[32]⟩] wr fun e w' => e = .returned (.string (txt (fws m x y z q))) ∧ Below wr.heap.size wr w') :=
          Tryd.strings_Join pb po vc (fws m x y z q) blk wr (fun j s hj => by
            have hjl : j < (fws m x y z q).length := (List.getElem?_eq_some_iff.1 hj).1
            rw [hcell j hjl]
            simp only [sg, List.getD, hj, Option.getD_some]) hpb (by rw [fws_len]; omega) hvc (by
              have e : (txt (fws m x y z q)).size = (Lib.join ((fws m x y z q).map (·.data.toList)) blk.data.toList).length := by
                show (Lib.join ((fws m x y z q).map (·.data.toList)) blk.data.toList).toArray.size = _
                rw [List.size_toArray]
              rw [← e]
              omega)
        generalize hL : fws m x y z q = L at *
        clear hcell hqm hL
        go_wp2_with fail
        refine HJ.out.mono ?_
        rintro e w4 ⟨rfl, hb4⟩
        have HF4 : Hid (FKp w w4 x y z) := HF.out.below hb4
        obtain ⟨z0, f0⟩ := HF4.out.2.2.1
        obtain ⟨z1, f1⟩ := HF4.out.2.2.2.1
        have HBx : Hid (Below w.heap.size w w4) := HF4.out.1
        clear hb4 HF
        go_wp2_with fail
        refine bodyPost_ret (v := .agg #[.int .i64 0, .string (txt L)]) (by simp [results, Tryd.results11, go_sem, z0, z1]) rfl ?_
        refine ⟨by rw [HA.out.1, HA.out.2], ?_⟩
        repeat (first | with_reducible exact HBx.out | with_reducible refine Below.setCell ?_ (by first | omega | (simp <;> omega)) _)
end Go.Proofs.YtiflheclfgloaaaDoor
