/- CommittedOf, both sides. -/
import Derived.Test.YtnmmnhfgkcdajaaHfc
import Derived.Test.YtnmmnhfgkcdajaaAil
namespace Go.Proofs.Ytnmmnhfgkcdajaa
open Go.RowKit Go.Deep
set_option linter.unusedVariables false
set_option maxRecDepth 20000

/-- The committed ones, by the first k hops. -/
def cmL (R : Nat → Hp) : Nat → List Int
  | 0 => []
  | k + 1 => if (R k).k = 4 then cmL R k ++ [(R k).t] else cmL R k
theorem cmL_len (R : Nat → Hp) : ∀ k, (cmL R k).length ≤ k
  | 0 => Nat.le_refl _
  | k + 1 => by
    have := cmL_len R k
    simp only [cmL]
    split
    · simp; omega
    · omega
theorem hs_few {R : Nat → Hp} {n : Nat} (h : hsC R n = 0) : n ≤ 400 := by
  unfold hsC at h
  split at h
  · omega
  · omega
/-- A list of numbers of the call's own. -/
def LRes (zs : List Int) (w : World) (e : Ending) (w' : World) : Prop := ∃ v, e = .returned v ∧ Below w.heap.size w w' ∧ w'.ownsRow w.heap.size 2 1 v zs.length (il zs)
theorem own_lit (w : World) : (w.alloc (.cells #[] 2)).ownsRow w.heap.size 2 1 (.slice (some ⟨w.heap.size, 0, none⟩) 0 0) 0 [] :=
  World.ownsRow_made w #[] (e := 2) (size := 1) (base := w.heap.size) 0 (Nat.le_refl _) (by unfold maxLen; omega) rfl
set_option maxHeartbeats 4000000 in
theorem l10Committed_any (n : Nat) (R : Nat → Hp) (a : Option Addr) (cap : Nat) (w : World) (hn : n ≤ 400) (h : HopsAt w a n R) :
    Calls Try.prog 54 #[.slice a n cap] w (LRes (cmL R n) w) := by
  have HX : Hid (HopsAt w a n R) := h
  have H0 : Hid ((w.alloc (.cells #[] 2)).ownsRow w.heap.size 2 1 (.slice (some ⟨w.heap.size, 0, none⟩) 0 0) (cmL R 0).length (il (cmL R 0))) := own_lit w
  clear h
  go_enter Try.func54, Try.ntmps54
  go_wp2_with fail
  go_loopw [3, 4] (fun v i wr => ∃ k : Nat, k ≤ n ∧ i = .int .i64 k ∧ Hid (Below w.heap.size w wr) ∧ Hid (wr.ownsRow w.heap.size 2 1 v (cmL R k).length (il (cmL R k)))) (fun _ i _ => n - (intOf i).toNat)
  case atStart => exact ⟨0, Nat.zero_le _, rfl, below_new _ _, H0⟩
  case round =>
    clear H0
    obtain ⟨k, hk, rfl, HB, HO⟩ := hrel
    by_cases hlt : k < n
    · have hlt' : (k : Int) < (n : Int) := by omega
      have hk0 : (0 : Int) ≤ (k : Int) := by omega
      rcases HX.out.below HB.out with h | ⟨bb, off, rfl, hl, hcc⟩
      · omega
      obtain ⟨x0, x1, x2, x3⟩ := hcc k hlt
      have hszr := HB.out.size
      have HLK : Hid ((cmL R k).length ≤ 100000) := by have := cmL_len R k; show _ ≤ _; omega
      clear hcc
      by_cases hst : (R k).k = 4
      · have HE1 : Hid (cmL R (k + 1) = cmL R k ++ [(R k).t]) := if_pos hst
        have hst2 : ((R k).k == 4) = true := by simp [hst]
        have HOA : Hid (∀ o1 : Obj, (wr.alloc o1).ownsRow w.heap.size 2 1 _ (cmL R k).length (il (cmL R k))) := fun o1 => own_belowI HO.out (below_new _ _)
        clear hst
        go_wp2_with (at_builtin; refine wpList_appI _ rfl (.tmp 18) (.tmp 24) rfl w.heap.size _ (cmL R k) rfl (HOA.out _) wr.heap.size 0 1 (R k).t rfl (by simp [go_sem]) (by simp; omega) HLK.out ?_)
        intro v2 w3 ho3 hg3
        have HB3 : Hid (Below w.heap.size w w3) := by
          refine (below_then HB.out (below_new _ _)).grown hg3 (by simp; omega) fun q hq => ?_
          exact (HO.out.lt q hq).1
        have HO3 : Hid (w3.ownsRow w.heap.size 2 1 v2 (cmL R (k + 1)).length (il (cmL R (k + 1)))) := by
          show w3.ownsRow _ _ _ _ _ _
          rw [HE1.out]
          first | exact ho3 | simpa using ho3
        clear ho3 hg3 x0 x1 x2 x3 HOA
        go_wp2_with fail
        go_roundw
        case rel => exact ⟨k + 1, hlt, by go_num, HB3, HO3⟩
        case measure => simp [intOf]; omega
      · have e1 : cmL R (k + 1) = cmL R k := if_neg hst
        have hst2 : ((R k).k == 4) = false := by simp [hst]
        clear hst
        go_wp2_with fail
        go_roundw
        case rel => exact ⟨k + 1, hlt, by go_num, HB, by rw [e1]; exact HO⟩
        case measure => simp [intOf]; omega
    · have hkn : k = n := by omega
      have hnl : ¬ ((k : Int) < (n : Int)) := by omega
      obtain ⟨va, vc, rfl⟩ := row1_slice HO.out
      have HF : Hid (LRes (cmL R n) w (.returned (.slice va (cmL R k).length vc)) wr) := ⟨_, rfl, HB.out, by have h := HO.out; rw [hkn] at h ⊢; exact h⟩
      clear HO HB
      generalize (cmL R k).length = len at *
      go_wp2_with fail
      go_ret
      exact HF.out
set_option maxHeartbeats 8000000 in
theorem implCm_any (n : Nat) (R : Nat → Hp) (a : Option Addr) (cap : Nat) (w : World) (hn : n ≤ 1048576) (hw : HpW n R) (h : HopsAt w a n R) :
    Calls Try.prog 32 #[.slice a n cap] w (IRes (hsC R n) (cmL R n) w) := by
  have HX : Hid (HopsAt w a n R) := h
  have HW : Hid (HpW n R) := hw
  clear h hw
  go_enter Try.func32, Try.ntmps32
  go_wp2_with fail
  refine (implHf_any n R a cap _ hn HW.out (HX.out.below (below_new _ _))).mono ?_
  rintro e w1 ⟨rfl, hb1⟩
  have B2 := (Box2.new w (.int .i64 0) (.slice none 0 0) 26).below hb1
  have rf : ∀ i, w1.frozen? ⟨w.heap.size, i, none⟩ = false := fun i => ((bcell hb1).2 _ _ (by simp)).trans (by simp [go_sem])
  have HBW : Hid (Below w.heap.size w w1) := below_then (below_new _ _) hb1
  have hs1 : w.heap.size + 1 ≤ w1.heap.size := by have := hb1.size; rw [World.size_alloc] at this; exact this
  clear hb1
  obtain ⟨r0, r1⟩ := B2
  by_cases hc : hsC R n = 0
  case neg =>
    have hc2 : (hsC R n != 0) = true := by simp [hc]
    have HF : Hid (∀ w7, Below w.heap.size w w7 → IRes (hsC R n) (cmL R n) w (.returned (.agg #[.int .i64 (hsC R n), .slice none 0 0])) w7) := fun w7 hb => ires_bad hb hc
    clear hc
    generalize hsC R n = uu at *
    go_wp2_with fail
    refine bodyPost_ret (v := .agg #[.int .i64 uu, .slice none 0 0]) (by simp [results, Try.results32, go_sem, *]) rfl ?_
    refine HF.out _ ?_
    repeat (first | with_reducible exact HBW.out | with_reducible refine Below.setCell ?_ (by first | omega | (simp <;> omega)) _)
  have hn4 := hs_few hc
  have HC0 : Hid (hsC R n = 0) := hc
  have HRB : Hid (Box2 w1 w.heap.size (.int .i64 0) (.slice none 0 0) ∧ ∀ i, w1.frozen? ⟨w.heap.size, i, none⟩ = false) := ⟨⟨r0, r1⟩, rf⟩
  rw [hc]
  clear hc
  go_wp2_with fail
  clear r0 r1 rf
  go_loopw [4, 6, 15] (fun v _ i wr => ∃ k : Nat, k ≤ n ∧ i = .int .i64 k ∧ Hid (Below w1.heap.size w1 wr) ∧ Hid (wr.ownsRow w1.heap.size 2 1 v (cmL R k).length (il (cmL R k)))) (fun _ _ i _ => n - (intOf i).toNat)
  case atStart => exact ⟨0, Nat.zero_le _, rfl, Below.refl _ _, World.ownsRow_nil _ _ _ _⟩
  case round =>
    obtain ⟨k, hk, rfl, HB, HO⟩ := hrel
    by_cases hlt : k < n
    · have hlt' : (k : Int) < (n : Int) := by omega
      have hk0 : (0 : Int) ≤ (k : Int) := by omega
      rcases HX.out.below (below_then HBW.out HB.out) with h | ⟨bb, off, rfl, hl, hcc⟩
      · omega
      obtain ⟨x0, x1, x2, x3⟩ := hcc k hlt
      have hszr := HB.out.size
      have HLK : Hid ((cmL R k).length ≤ 100000) := by have := cmL_len R k; show _ ≤ _; omega
      clear hcc
      by_cases hst : (R k).k = 4
      · have HE1 : Hid (cmL R (k + 1) = cmL R k ++ [(R k).t]) := if_pos hst
        have hst2 : ((R k).k == 4) = true := by simp [hst]
        have HOA : Hid (∀ o1 o2 : Obj, ((wr.alloc o1).alloc o2).ownsRow w1.heap.size 2 1 _ (cmL R k).length (il (cmL R k))) := fun o1 o2 => own_belowI (own_belowI HO.out (below_new _ _)) (below_new _ _)
        clear hst
        go_wp2_with (at_builtin; refine wpList_appI _ rfl (.tmp 22) (.tmp 25) rfl w1.heap.size _ (cmL R k) rfl (HOA.out _ _) (wr.heap.size + 1) 0 1 (R k).t rfl (by simp [go_sem]) (by simp; omega) HLK.out ?_)
        intro v2 w3 ho3 hg3
        have HB3 : Hid (Below w1.heap.size w1 w3) := by
          refine (below_then HB.out (((Below.refl _ _).alloc (Nat.le_refl _) _).alloc (by simp) _)).grown hg3 (by simp; omega) fun q hq => ?_
          exact (HO.out.lt q hq).1
        have HO3 : Hid (w3.ownsRow w1.heap.size 2 1 v2 (cmL R (k + 1)).length (il (cmL R (k + 1)))) := by
          show w3.ownsRow _ _ _ _ _ _
          rw [HE1.out]
          first | exact ho3 | simpa using ho3
        clear ho3 hg3 x0 x1 x2 x3 HOA
        go_wp2_with fail
        go_roundw
        case rel => exact ⟨k + 1, hlt, by go_num, HB3, HO3⟩
        case measure => simp [intOf]; omega
      · have e1 : cmL R (k + 1) = cmL R k := if_neg hst
        have hst2 : ((R k).k == 4) = false := by simp [hst]
        have HOA : Hid (∀ o1 : Obj, (wr.alloc o1).ownsRow w1.heap.size 2 1 _ (cmL R (k + 1)).length (il (cmL R (k + 1)))) := fun o1 => by rw [e1]; exact own_belowI HO.out (below_new _ _)
        have HBA : Hid (∀ o1 : Obj, Below w1.heap.size w1 (wr.alloc o1)) := fun o1 => below_then HB.out (below_new _ _)
        clear hst e1
        go_wp2_with fail
        go_roundw
        case rel => exact ⟨k + 1, hlt, by go_num, HBA.out _, HOA.out _⟩
        case measure => simp [intOf]; omega
    · have hkn : k = n := by omega
      have hnl : ¬ ((k : Int) < (n : Int)) := by omega
      obtain ⟨va, vc, rfl⟩ := row1_slice HO.out
      have HF : Hid (∀ w7, Writes w.heap.size (w.heap.size + 1) wr w7 → w7.heap.size = wr.heap.size → IRes (hsC R n) (cmL R n) w (.returned (.agg #[.int .i64 0, .slice va (cmL R k).length vc])) w7) := fun w7 hw hs7 => by
        have hO := HO.out
        rw [hkn] at hO ⊢
        exact ires_ok HC0.out (below_then HBW.out HB.out) (Nat.le_refl _) (by omega) hs1 hO hw hs7
      obtain ⟨⟨r0, r1⟩, rf⟩ := HRB.out
      replace rf : ∀ i, wr.frozen? ⟨w.heap.size, i, none⟩ = false := fun i => ((bcell HB.out).2 _ _ (by omega)).trans (rf i)
      replace r0 := cell_below r0 HB.out
      replace r1 := cell_below r1 HB.out
      clear HO HB hkn HRB
      generalize (cmL R k).length = len at *
      go_wp2_with fail
      refine bodyPost_ret (v := .agg #[.int .i64 0, .slice va len vc]) (by simp [results, Try.results32, go_sem, *]) rfl ?_
      refine HF.out _ ?_ (by simp [World.setCell])
      repeat (first | with_reducible exact Writes.refl _ _ _ | with_reducible refine Writes.setCell ?_ (by first | omega | (simp <;> omega)) (by first | omega | (simp <;> omega)) _)
end Go.Proofs.Ytnmmnhfgkcdajaa
