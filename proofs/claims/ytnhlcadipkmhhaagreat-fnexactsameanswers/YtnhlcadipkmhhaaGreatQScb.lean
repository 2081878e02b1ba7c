/- spec.ScanKeys. -/
import Derived.Test.YtnhlcadipkmhhaaGreatQSca
import Derived.Deep.DeepCutAuto
namespace Go.Proofs.YtnhlcadipkmhhaaGreat
open Go.RowKit Go.Deep
set_option linter.unusedVariables false
set_option maxRecDepth 20000

set_option maxHeartbeats 8000000 in
theorem l6Scan_any (E : En) (B : Nat) (a : Option Addr) (cap : Nat) (a' : Option Addr) (cap' : Nat) (x o lo hi : Int) (w : World) (hq : E.q ≤ 32) (hr : ∀ i, i < E.q → (E.R i).n ≤ 12) (h : EBox w B a cap a' cap' E) :
    Calls Tryz.prog 34 #[.pointer (some ⟨B, 0, none⟩), .agg #[.int .i64 x, .int .i64 o], .int .i64 lo, .int .i64 hi] w fun e w' => ∃ v, e = .returned v ∧ Below w.heap.size w w' ∧ w'.ownsRow w.heap.size 102 2 v (scL E.q E.R x o lo hi E.q).length (cb (scL E.q E.R x o lo hi E.q)) := by
  have HX : Hid (EBox w B a cap a' cap' E) := h
  have HR : Hid (∀ i, i < E.q → (E.R i).n ≤ 12) := hr
  clear h hr
  have HI : Hid (∀ o1 : Obj, o1 = .cells #[.int .i64 x, .int .i64 o] 59 → Below w.heap.size w ((w.alloc o1).alloc (.cells #[] 102)) ∧ Box2 ((w.alloc o1).alloc (.cells #[] 102)) w.heap.size (.int .i64 x) (.int .i64 o) ∧ ((w.alloc o1).alloc (.cells #[] 102)).heap.size = w.heap.size + 2 ∧ ((w.alloc o1).alloc (.cells #[] 102)).ownsRow (w.heap.size + 1) 102 2 (.slice (some ⟨w.heap.size + 1, 0, none⟩) 0 0) 0 []) := by
    rintro o1 rfl
    refine ⟨((Below.refl _ _).alloc (Nat.le_refl _) _).alloc (by simp) _, (Box2.new w _ _ _).alloc _, by simp, ?_⟩
    have h := World.ownsRow_made (base := w.heap.size + 1) (e := 102) (size := 2) (w.alloc (.cells #[.int .i64 x, .int .i64 o] 59)) #[] 0 (by simp) (by unfold maxLen; omega) rfl
    rw [World.size_alloc] at h
    exact h
  go_enter Tryz.func34, Tryz.ntmps34
  go_wp2_with fail
  go_loopw [9, 10, 11, 12, 13] (fun v i _ _ _ wr => ∃ k : Nat, k ≤ E.q ∧ i = .int .i64 k ∧ Hid (Below w.heap.size w wr ∧ Box2 wr w.heap.size (.int .i64 x) (.int .i64 o) ∧ w.heap.size + 2 ≤ wr.heap.size) ∧ Hid (wr.ownsRow (w.heap.size + 1) 102 2 v (scL E.q E.R x o lo hi k).length (cb (scL E.q E.R x o lo hi k)))) (fun _ i _ _ _ _ => E.q - (intOf i).toNat)
  case atStart =>
    obtain ⟨h1, h2, h3, h4⟩ := HI.out _ rfl
    exact ⟨0, Nat.zero_le _, rfl, ⟨h1, h2, by rw [h3]; omega⟩, h4⟩
  case round =>
    clear HI
    obtain ⟨k, hk, rfl, HB, HO⟩ := hrel
    have hsz := HB.out.2.2
    have HX1 : Hid (EBox wr B a cap a' cap' E) := HX.out.below HB.out.1
    obtain ⟨⟨b0, b1, b2, b3⟩, -, hRA⟩ := HX1.out
    obtain ⟨v0, v1⟩ := HB.out.2.1
    by_cases hlt : k < E.q
    · have hlt' : (k : Int) < (E.q : Int) := by omega
      have hk0 : (0 : Int) ≤ (k : Int) := by omega
      rcases hRA with h | ⟨rb, ro, rfl, hrl, hrc⟩
      · omega
      obtain ⟨ri, rcp, ⟨z0, z1⟩, -, -⟩ := hrc k hlt
      clear hrc b0 b1 b2 z1
      go_wp2_with fail
      refine (l6Read_any E B a cap _ cap' x o (E.R k).key _ hq HR.out HX1.out).mono ?_
      rintro e w1 ⟨rfl, hb1⟩
      have HB1 : Hid (Below w.heap.size w w1 ∧ Box2 w1 w.heap.size (.int .i64 x) (.int .i64 o) ∧ w.heap.size + 2 ≤ w1.heap.size) := ⟨below_then HB.out.1 hb1, HB.out.2.1.below hb1, Nat.le_trans hsz hb1.size⟩
      have HO1 := own_belowI HO.out hb1
      have hsz1 : w.heap.size + 2 ≤ w1.heap.size := HB1.out.2.2
      clear hb1 HB HO HX1 b3 v0 v1 z0 hrl
      obtain hs | hs := bool_or2 (scB E.q E.R x o lo hi k)
      · have HE : Hid (scL E.q E.R x o lo hi (k + 1) = scL E.q E.R x o lo hi k ++ [((E.R k).key, rdV E.q E.R x o (E.R k).key)]) := if_pos hs
        have hs2 := hs
        unfold scB at hs2
        rw [Bool.and_eq_true] at hs2
        obtain ⟨g1, g2⟩ := hs2
        have HLK : Hid ((scL E.q E.R x o lo hi k).length ≤ 100000) := by have := scL_len E.q E.R x o lo hi k; show _ ≤ _; omega
        have HOA : Hid (∀ o1 : Obj, (w1.alloc o1).ownsRow (w.heap.size + 1) 102 2 _ (scL E.q E.R x o lo hi k).length (cb (scL E.q E.R x o lo hi k))) := fun o1 => own_belowI HO1 (below_new _ _)
        rw [g1]
        clear hs g1 HO1
        generalize rdV E.q E.R x o (E.R k).key = vv at *
        generalize scL E.q E.R x o lo hi k = zs at *
        go_wp2_with (first | (go_at_call 60; refine (l1In_any _ _ _ _).mono ?_; rintro e w' ⟨rfl, hw'⟩; rw [hw']; clear hw') | (at_builtin; refine wpList_appC _ rfl (.tmp 46) (.tmp 50) rfl (w.heap.size + 1) _ zs rfl (HOA.out _) w1.heap.size 0 1 ((E.R k).key, vv) rfl (by simp [go_sem]) (by simp [go_sem]) (by simp; omega) HLK.out ?_))
        intro v2 w3 ho3 hg3
        have hwr : Writes (w.heap.size + 1) (w1.alloc (.cells #[.int .i64 (E.R k).key, .int .i64 vv] 102)).heap.size (w1.alloc (.cells #[.int .i64 (E.R k).key, .int .i64 vv] 102)) w3 := ⟨hg3.os, hg3.tape, hg3.output, hg3.size, fun j hj hd => hg3.block j hj fun e => by have := ((HOA.out (.cells #[.int .i64 (E.R k).key, .int .i64 vv] 102)).lt j e.symm).1; omega⟩
        have HB3 : Hid (Below w.heap.size w w3 ∧ Box2 w3 w.heap.size (.int .i64 x) (.int .i64 o) ∧ w.heap.size + 2 ≤ w3.heap.size) := ⟨Writes.below (below_then HB1.out.1 (below_new _ _)) hwr (by omega), (HB1.out.2.1.alloc _).writes hwr (by omega), by have := hwr.size; simp at this; omega⟩
        have HO3 : Hid (w3.ownsRow (w.heap.size + 1) 102 2 v2 (scL E.q E.R x o lo hi (k + 1)).length (cb (scL E.q E.R x o lo hi (k + 1)))) := by
          show w3.ownsRow _ _ _ _ _ _
          rw [HE.out]
          first | exact ho3 | simpa using ho3
        clear ho3 hg3 hwr HOA HB1
        go_wp2_with fail
        go_roundw
        case rel => exact ⟨k + 1, hlt, by go_num, HB3, HO3⟩
        case measure => simp [intOf]; omega
      · have HE : Hid (scL E.q E.R x o lo hi (k + 1) = scL E.q E.R x o lo hi k) := if_neg (by simp [hs])
        rw [← HE.out] at HO1
        have HO3 : Hid (w1.ownsRow _ _ _ _ _ _) := HO1
        unfold scB at hs
        clear HO1
        obtain g1 | g1 := bool_or2 (rdB E.q E.R x o (E.R k).key)
        · rw [g1, Bool.true_and] at hs
          rw [g1]
          clear g1
          generalize rdV E.q E.R x o (E.R k).key = vv at *
          go_wp2_with (first | (go_at_call 60; refine (l1In_any _ _ _ _).mono ?_; rintro e w' ⟨rfl, hw'⟩; rw [hw']; clear hw'))
          go_roundw
          case rel => exact ⟨k + 1, hlt, by go_num, HB1, HO3⟩
          case measure => simp [intOf]; omega
        · rw [g1]
          clear g1 hs
          generalize rdV E.q E.R x o (E.R k).key = vv at *
          go_wp2_with fail
          go_roundw
          case rel => exact ⟨k + 1, hlt, by go_num, HB1, HO3⟩
          case measure => simp [intOf]; omega
    · have hkn : k = E.q := by omega
      have hnl : ¬ ((k : Int) < (E.q : Int)) := by omega
      obtain ⟨va, vc, rfl, -⟩ := ownC_of_row HO.out
      have HF : Hid (Below w.heap.size w wr ∧ wr.ownsRow w.heap.size 102 2 (.slice va (scL E.q E.R x o lo hi k).length vc) (scL E.q E.R x o lo hi E.q).length (cb (scL E.q E.R x o lo hi E.q))) := by
        have hO := HO.out
        rw [hkn] at hO ⊢
        refine ⟨HB.out.1, ?_⟩
        obtain ⟨k1, k2 | ⟨g, gc, cur, e, m1, m2, m3⟩⟩ := hO
        · exact ⟨k1, .inl k2⟩
        · exact ⟨k1, .inr ⟨g, gc, cur, e, by omega, m2, m3⟩⟩
      clear HO HB hkn hRA
      generalize (scL E.q E.R x o lo hi k).length = len at *
      go_wp2_with fail
      go_ret
      exact ⟨_, rfl, HF.out⟩
/-- What ScanKeys answers. -/
def skL (E : En) (id lo hi : Int) : List (Int × Int) := scL E.q E.R (E.T (askP E id).toNat).am (E.T (askP E id).toNat).id lo hi E.q
theorem skL_at {E : En} {id lo hi : Int} {j : Nat} (hj : askP E id = (j : Int)) : skL E id lo hi = scL E.q E.R (E.T j).am (E.T j).id lo hi E.q := by
  unfold skL; rw [hj, Int.toNat_natCast]
end Go.Proofs.YtnhlcadipkmhhaaGreat
