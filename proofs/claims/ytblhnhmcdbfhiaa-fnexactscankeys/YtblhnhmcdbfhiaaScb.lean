/- spec.ScanKeys. -/
import Derived.Test.YtblhnhmcdbfhiaaSca
import Derived.Deep.DeepCutAuto
namespace Go.Proofs.Ytblhnhmcdbfhiaa
open Go.RowKit Go.Deep
set_option linter.unusedVariables false
set_option maxRecDepth 20000

set_option maxHeartbeats 8000000 in
theorem l6Scan_any (E : En) (B : Nat) (a : Option Addr) (cap : Nat) (a' : Option Addr) (cap' : Nat) (x o lo hi : Int) (w : World) (hq : E.q ≤ 32) (hr : ∀ i, i < E.q → (E.R i).n ≤ 12) (h : EBox w B a cap a' cap' E) :
    Calls Try.prog 99 #[.pointer (some ⟨B, 0, none⟩), .agg #[.int .i64 x, .int .i64 o], .int .i64 lo, .int .i64 hi] w fun e w' => ∃ v, e = .returned v ∧ Below w.heap.size w w' ∧ w'.ownsRow w.heap.size 111 2 v (scL E.q E.R x o lo hi E.q).length (cb (scL E.q E.R x o lo hi E.q)) := by
  have HX : Hid (EBox w B a cap a' cap' E) := h
  have HR : Hid (∀ i, i < E.q → (E.R i).n ≤ 12) := hr
  clear h hr
  have HI : Hid (∀ o1 : Obj, o1 = .cells #[.int .i64 x, .int .i64 o] 31 → Below w.heap.size w ((w.alloc o1).alloc (.cells #[] 111)) ∧ Box2 ((w.alloc o1).alloc (.cells #[] 111)) w.heap.size (.int .i64 x) (.int .i64 o) ∧ ((w.alloc o1).alloc (.cells #[] 111)).heap.size = w.heap.size + 2 ∧ ((w.alloc o1).alloc (.cells #[] 111)).ownsRow (w.heap.size + 1) 111 2 (.slice (some ⟨w.heap.size + 1, 0, none⟩) 0 0) 0 []) := by
    rintro o1 rfl
    refine ⟨((Below.refl _ _).alloc (Nat.le_refl _) _).alloc (by simp) _, (Box2.new w _ _ _).alloc _, by simp, ?_⟩
    have h := World.ownsRow_made (base := w.heap.size + 1) (e := 111) (size := 2) (w.alloc (.cells #[.int .i64 x, .int .i64 o] 31)) #[] 0 (by simp) (by unfold maxLen; omega) rfl
    rw [World.size_alloc] at h
    exact h
  go_enter Try.func99, Try.ntmps99
  go_wp2_with fail
  go_loopw [9, 10, 11, 12, 13] (fun v i _ _ _ wr => ∃ k : Nat, k ≤ E.q ∧ i = .int .i64 k ∧ Hid (Below w.heap.size w wr ∧ Box2 wr w.heap.size (.int .i64 x) (.int .i64 o) ∧ w.heap.size + 2 ≤ wr.heap.size) ∧ Hid (wr.ownsRow (w.heap.size + 1) 111 2 v (scL E.q E.R x o lo hi k).length (cb (scL E.q E.R x o lo hi k)))) (fun _ i _ _ _ _ => E.q - (intOf i).toNat)
  case atStart =>
    obtain ⟨h1, h2, h3, h4⟩ := HI.out _ rfl
    exact ⟨0, Nat.zero_le _, rfl, ⟨h1, h2, by rw [h3]; omega⟩, h4⟩
  case round =>
    clear HI
    obtain ⟨k, hk, rfl, HB, HO⟩ := hrel
    have hsz := HB.out.2.2
    have HX1 : Hid (EBox wr B a cap a' cap' E) := HX.out.below HB.out.1
    obtain ⟨⟨b0, b1, b2, b3⟩, -, hRA⟩ := HX1.out
    obtain ⟨v0, v1⟩ := HB.out.2.1
    by_cases hlt : k < E.q
    · have hlt' : (k : Int) < (E.q : Int) := by omega
      have hk0 : (0 : Int) ≤ (k : Int) := by omega
      rcases hRA with h | ⟨rb, ro, rfl, hrl, hrc⟩
      · omega
      obtain ⟨ri, rcp, ⟨z0, z1⟩, -, -⟩ := hrc k hlt
      clear hrc b0 b1 b2 z1
      go_wp2_with fail
      refine (l6Read_any E B a cap _ cap' x o (E.R k).key _ hq HR.out HX1.out).mono ?_
      rintro e w1 ⟨rfl, hb1⟩
      have HB1 : Hid (Below w.heap.size w w1 ∧ Box2 w1 w.heap.size (.int .i64 x) (.int .i64 o) ∧ w.heap.size + 2 ≤ w1.heap.size) := ⟨below_then HB.out.1 hb1, HB.out.2.1.below hb1, Nat.le_trans hsz hb1.size⟩
      have HO1 := own_belowI HO.out hb1
      have hsz1 : w.heap.size + 2 ≤ w1.heap.size := HB1.out.2.2
      clear hb1 HB HO HX1 b3 v0 v1 z0 hrl
      obtain hs | hs := bool_or2 (scB E.q E.R x o lo hi k)
      · have HE : Hid (scL E.q E.R x o lo hi (k + 1) = scL E.q E.R x o lo hi k ++ [((E.R k).key, rdV E.q E.R x o (E.R k).key)]) := if_pos hs
        have hs2 := hs
        unfold scB at hs2
        rw [Bool.and_eq_true] at hs2
        obtain ⟨g1, g2⟩ := hs2
        have HLK : Hid ((scL E.q E.R x o lo hi k).length ≤ 100000) := by have := scL_len E.q E.R x o lo hi k; show _ ≤ _; omega
        have HOA : Hid (∀ o1 : Obj, (w1.alloc o1).ownsRow (w.heap.size + 1) 111 2 _ (scL E.q E.R x o lo hi k).length (cb (scL E.q E.R x o lo hi k))) := fun o1 => own_belowI HO1 (below_new _ _)
        rw [g1]
        clear hs g1 HO1
        generalize rdV E.q E.R x o (E.R k).key = vv at *
        generalize scL E.q E.R x o lo hi k = zs at *
        go_wp2_with (first | (go_at_call 106; refine (l1In_any _ _ _ _).mono ?_; rintro e w' ⟨rfl, hw'⟩; rw [hw']; clear hw') | (at_builtin; refine wpList_appC _ rfl (.tmp 46) (.tmp 50) rfl (w.heap.size + 1) _ zs rfl (HOA.out _) w1.heap.size 0 1 ((E.R k).key, vv) rfl (by simp [go_sem]) (by simp [go_sem]) (by simp; omega) HLK.out ?_))
        intro v2 w3 ho3 hg3
        have hwr : Writes (w.heap.size + 1) (w1.alloc (.cells #[.int .i64 (E.R k).key, .int .i64 vv] 111)).heap.size (w1.alloc (.cells #[.int .i64 (E.R k).key, .int .i64 vv] 111)) w3 := ⟨hg3.os, hg3.tape, hg3.output, hg3.size, fun j hj hd => hg3.block j hj fun e => by have := ((HOA.out (.cells #[.int .i64 (E.R k).key, .int .i64 vv] 111)).lt j e.symm).1; omega⟩
        have HB3 : Hid (Below w.heap.size w w3 ∧ Box2 w3 w.heap.size (.int .i64 x) (.int .i64 o) ∧ w.heap.size + 2 ≤ w3.heap.size) := ⟨Writes.below (below_then HB1.out.1 (below_new _ _)) hwr (by omega), (HB1.out.2.1.alloc _).writes hwr (by omega), by have := hwr.size; simp at this; omega⟩
        have HO3 : Hid (w3.ownsRow (w.heap.size + 1) 111 2 v2 (scL E.q E.R x o lo hi (k + 1)).length (cb (scL E.q E.R x o lo hi (k + 1)))) := by
          show w3.ownsRow _ _ _ _ _ _
          rw [HE.out]
          first | exact ho3 | simpa using ho3
        clear ho3 hg3 hwr HOA HB1
        go_wp2_with fail
        go_roundw
        case rel => exact ⟨k + 1, hlt, by go_num, HB3, HO3⟩
        case measure => simp [intOf]; omega
      · have HE : Hid (scL E.q E.R x o lo hi (k + 1) = scL E.q E.R x o lo hi k) := if_neg (by simp [hs])
        rw [← HE.out] at HO1
        have HO3 : Hid (w1.ownsRow _ _ _ _ _ _) := HO1
        unfold scB at hs
        clear HO1
        obtain g1 | g1 := bool_or2 (rdB E.q E.R x o (E.R k).key)
        · rw [g1, Bool.true_and] at hs
          rw [g1]
          clear g1
          generalize rdV E.q E.R x o (E.R k).key = vv at *
          go_wp2_with (first | (go_at_call 106; refine (l1In_any _ _ _ _).mono ?_; rintro e w' ⟨rfl, hw'⟩; rw [hw']; clear hw'))
          go_roundw
          case rel => exact ⟨k + 1, hlt, by go_num, HB1, HO3⟩
          case measure => simp [intOf]; omega
        · rw [g1]
          clear g1 hs
          generalize rdV E.q E.R x o (E.R k).key = vv at *
          go_wp2_with fail
          go_roundw
          case rel => exact ⟨k + 1, hlt, by go_num, HB1, HO3⟩
          case measure => simp [intOf]; omega
    · have hkn : k = E.q := by omega
      have hnl : ¬ ((k : Int) < (E.q : Int)) := by omega
      obtain ⟨va, vc, rfl, -⟩ := ownC_of_row HO.out
      have HF : Hid (Below w.heap.size w wr ∧ wr.ownsRow w.heap.size 111 2 (.slice va (scL E.q E.R x o lo hi k).length vc) (scL E.q E.R x o lo hi E.q).length (cb (scL E.q E.R x o lo hi E.q))) := by
        have hO := HO.out
        rw [hkn] at hO ⊢
        refine ⟨HB.out.1, ?_⟩
        obtain ⟨k1, k2 | ⟨g, gc, cur, e, m1, m2, m3⟩⟩ := hO
        · exact ⟨k1, .inl k2⟩
        · exact ⟨k1, .inr ⟨g, gc, cur, e, by omega, m2, m3⟩⟩
      clear HO HB hkn hRA
      generalize (scL E.q E.R x o lo hi k).length = len at *
      go_wp2_with fail
      go_ret
      exact ⟨_, rfl, HF.out⟩
/-- What ScanKeys answers. -/
def skL (E : En) (id lo hi : Int) : List (Int × Int) := scL E.q E.R (E.T (askP E id).toNat).am (E.T (askP E id).toNat).id lo hi E.q
theorem skL_at {E : En} {id lo hi : Int} {j : Nat} (hj : askP E id = (j : Int)) : skL E id lo hi = scL E.q E.R (E.T j).am (E.T j).id lo hi E.q := by
  unfold skL; rw [hj, Int.toNat_natCast]
set_option maxHeartbeats 4000000 in
theorem specSk_any (E : En) (a : Option Addr) (cap : Nat) (a' : Option Addr) (cap' : Nat) (id lo hi : Int) (w : World) (hs : SmallE E) (h : EngAt w a a' E) :
    Calls Try.prog 46 #[.agg #[.int .i64 E.nx, .int .i64 E.ck, .slice a E.p cap, .slice a' E.q cap'], .int .i64 id, .int .i64 lo, .int .i64 hi] w (SRes (askC E id) (skL E id lo hi) w) := by
  have HX : Hid (EngAt w a a' E) := h
  have HS : Hid (SmallE E) := hs
  clear h hs
  have HBX : Hid (∀ o1 o2 : Obj, o1 = .cells #[.int .i64 E.nx, .int .i64 E.ck, .slice a E.p cap, .slice a' E.q cap'] 47 → o2 = .cells #[.int .i64 0, .slice none 0 0] 77 →
      Box4 ((w.alloc o1).alloc o2) w.heap.size (.int .i64 E.nx) (.int .i64 E.ck) (.slice a E.p cap) (.slice a' E.q cap') ∧ Box2 ((w.alloc o1).alloc o2) (w.heap.size + 1) (.int .i64 0) (.slice none 0 0) ∧ (∀ i, ((w.alloc o1).alloc o2).frozen? ⟨w.heap.size + 1, i, none⟩ = false) ∧ Below w.heap.size w ((w.alloc o1).alloc o2) ∧ ((w.alloc o1).alloc o2).heap.size = w.heap.size + 2) := by
    rintro o1 o2 rfl rfl
    exact ⟨(Box4.new w _ _ _ _ _).alloc _, by simp [Box2, go_sem], fun i => by simp [go_sem], ((Below.refl _ _).alloc (Nat.le_refl _) _).alloc (by simp) _, by simp⟩
  go_enter Try.func46, Try.ntmps46
  go_wp2_with fail
  obtain ⟨hb4, hb2, hbf, hbw, hbs⟩ := HBX.out _ _ rfl rfl
  refine (l6Asked_any E w.heap.size a cap a' cap' id _ HS.out ⟨hb4, HX.out.below hbw⟩).mono ?_
  rintro e w1 ⟨rfl, hb1⟩
  have HB4 : Hid (Box4 w1 w.heap.size (.int .i64 E.nx) (.int .i64 E.ck) (.slice a E.p cap) (.slice a' E.q cap')) := hb4.below hb1
  obtain ⟨r0, r1⟩ := hb2.below hb1
  have rf : ∀ i, w1.frozen? ⟨w.heap.size + 1, i, none⟩ = false := fun i => ((bcell2 hb1).2 _ _ (by rw [hbs]; omega)).trans (hbf i)
  have HB1 : Hid (Below w.heap.size w w1) := below_then hbw hb1
  have hs1 : w.heap.size + 2 ≤ w1.heap.size := by have := hb1.size; rw [hbs] at this; exact this
  clear hb1 hb4 hb2 hbf hbw hbs HBX
  by_cases hc : askC E id = 0
  case neg =>
    have HF : Hid (∀ w7, Below w.heap.size w w7 → SRes (askC E id) (skL E id lo hi) w (.returned (.agg #[.int .i64 (askC E id), .slice none 0 0])) w7) := fun w7 hb => sres_bad hb hc
    have hc2 : (askC E id != 0) = true := by simp [hc]
    clear hc
    generalize askC E id = uu at *
    generalize askP E id = up at *
    go_wp2_with fail
    refine bodyPost_ret (v := .agg #[.int .i64 uu, .slice none 0 0]) (by simp [results, Try.results46, go_sem, *]) rfl ?_
    refine HF.out _ ?_
    repeat (first | with_reducible exact HB1.out | with_reducible refine Below.setCell ?_ (by first | omega | (simp <;> omega)) _)
  obtain ⟨h0, j, hj, hp, -⟩ := ask_open hc
  have HE : Hid (skL E id lo hi = scL E.q E.R (E.T j).am (E.T j).id lo hi E.q) := skL_at hp
  have HC0 : Hid (askC E id = 0) := hc
  have HR12 : Hid (∀ i, i < E.q → (E.R i).n ≤ 12) := rows12 h0
  have h32 := (eF_pq h0).2
  have hp20 := (eF_pq h0).1
  have HX1 : Hid (EngAt w1 a a' E) := HX.out.below HB1.out
  rw [hc, hp]
  rcases HX1.out.1 with h | ⟨bb, off, rfl, hl, hcc⟩
  · omega
  obtain ⟨ti, tc, hCT, -, -⟩ := hcc j hj
  have HCT : Hid (CTx w1 bb (off + j * 5) (E.T j) ti tc) := hCT
  have hj1 : (j : Int) < (E.p : Int) := by omega
  have hj0 : (0 : Int) ≤ (j : Int) := by omega
  obtain ⟨b0, b1, b2, b3⟩ := HB4.out
  clear hc hp h0 hcc hCT b0 b1 b3
  go_wp2_with fail
  refine (l6View_any (E.T j) bb (off + j * 5) ti tc w1 HCT.out).mono ?_
  rintro e w2 ⟨rfl, hb2⟩
  have HB2 : Hid (Below w.heap.size w w2) := below_then HB1.out hb2
  have HX2 : Hid (EBox w2 w.heap.size (some ⟨bb, off, none⟩) cap a' cap' E) := ⟨HB4.out.below hb2, HX1.out.below hb2⟩
  replace r0 := cell_below r0 hb2
  replace r1 := cell_below r1 hb2
  replace rf : ∀ i, w2.frozen? ⟨w.heap.size + 1, i, none⟩ = false := fun i => ((bcell2 hb2).2 _ _ (by omega)).trans (rf i)
  have hs2 : w.heap.size + 2 ≤ w2.heap.size := Nat.le_trans hs1 hb2.size
  clear hb2 b2 HB1 HX1 HB4 HCT
  go_wp2_with fail
  refine (l6Scan_any E w.heap.size _ cap a' cap' (E.T j).am (E.T j).id lo hi w2 h32 HR12.out HX2.out).mono ?_
  rintro e w3 ⟨v, rfl, hb3, ho3⟩
  obtain ⟨va, vc, rfl, -⟩ := ownC_of_row ho3
  have HF : Hid (∀ w7, Writes (w.heap.size + 1) (w.heap.size + 2) w3 w7 → w7.heap.size = w3.heap.size → SRes (askC E id) (skL E id lo hi) w (.returned (.agg #[.int .i64 0, .slice va (scL E.q E.R (E.T j).am (E.T j).id lo hi E.q).length vc])) w7) := fun w7 hw hs7 => by
    rw [HE.out]
    exact sres_ok HC0.out (below_then HB2.out hb3) (by omega) (by omega) hs2 ho3 hw hs7
  replace r0 := cell_below r0 hb3
  replace r1 := cell_below r1 hb3
  replace rf : ∀ i, w3.frozen? ⟨w.heap.size + 1, i, none⟩ = false := fun i => ((bcell2 hb3).2 _ _ (by omega)).trans (rf i)
  clear hb3 ho3 HB2 HX2
  generalize (scL E.q E.R (E.T j).am (E.T j).id lo hi E.q).length = len at *
  go_wp2_with fail
  refine bodyPost_ret (v := .agg #[.int .i64 0, .slice va len vc]) (by simp [results, Try.results46, go_sem, *]) rfl ?_
  refine HF.out _ ?_ (by simp [World.setCell])
  repeat (first | with_reducible exact Writes.refl _ _ _ | with_reducible refine Writes.setCell ?_ (by first | omega | (simp <;> omega)) (by first | omega | (simp <;> omega)) _)
end Go.Proofs.Ytblhnhmcdbfhiaa
