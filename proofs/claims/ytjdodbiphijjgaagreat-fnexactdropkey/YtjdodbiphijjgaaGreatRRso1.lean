/- FnExactDropKey: the walk of the law. -/
import Derived.Test.YtjdodbiphijjgaaGreatQBase
import Derived.Test.YtjdodbiphijjgaaGreatQCa
import Derived.Test.YtjdodbiphijjgaaGreatQCb
import Derived.Test.YtjdodbiphijjgaaGreatQCl
import Derived.Test.YtjdodbiphijjgaaGreatQEe
import Derived.Test.YtjdodbiphijjgaaGreatQEta
import Derived.Test.YtjdodbiphijjgaaGreatQFb
import Derived.Test.YtjdodbiphijjgaaGreatQFc
import Derived.Test.YtjdodbiphijjgaaGreatQFd
import Derived.Test.YtjdodbiphijjgaaGreatQFe
import Derived.Test.YtjdodbiphijjgaaGreatQFf
import Derived.Test.YtjdodbiphijjgaaGreatQGa
import Derived.Test.YtjdodbiphijjgaaGreatQGc
import Derived.Test.YtjdodbiphijjgaaGreatQGg
import Derived.Test.YtjdodbiphijjgaaGreatQKa
import Derived.Test.YtjdodbiphijjgaaGreatQKb
import Derived.Test.YtjdodbiphijjgaaGreatQKc
import Derived.Test.YtjdodbiphijjgaaGreatQKz
import Derived.Test.YtjdodbiphijjgaaGreatQNa
import Derived.Test.YtjdodbiphijjgaaGreatQNb
import Derived.Test.YtjdodbiphijjgaaGreatQOa
import Derived.Test.YtjdodbiphijjgaaGreatQPgb
import Derived.Test.YtjdodbiphijjgaaGreatQPgk
import Derived.Test.YtjdodbiphijjgaaGreatQRla
import Derived.Test.YtjdodbiphijjgaaGreatQRlb
import Derived.Test.YtjdodbiphijjgaaGreatQRqc
import Derived.Test.YtjdodbiphijjgaaGreatQRqe
import Derived.Test.YtjdodbiphijjgaaGreatQRsa
import Derived.Test.YtjdodbiphijjgaaGreatQRsb
import Derived.Test.YtjdodbiphijjgaaGreatQRsc
import Derived.Test.YtjdodbiphijjgaaGreatQRse
import Derived.Test.YtjdodbiphijjgaaGreatQRsf
import Derived.Test.YtjdodbiphijjgaaGreatQRsg
import Derived.Test.YtjdodbiphijjgaaGreatQRsh
import Derived.Test.YtjdodbiphijjgaaGreatQRsi
import Derived.Test.YtjdodbiphijjgaaGreatQRsj
import Derived.Test.YtjdodbiphijjgaaGreatQRsk
import Derived.Test.YtjdodbiphijjgaaGreatQRsl
import Derived.Test.YtjdodbiphijjgaaGreatQRsm
import Derived.Test.YtjdodbiphijjgaaGreatQSca
import Derived.Test.YtjdodbiphijjgaaGreatQVe
import Derived.Test.YtjdodbiphijjgaaGreatQVf
import Derived.Test.YtjdodbiphijjgaaGreatQVg
import Derived.Test.YtjdodbiphijjgaaGreatQVkc
import Derived.Test.YtjdodbiphijjgaaGreatQVl
import Derived.Test.YtjdodbiphijjgaaGreatQVm
import Derived.Test.YtjdodbiphijjgaaGreatQVp
import Derived.Test.YtjdodbiphijjgaaGreatQVsd
import Derived.Test.YtjdodbiphijjgaaGreatQVt
import Derived.Test.YtjdodbiphijjgaaGreatQVu
import Derived.Test.YtjdodbiphijjgaaGreatQVw
import Derived.Test.YtjdodbiphijjgaaGreatQWae
namespace Go.Proofs.YtjdodbiphijjgaaGreat
open Go.RowKit Go.Deep
set_option linter.unusedVariables false
set_option maxRecDepth 20000
set_option linter.unusedSimpArgs false
open Go.RowKit Go.Deep Go.Shelf

/-- What spec.l5Seen answers. -/
def sS (n : Nat) (R : Nat → Vr) (x o : Int) : Int := if pS n R x o < n ∧ (R (pS n R x o)).g = false then (pS n R x o : Int) else -1
set_option maxHeartbeats 4000000 in
theorem l5Seen_any (n : Nat) (R : Nat → Vr) (a : Option Addr) (cap : Nat) (x o : Int) (w : World) (hn : n ≤ 12) (h : VersAt w a n R) :
    Calls Tryz.prog 129 #[.slice a n cap, .agg #[.int .i64 x, .int .i64 o]] w fun e w' => e = .returned (.int .i64 (sS n R x o)) ∧ Below w.heap.size w w' := by
  have HA : Hid (VersAt w a n R) := h
  clear h
  go_enter Tryz.func129, Tryz.ntmps129
  go_wp2_with fail
  go_loopw [5, 6] (fun i _ wr => ∃ k : Nat, k ≤ n ∧ i = .int .i64 k ∧ Hid (pS n R x o = psn R x o (n - k) k) ∧ Hid (Box2 wr w.heap.size (.int .i64 x) (.int .i64 o)) ∧ Hid (Below w.heap.size w wr)) (fun i _ _ => n - (intOf i).toNat)
  case atStart => exact ⟨0, Nat.zero_le _, rfl, rfl, Box2.new w _ _ 122, below_new _ _⟩
  case round =>
    obtain ⟨k, hk0, rfl, HE, HX, HB⟩ := hrel
    obtain ⟨q0, q1⟩ := HX.out
    have hsw : w.heap.size < wr.heap.size := Go.block_lt_of_cell q0
    have hne : ¬ w.heap.size = wr.heap.size := by omega
    by_cases hlt : k < n
    · have HE2 : Hid (pS n R x o = _) := HE.out.trans (psn_at hlt)
      obtain ⟨b, off, rfl, hl, hcc⟩ : ∃ b off, a = some ⟨b, off, none⟩ ∧ b < w.heap.size ∧ C4 wr b (off + k * 4) (R k) := by
        rcases HA.out with h | ⟨b, off, ha, hl, hc⟩
        · omega
        · exact ⟨b, off, ha, hl, (hc k hlt).block (HB.out.block _ hl)⟩
      have hlt' : (k : Int) < (n : Int) := by omega
      have hk1 : (0 : Int) ≤ (k : Int) := by omega
      have p0 := fun ob : Obj => cell_alloc q0 ob
      have p1 := fun ob : Obj => cell_alloc q1 ob
      clear HE HA
      by_cases hk : kd (R k) x o = 0
      · have HE : Hid (pS n R x o = psn R x o (n - (k + 1)) (k + 1)) := HE2.out.trans (if_pos hk)
        clear HE2
        obtain ⟨x0, x1, x2, x3⟩ := hcc
        generalize R k = r at *
        obtain ⟨t, ra, g, v⟩ := r
        simp only at x0 x1 x2 x3
        have hk2 : ¬ ((ra ≠ 0 ∧ ra ≤ x) ∨ (t = o ∧ ra = 0)) := by
          intro hh
          simp only [kd] at hk
          rw [if_pos hh] at hk
          cases g <;> simp at hk
        clear hk
        by_cases hz : ra = 0
        · subst hz
          have ht : (t == o) = false := by simp; exact fun e => hk2 (.inr ⟨e, rfl⟩)
          clear hk2
          go_wp2_with fail
          go_roundw
          case rel => exact ⟨k + 1, hlt, by go_num, HE, HX.out.below (below_new _ _), below_then HB.out (below_new _ _)⟩
          case measure => simp [intOf]; omega
        · have hz1 : (ra == 0) = false := by simp [hz]
          have hz2 : (ra != 0) = true := by simp [hz]
          have ha : decide (ra ≤ x) = false := by simp; exact Int.not_le.1 fun e => hk2 (.inl ⟨hz, e⟩)
          clear hk2
          go_wp2_with fail
          go_roundw
          case rel => exact ⟨k + 1, hlt, by go_num, HE, HX.out.below (below_new _ _), below_then HB.out (below_new _ _)⟩
          case measure => simp [intOf]; omega
      · have hE : pS n R x o = k := HE2.out.trans (if_neg hk)
        have HV : Hid (sS n R x o = if (R k).g = false then (k : Int) else -1) := by
          show sS n R x o = _
          unfold sS
          rw [hE]
          simp only [hlt, true_and]
        clear HE2 hE
        obtain ⟨x0, x1, x2, x3⟩ := hcc
        generalize R k = r at *
        obtain ⟨t, ra, g, v⟩ := r
        simp only at x0 x1 x2 x3
        have hk2 : (ra ≠ 0 ∧ ra ≤ x) ∨ (t = o ∧ ra = 0) := by
          apply Classical.byContradiction
          intro hh
          exact hk (if_neg hh)
        clear hk
        cases g
        · have HC : Hid (sS n R x o = k) := HV.out.trans (if_pos rfl)
          clear HV
          rcases hk2 with ⟨hz, ha⟩ | ⟨ht, hz⟩
          · have hz1 : (ra == 0) = false := by simp [hz]
            have hz2 : (ra != 0) = true := by simp [hz]
            go_wp2_with fail
            go_ret
            exact ⟨ret_int HC.out.symm, below_then HB.out (below_new _ _)⟩
          · subst ht hz
            go_wp2_with fail
            go_ret
            exact ⟨ret_int HC.out.symm, below_then HB.out (below_new _ _)⟩
        · have HC : Hid (sS n R x o = -1) := HV.out.trans (if_neg (by simp))
          clear HV
          rcases hk2 with ⟨hz, ha⟩ | ⟨ht, hz⟩
          · have hz1 : (ra == 0) = false := by simp [hz]
            have hz2 : (ra != 0) = true := by simp [hz]
            go_wp2_with fail
            go_ret
            exact ⟨ret_int HC.out.symm, below_then HB.out (below_new _ _)⟩
          · subst ht hz
            go_wp2_with fail
            go_ret
            exact ⟨ret_int HC.out.symm, below_then HB.out (below_new _ _)⟩
    · have HV : Hid (sS n R x o = -1) := by
        show sS n R x o = -1
        unfold sS
        have : pS n R x o = k := by
          refine HE.out.trans ?_
          rw [show n - k = 0 by omega, psn]
        exact if_neg (by omega)
      have hnl : ¬ ((k : Int) < (n : Int)) := by omega
      clear HE HA
      go_wp2_with fail
      go_ret
      exact ⟨ret_int HV.out.symm, HB.out⟩
theorem sS_told {n : Nat} {R : Nat → Vr} {x o : Int} : (told n R x o = true → sS n R x o = (pS n R x o : Int) ∧ pS n R x o < n) ∧ (told n R x o = false → sS n R x o = -1) := by
  constructor
  · intro h
    have h1 := told_iff.1 h
    exact ⟨if_pos h1, h1.1⟩
  · intro h
    refine if_neg fun h1 => ?_
    rw [told_iff.2 h1] at h
    cases h
set_option maxHeartbeats 4000000 in
theorem l6Read_any (E : En) (B : Nat) (a : Option Addr) (cap : Nat) (a' : Option Addr) (cap' : Nat) (x o key : Int) (w : World) (hq : E.q ≤ 32) (hr : ∀ i, i < E.q → (E.R i).n ≤ 12) (h : EBox w B a cap a' cap' E) :
    Calls Tryz.prog 72 #[.pointer (some ⟨B, 0, none⟩), .agg #[.int .i64 x, .int .i64 o], .int .i64 key] w fun e w' => e = .returned (.tuple #[.int .i64 (rdV E.q E.R x o key), .bool (rdB E.q E.R x o key)]) ∧ Below w.heap.size w w' := by
  have HX : Hid (EBox w B a cap a' cap' E) := h
  have HR : Hid (∀ i, i < E.q → (E.R i).n ≤ 12) := hr
  have HXA : Hid (∀ ob : Obj, EBox (w.alloc ob) B a cap a' cap' E) := fun ob => h.below (below_new _ _)
  have HBX : Hid (∀ ob : Obj, ob = .cells #[.int .i64 x, .int .i64 o] 122 → Box2 (w.alloc ob) w.heap.size (.int .i64 x) (.int .i64 o)) := by
    rintro ob rfl
    exact Box2.new w _ _ _
  clear h hr
  go_enter Tryz.func72, Tryz.ntmps72
  go_wp2_with fail
  refine (l6Row_any E.q E.R B a' cap' key _ (by omega) (HXA.out _).1.2.2.2 (HXA.out _).2.2).mono ?_
  rintro e w1 ⟨rfl, hw1⟩
  have HX1 : Hid (EBox w1 B a cap a' cap' E) := by rw [hw1]; exact HXA.out _
  have HB1 : Hid (Below w.heap.size w w1) := by rw [hw1]; exact below_new _ _
  have HV1 : Hid (Box2 w1 w.heap.size (.int .i64 x) (.int .i64 o)) := by rw [hw1]; exact HBX.out _ rfl
  clear hw1 HXA HBX
  rcases fR_cases E.q E.R key with h1 | ⟨j, hj, h1⟩
  · have HE : Hid (rdB E.q E.R x o key = false ∧ rdV E.q E.R x o key = 0) := rd_none h1
    rw [h1]
    clear h1
    go_wp2_with fail
    go_ret2
    exact ⟨by rw [HE.out.1, HE.out.2]; rfl, HB1.out⟩
  have HE : Hid (rdB E.q E.R x o key = told (E.R j).n (E.R j).U x o ∧ rdV E.q E.R x o key = if told (E.R j).n (E.R j).U x o = true then ((E.R j).U (pS (E.R j).n (E.R j).U x o)).v else 0) := rd_some h1
  rw [h1]
  obtain ⟨⟨b0, b1, b2, b3⟩, -, hRA⟩ := HX1.out
  rcases hRA with h | ⟨rb, ro, rfl, hrl, hrc⟩
  · omega
  obtain ⟨ri, rcp, ⟨z0, z1⟩, hrv, -⟩ := hrc j hj
  have HRV : Hid (VersAt w1 ri (E.R j).n (E.R j).U) := hrv
  have HN : Hid ((E.R j).n ≤ 12) := HR.out j hj
  have hj1 : (j : Int) < (E.q : Int) := by omega
  have hj0 : (0 : Int) ≤ (j : Int) := by omega
  have hj3 : ¬ ((j : Int) < 0) := by omega
  obtain ⟨v0, v1⟩ := HV1.out
  have hb0 : Below w1.heap.size w1 w1.drew := (Below.refl _ _).drew
  clear hrc hrv h1 b0 b1 b2 z0
  go_upto_region 4 with fail
  go_cut [9] (fun cc wx => cc = .int .i64 (sS (E.R j).n (E.R j).U x o) ∧ Hid (Below w1.heap.size w1 wx))
  case first =>
    go_region_held3 (fun w' => Below w1.heap.size w1 w' ∧ w'.cell? ⟨B, 3, none⟩ = some (.slice (some ⟨rb, ro, none⟩) E.q cap') ∧ w'.cell? ⟨rb, ro + j * 2 + 1, none⟩ = some (.slice ri (E.R j).n rcp) ∧ w'.cell? ⟨w.heap.size, 0, none⟩ = some (.int .i64 x) ∧ w'.cell? ⟨w.heap.size, 1, none⟩ = some (.int .i64 o)) (go_keep)
      (first | (go_at_call 129; refine (l5Seen_any (E.R j).n (E.R j).U ri rcp x o _ HN.out (HRV.out.below (by simp [*]))).mono ?_; rintro e wq ⟨rfl, hbq⟩; have hU := below_then (w := w1) (by simp [*]) hbq; have hU0 := cell_below (B := B) (o := 3) (v := .slice (some ⟨rb, ro, none⟩) E.q cap') (by simp [*]) hbq; have hU1 := cell_below (B := rb) (o := ro + j * 2 + 1) (v := .slice ri (E.R j).n rcp) (by simp [*]) hbq; have hU2 := cell_below (B := w.heap.size) (o := 0) (v := .int .i64 x) (by simp [*]) hbq; have hU3 := cell_below (B := w.heap.size) (o := 1) (v := .int .i64 o) (by simp [*]) hbq))
    go_wp2_with fail
    go_meet
    exact ⟨rfl, by assumption⟩
  case rest =>
    obtain ⟨rfl, HBX⟩ := hcut
    have HB2 : Hid (Below w.heap.size w wc) := below_then HB1.out HBX.out
    replace b3 := cell_below b3 HBX.out
    replace z1 := cell_below z1 HBX.out
    have HRV2 := HRV.out.below HBX.out
    clear v0 v1 HBX hb0 hrl
    obtain ht | ht := bool_or2 (told (E.R j).n (E.R j).U x o)
    · obtain ⟨hs1, hs2⟩ := sS_told.1 ht
      have HE2 : Hid (rdB E.q E.R x o key = true ∧ rdV E.q E.R x o key = ((E.R j).U (pS (E.R j).n (E.R j).U x o)).v) := ⟨HE.out.1.trans ht, HE.out.2.trans (if_pos ht)⟩
      rw [hs1]
      clear hs1 HE ht
      generalize hps : pS (E.R j).n (E.R j).U x o = ps at *
      rcases HRV2 with h | ⟨vb, vo, rfl, hvl, hvc⟩
      · omega
      obtain ⟨-, -, -, q3⟩ := hvc ps hs2
      have hp1 : (ps : Int) < ((E.R j).n : Int) := by omega
      have hp0 : (0 : Int) ≤ (ps : Int) := by omega
      have hp3 : ¬ ((ps : Int) < 0) := by omega
      clear hvc
      go_wp2_with fail
      go_ret2
      exact ⟨by rw [HE2.out.1, HE2.out.2]; rfl, HB2.out⟩
    · have HE2 : Hid (rdB E.q E.R x o key = false ∧ rdV E.q E.R x o key = 0) := ⟨HE.out.1.trans ht, HE.out.2.trans (if_neg (by simp [ht]))⟩
      rw [sS_told.2 ht]
      clear HE ht HRV2
      go_wp2_with fail
      go_ret2
      exact ⟨by rw [HE2.out.1, HE2.out.2]; rfl, HB2.out⟩
set_option maxHeartbeats 4000000 in
theorem implDk_any (E : En) (a : Option Addr) (cap : Nat) (a' : Option Addr) (cap' : Nat) (id key : Int) (w : World) (hs : SmallE E) (h : EngAt w a a' E) :
    Calls Tryz.prog 19 #[.agg #[.int .i64 E.nx, .int .i64 E.ck, .slice a E.p cap, .slice a' E.q cap'], .int .i64 id, .int .i64 key] w (ERes2 (wcC E id key 0 true) 0 (wcE E id key 0 true) w) := by
  have HXA : Hid (EngAt w a a' E) := h
  have HS : Hid (SmallE E) := hs
  clear h hs
  have HBX : Hid (∀ o1 o2 : Obj, o1 = .cells #[.int .i64 E.nx, .int .i64 E.ck, .slice a E.p cap, .slice a' E.q cap'] 30 → o2 = .cells #[.int .i64 0, .int .i64 0, .int .i64 0, .int .i64 0, .slice none 0 0, .slice none 0 0] 32 →
      Box4 ((w.alloc o1).alloc o2) w.heap.size (.int .i64 E.nx) (.int .i64 E.ck) (.slice a E.p cap) (.slice a' E.q cap') ∧ Box6 ((w.alloc o1).alloc o2) (w.heap.size + 1) (.int .i64 0) (.int .i64 0) (.int .i64 0) (.int .i64 0) (.slice none 0 0) (.slice none 0 0) ∧ (∀ i, ((w.alloc o1).alloc o2).frozen? ⟨w.heap.size + 1, i, none⟩ = false) ∧ Below w.heap.size w ((w.alloc o1).alloc o2) ∧ ((w.alloc o1).alloc o2).heap.size = w.heap.size + 2) := by
    rintro o1 o2 rfl rfl
    exact ⟨(Box4.new w _ _ _ _ _).alloc _, by simp [Box6, go_sem], fun i => by simp [go_sem], ((Below.refl _ _).alloc (Nat.le_refl _) _).alloc (by simp) _, by simp⟩
  go_enter Tryz.func19, Tryz.ntmps19
  go_wp2_with fail
  obtain ⟨hb4, hb2, hbf, hbw, hbs⟩ := HBX.out _ _ rfl rfl
  refine (writeCell_any E a cap a' cap' id key 0 true _ HS.out (HXA.out.below hbw)).mono ?_
  rintro e W ⟨a2, c2, a3, c3, rfl, hb1, hown⟩
  have HF : Hid (∀ w7, Writes (w.heap.size + 1) (w.heap.size + 2) W w7 → w7.heap.size = W.heap.size → ERes2 (wcC E id key 0 true) 0 (wcE E id key 0 true) w (.returned (.agg #[.int .i64 (wcC E id key 0 true), .int .i64 0, .int .i64 (wcE E id key 0 true).nx, .int .i64 (wcE E id key 0 true).ck, .slice a2 (wcE E id key 0 true).p c2, .slice a3 (wcE E id key 0 true).q c3])) w7) := fun w7 hw hz => by
    refine ⟨a2, c2, a3, c3, rfl, Writes.below (below_then hbw hb1) hw (by omega), ?_⟩
    rw [hbs] at hown
    exact eres_wide (hown.writes hw (.inr (Nat.le_refl _))) (by omega) (by have := hw.size; omega) (Nat.le_refl _)
  obtain ⟨r0, r1, r2, r3, r4, r5⟩ := hb2.below hb1
  have rf : ∀ i, W.frozen? ⟨w.heap.size + 1, i, none⟩ = false := fun i => ((bcell2 hb1).2 _ _ (by rw [hbs]; omega)).trans (hbf i)
  clear hb1 hb4 hb2 hbf hbw hbs HBX hown
  generalize wcE E id key 0 true = G at *
  generalize wcC E id key 0 true = c at *
  go_wp2_with fail
  refine bodyPost_ret (v := .agg #[.int .i64 c, .int .i64 0, .int .i64 G.nx, .int .i64 G.ck, .slice a2 G.p c2, .slice a3 G.q c3]) (by simp [results, Tryz.results19, go_sem, *]) rfl ?_
  refine HF.out _ ?_ (by simp [World.setCell])
  repeat (first | with_reducible exact Writes.refl _ _ _ | with_reducible refine Writes.setCell ?_ (by first | omega | (simp <;> omega)) (by first | omega | (simp <;> omega)) _)
set_option maxHeartbeats 16000000 in
theorem specDk_any (E : En) (a : Option Addr) (cap : Nat) (a' : Option Addr) (cap' : Nat) (id key : Int) (w : World) (hs : SmallE E) (h : EngAt w a a' E) :
    Calls Tryz.prog 18 #[.agg #[.int .i64 E.nx, .int .i64 E.ck, .slice a E.p cap, .slice a' E.q cap'], .int .i64 id, .int .i64 key] w (ERes2 (wcC E id key 0 true) 0 (wcE E id key 0 true) w) := by
  have HXA : Hid (EngAt w a a' E) := h
  have HS : Hid (SmallE E) := hs
  clear h hs
  have HBX : Hid (∀ o1 o2 : Obj, o1 = .cells #[.int .i64 E.nx, .int .i64 E.ck, .slice a E.p cap, .slice a' E.q cap'] 30 → o2 = .cells #[.int .i64 0, .int .i64 0, .int .i64 0, .int .i64 0, .slice none 0 0, .slice none 0 0] 32 →
      Box4 ((w.alloc o1).alloc o2) w.heap.size (.int .i64 E.nx) (.int .i64 E.ck) (.slice a E.p cap) (.slice a' E.q cap') ∧ Box6 ((w.alloc o1).alloc o2) (w.heap.size + 1) (.int .i64 0) (.int .i64 0) (.int .i64 0) (.int .i64 0) (.slice none 0 0) (.slice none 0 0) ∧ (∀ i, ((w.alloc o1).alloc o2).frozen? ⟨w.heap.size + 1, i, none⟩ = false) ∧ Below w.heap.size w ((w.alloc o1).alloc o2) ∧ ((w.alloc o1).alloc o2).heap.size = w.heap.size + 2) := by
    rintro o1 o2 rfl rfl
    exact ⟨(Box4.new w _ _ _ _ _).alloc _, by simp [Box6, go_sem], fun i => by simp [go_sem], ((Below.refl _ _).alloc (Nat.le_refl _) _).alloc (by simp) _, by simp⟩
  go_enter Tryz.func18, Tryz.ntmps18
  go_wp2_with fail
  obtain ⟨hb4, hb2, hbf, hbw, hbs⟩ := HBX.out _ _ rfl rfl
  refine (l6Asked_any E w.heap.size a cap a' cap' id _ HS.out ⟨hb4, HXA.out.below hbw⟩).mono ?_
  rintro e W ⟨rfl, hb1⟩
  have HB4 : Hid (Box4 W w.heap.size (.int .i64 E.nx) (.int .i64 E.ck) (.slice a E.p cap) (.slice a' E.q cap')) := hb4.below hb1
  have HR6 : Hid (Box6 W (w.heap.size + 1) (.int .i64 0) (.int .i64 0) (.int .i64 0) (.int .i64 0) (.slice none 0 0) (.slice none 0 0)) := hb2.below hb1
  have HRF : Hid (∀ i, W.frozen? ⟨w.heap.size + 1, i, none⟩ = false) := fun i => ((bcell2 hb1).2 _ _ (by rw [hbs]; omega)).trans (hbf i)
  have HBW : Hid (Below w.heap.size w W) := below_then hbw hb1
  have hs1 : w.heap.size + 2 ≤ W.heap.size := by have := hb1.size; rw [hbs] at this; exact this
  clear hb1 hb4 hb2 hbf hbw hbs HBX
  by_cases hc : askC E id = 0
  case neg =>
    have HF : Hid (∀ w7, Below w.heap.size w w7 → ERes2 (wcC E id key 0 true) 0 (wcE E id key 0 true) w (.returned (.agg #[.int .i64 (askC E id), .int .i64 0, .int .i64 0, .int .i64 0, .slice none 0 0, .slice none 0 0])) w7) := fun w7 hb => by
      have hC : wcC E id key 0 true = askC E id := if_neg hc
      rw [wc_bad hC hc, hC]; exact eres_bad2 hb
    have hc2 : (askC E id != 0) = true := by simp [hc]
    clear hc
    generalize askC E id = uu at *
    generalize askP E id = up at *
    go_wp2_with fail
    refine (l6Bad_any uu _).mono ?_
    rintro e w9 ⟨rfl, hb9⟩
    have HB9 : Hid (Below w.heap.size w w9) := below_then HBW.out hb9
    obtain ⟨r0, r1, r2, r3, r4, r5⟩ := (HR6.out.below (Below.refl _ _)).below hb9
    have rf : ∀ i, w9.frozen? ⟨w.heap.size + 1, i, none⟩ = false := fun i => ((bcell2 hb9).2 _ _ (HR6.out.below (Below.refl _ _)).lt).trans (((bcell2 (Below.refl _ _)).2 _ _ HR6.out.lt).trans (HRF.out i))
    clear hb9
    go_wp2_with fail
    refine bodyPost_ret (v := .agg #[.int .i64 uu, .int .i64 0, .int .i64 0, .int .i64 0, .slice none 0 0, .slice none 0 0]) (by simp [results, Tryz.results18, go_sem, *]) rfl ?_
    refine HF.out _ ?_
    repeat (first | with_reducible exact HB9.out | with_reducible refine Below.setCell ?_ (by first | omega | (simp <;> omega)) _)
  obtain ⟨h0, j, hj, hp, hid⟩ := ask_open hc
  have HEX : Hid (EngAt W a a' E) := HXA.out.below HBW.out
  have HH0 : Hid (eF E = 0) := h0
  have HHC : Hid (askC E id = 0) := hc
  have HHP : Hid ((askP E id).toNat = j) := by rw [Hid, hp, Int.toNat_natCast]
  have hq32 := (eF_pq h0).2
  have HR12 : Hid (∀ i, i < E.q → (E.R i).n ≤ 12) := rows12 h0
  have hj1 : (j : Int) < (E.p : Int) := by omega
  have hj0 : (0 : Int) ≤ (j : Int) := by omega
  obtain ⟨b0, b1, b2, b3⟩ := HB4.out
  rw [hc, hp]
  clear hc hp h0 hid
  go_wp2_with fail
  refine (l1Key_any key _).mono ?_
  rintro e W2 ⟨rfl, hw2⟩
  obtain rfl := hw2.symm
  rcases (bool_orW (inB key 0 31)).symm with hk | hk
  · rw [hk]
    have HF : Hid (∀ w7, Below w.heap.size w w7 → ERes2 (wcC E id key 0 true) 0 (wcE E id key 0 true) w (.returned (.agg #[.int .i64 3, .int .i64 0, .int .i64 0, .int .i64 0, .slice none 0 0, .slice none 0 0])) w7) := fun w7 hb => by
      have hC : wcC E id key 0 true = 3 := by unfold wcC; rw [if_pos HHC.out, hk, if_neg (by decide)]
      rw [wc_bad hC (by first | decide | assumption), hC]; exact eres_bad2 hb
    clear hk
    go_wp2_with fail
    refine (l6Bad_any 3 _).mono ?_
    rintro e w9 ⟨rfl, hb9⟩
    have HB9 : Hid (Below w.heap.size w w9) := below_then HBW.out hb9
    obtain ⟨r0, r1, r2, r3, r4, r5⟩ := (HR6.out.below (Below.refl _ _)).below hb9
    have rf : ∀ i, w9.frozen? ⟨w.heap.size + 1, i, none⟩ = false := fun i => ((bcell2 hb9).2 _ _ (HR6.out.below (Below.refl _ _)).lt).trans (((bcell2 (Below.refl _ _)).2 _ _ HR6.out.lt).trans (HRF.out i))
    clear hb9
    go_wp2_with fail
    refine bodyPost_ret (v := .agg #[.int .i64 3, .int .i64 0, .int .i64 0, .int .i64 0, .slice none 0 0, .slice none 0 0]) (by simp [results, Tryz.results18, go_sem, *]) rfl ?_
    refine HF.out _ ?_
    repeat (first | with_reducible exact HB9.out | with_reducible refine Below.setCell ?_ (by first | omega | (simp <;> omega)) _)
  have HKY : Hid (inB key 0 31 = true) := hk
  rw [hk]
  clear hk
  rcases HEX.out.1 with h9 | ⟨eb, eo, rfl, hel, hec⟩
  · omega
  obtain ⟨ei, ec, hCT, -, -⟩ := hec j hj
  have HCT : Hid (CTx W eb (eo + j * 5) (E.T j) ei ec) := hCT
  clear hec hCT
  go_wp2_with fail
  refine (l6View_any (E.T j) eb (eo + j * 5) ei ec _ HCT.out).mono ?_
  rintro e w5 ⟨rfl, hb5⟩
  have HB5 : Hid (Below W.heap.size W w5) := hb5
  have HBX5 : Hid (EBox w5 w.heap.size (some ⟨eb, eo, none⟩) cap a' cap' E) := ⟨HB4.out.below hb5, HEX.out.below hb5⟩
  clear hb5
  go_wp2_with fail
  refine (l6Read_any E w.heap.size _ cap a' cap' (E.T j).am (E.T j).id key _ hq32 HR12.out HBX5.out).mono ?_
  rintro e w6 ⟨rfl, hb6⟩
  have HB6 : Hid (Below W.heap.size W w6) := below_then HB5.out hb6
  have HBW6 : Hid (Below w.heap.size w w6) := below_then HBW.out HB6.out
  clear hb6
  have HCW := cw_ww (key := key) (v := 0) (g := true) HH0.out hj (by decide) (fun _ => rfl)
  have e1 : wcC E id key 0 true = cwC E j key 0 true := by unfold wcC; rw [if_pos HHC.out, HKY.out, if_pos rfl, if_pos (by decide), HHP.out]
  rcases (bool_orW (rdB E.q E.R (E.T j).am (E.T j).id key)).symm with hk | hk
  · rw [hk]
    have HF : Hid (∀ w7, Below w.heap.size w w7 → ERes2 (wcC E id key 0 true) 0 (wcE E id key 0 true) w (.returned (.agg #[.int .i64 4, .int .i64 0, .int .i64 0, .int .i64 0, .slice none 0 0, .slice none 0 0])) w7) := fun w7 hb => by
      have hC : wcC E id key 0 true = 4 := by rw [e1, HCW.1, hk, if_pos ⟨rfl, rfl⟩]
      rw [wc_bad hC (by first | decide | assumption), hC]; exact eres_bad2 hb
    clear hk HCW e1
    go_wp2_with fail
    refine (l6Bad_any 4 _).mono ?_
    rintro e w9 ⟨rfl, hb9⟩
    have HB9 : Hid (Below w.heap.size w w9) := below_then HBW6.out hb9
    obtain ⟨r0, r1, r2, r3, r4, r5⟩ := (HR6.out.below HB6.out).below hb9
    have rf : ∀ i, w9.frozen? ⟨w.heap.size + 1, i, none⟩ = false := fun i => ((bcell2 hb9).2 _ _ (HR6.out.below HB6.out).lt).trans (((bcell2 HB6.out).2 _ _ HR6.out.lt).trans (HRF.out i))
    clear hb9
    go_wp2_with fail
    refine bodyPost_ret (v := .agg #[.int .i64 4, .int .i64 0, .int .i64 0, .int .i64 0, .slice none 0 0, .slice none 0 0]) (by simp [results, Tryz.results18, go_sem, *]) rfl ?_
    refine HF.out _ ?_
    repeat (first | with_reducible exact HB9.out | with_reducible refine Below.setCell ?_ (by first | omega | (simp <;> omega)) _)
  have HEQ : Hid (wcC E id key 0 true = wwC E j key ∧ wcE E id key 0 true = wwE E j key true 0) := by
    have e2 : cwC E j key 0 true = wwC E j key := by rw [HCW.1, hk, if_neg (by simp)]
    refine ⟨e1.trans e2, ?_⟩
    unfold wcE
    rw [e1, HHP.out]
    by_cases hz : cwC E j key 0 true = 0
    · rw [if_pos hz, HCW.2 hz]
    · rw [if_neg hz]; unfold wwE; rw [if_neg (by rw [← e2]; exact hz)]
  rw [hk]
  clear hk HCW e1
  have HEX6 : Hid (EngAt w6 (some ⟨eb, eo, none⟩) a' E) := HEX.out.below HB6.out
  obtain ⟨b0, b1, b2, b3⟩ := HB4.out.below HB6.out
  go_wp2_with fail
  refine (l6Write_any E _ cap a' cap' j key 0 true _ HH0.out hj HEX6.out).mono ?_
  rintro e w8 ⟨a2, c2, a3, c3, rfl, hb8, hown⟩
  have hs6 : w.heap.size + 2 ≤ w6.heap.size := by have := HB6.out.size; omega
  have HF : Hid (∀ w7, Writes (w.heap.size + 1) (w.heap.size + 2) w8 w7 → w7.heap.size = w8.heap.size → ERes2 (wcC E id key 0 true) 0 (wcE E id key 0 true) w (.returned (.agg #[.int .i64 (wwC E j key), .int .i64 0, .int .i64 (wwE E j key true 0).nx, .int .i64 (wwE E j key true 0).ck, .slice a2 (wwE E j key true 0).p c2, .slice a3 (wwE E j key true 0).q c3])) w7) := fun w7 hw hz => by
    rw [HEQ.out.1, HEQ.out.2]
    refine ⟨a2, c2, a3, c3, rfl, Writes.below (below_then HBW6.out hb8) hw (by omega), ?_⟩
    exact eres_wide (hown.writes hw (.inr (by omega))) (by omega) (by have := hw.size; omega) (Nat.le_refl _)
  obtain ⟨r0, r1, r2, r3, r4, r5⟩ := (HR6.out.below HB6.out).below hb8
  have rf : ∀ i, w8.frozen? ⟨w.heap.size + 1, i, none⟩ = false := fun i => ((bcell2 hb8).2 _ _ (HR6.out.below HB6.out).lt).trans (((bcell2 HB6.out).2 _ _ HR6.out.lt).trans (HRF.out i))
  clear hb8 hown b0 b1 b2 b3
  generalize wwE E j key true 0 = GE at *
  generalize wwC E j key = c at *
  go_wp2_with fail
  refine bodyPost_ret (v := .agg #[.int .i64 c, .int .i64 0, .int .i64 GE.nx, .int .i64 GE.ck, .slice a2 GE.p c2, .slice a3 GE.q c3]) (by simp [results, Tryz.results18, go_sem, *]) rfl ?_
  refine HF.out _ ?_ (by simp [World.setCell])
  repeat (first | with_reducible exact Writes.refl _ _ _ | with_reducible refine Writes.setCell ?_ (by first | omega | (simp <;> omega)) (by first | omega | (simp <;> omega)) _)
set_option maxHeartbeats 8000000 in
theorem dropKeyLaw_small (E : En) (a a' : Option Addr) (cap cap' : Nat) (id : Int) (key : Int) (w : World) (hn : E.p ≤ 9223372036854775807) (hL : ∀ i, i < E.p → (E.T i).n ≤ 9223372036854775807) (hm : E.q ≤ 9223372036854775807) (hM : ∀ i, i < E.q → (E.R i).n ≤ 9223372036854775807) (HA0 : EngAt w a a' E) (c v : Int) (G : En) (hG : SmallE G)
    (HP : Hid (SmallE E → ∀ (a a' : Option Addr) (w : World), EngAt w a a' E → Calls Tryz.prog 18 #[.agg #[.int .i64 E.nx, .int .i64 E.ck, .slice a E.p E.p, .slice a' E.q E.q], .int .i64 id, .int .i64 key] w (ERes2 c v G w)))
    (HQ : Hid (SmallE E → ∀ (a a' : Option Addr) (w : World), EngAt w a a' E → Calls Tryz.prog 19 #[.agg #[.int .i64 E.nx, .int .i64 E.ck, .slice a E.p E.p, .slice a' E.q E.q], .int .i64 id, .int .i64 key] w (ERes2 c v G w))) :
    Calls Tryz.prog 4 #[.agg #[.int .i64 E.nx, .int .i64 E.ck, .slice a E.p cap, .slice a' E.q cap'], .int .i64 id, .int .i64 key] w fun e w' => e = .returned (.bool true) ∧ Below w.heap.size w w' := by
  go_enter Tryz.func4, Tryz.ntmps4
  go_wp2_with fail
  refine (szEngine_any E a a' cap cap' _ hn hL hm hM (HA0.below (below_new _ _))).mono ?_
  rintro e w1 ⟨hb, r, rfl, hr⟩
  have hB : Below w.heap.size w w1 := below_then (below_new _ _) hb
  rcases hr with rfl | ⟨hr0, hr1⟩
  · go_wp2_with fail
    go_ret
    exact ⟨rfl, hB⟩
  have HS : SmallE E := smallE_of (by omega)
  have BA := (Box4.new w (.int .i64 E.nx) (.int .i64 E.ck) (.slice a E.p cap) (.slice a' E.q cap') 25).below hb
  have HA := HA0.below hB
  have sw1 : Hid (w.heap.size < w1.heap.size) := by have hq := hb.size; simp at hq; show w.heap.size < w1.heap.size; omega
  have hneg : ¬ (r < 0) := by omega
  clear hb hr0 hr1 hn hm hL hM
  have hneg2 : ¬ ((1 : Int) + (totE E : Int) < 0) := by omega
  have hneg3 : ¬ ((1 : Int) + (totE G : Int) < 0) := by omega
  have HTD : Hid (totE E ≤ 13631488) := totE_le HS
  have TA := BA
  obtain ⟨qA0, qA1, qA2, qA3⟩ := TA
  go_wp2_with fail
  refine (toEngine_any E a a' cap cap' _ HS HA).mono ?_
  rintro e w2 ⟨b1, b2, rfl, hb, ho⟩
  clear qA0 qA1 qA2 qA3
  replace hB := below_then hB hb
  replace BA := BA.below hb
  replace HA := HA.below hb
  have sw2 : Hid (w1.heap.size ≤ w2.heap.size) := by have hq := hb.size; show w1.heap.size ≤ w2.heap.size; omega
  have OT := ho.wide (Nat.le_refl _) (Nat.le_refl _) (Nat.le_refl _)
  clear ho
  clear hb
  go_wp2_with fail
  refine (HP.out HS _ _ _ OT.at).mono ?_
  rintro e w3 ⟨aw, cw, bw, dw, rfl, hb, OW⟩
  replace hB := below_then hB hb
  replace BA := BA.below hb
  replace OT := OT.below hb
  replace HA := HA.below hb
  have sw3 : Hid (w2.heap.size ≤ w3.heap.size) := by have hq := hb.size; show w2.heap.size ≤ w3.heap.size; omega
  clear hb
  clear OT
  have TA := BA
  obtain ⟨qA0, qA1, qA2, qA3⟩ := TA
  have rA0 := fun o : Obj => cell_alloc qA0 o
  have rA1 := fun o : Obj => cell_alloc qA1 o
  have rA2 := fun o : Obj => cell_alloc qA2 o
  have rA3 := fun o : Obj => cell_alloc qA3 o
  go_wp2_with fail
  refine (toEngine_any E a a' cap cap' _ HS (HA.below (below_new _ _))).mono ?_
  rintro e w4 ⟨bx, bx2, rfl, hb, ho⟩
  clear qA0 qA1 qA2 qA3 rA0 rA1 rA2 rA3
  replace hB := below_then hB (below_then (below_new _ _) hb)
  replace BA := (BA.alloc _).below hb
  have BW := (Box6.new w3 (.int .i64 c) (.int .i64 v) (.int .i64 G.nx) (.int .i64 G.ck) (.slice aw G.p cw) (.slice bw G.q dw) 32).below hb
  replace OW := (OW.below (below_new _ _)).below hb
  replace HA := (HA.below (below_new _ _)).below hb
  have sw4 : Hid (w3.heap.size < w4.heap.size) := by have hq := hb.size; simp at hq; show w3.heap.size < w4.heap.size; omega
  have OX : OwnE w4 (w3.heap.size + 1) w4.heap.size _ _ E := ho.wide (by simp) (Nat.le_refl _) (Nat.le_refl _)
  clear ho
  clear hb
  go_wp2_with fail
  refine (HQ.out HS _ _ _ (OX.at.below (below_new _ _))).mono ?_
  rintro e w5 ⟨ag, cg, bg, dg, rfl, hb, ho⟩
  replace hB := below_then hB (below_then (below_new _ _) hb)
  replace BA := (BA.alloc _).below hb
  replace BW := (BW.alloc _).below hb
  have BX := (Box4.new w4 (.int .i64 E.nx) (.int .i64 E.ck) (.slice (some ⟨bx, 0, none⟩) E.p E.p) (.slice (some ⟨bx2, 0, none⟩) E.q E.q) 30).below hb
  replace OW := (OW.below (below_new _ _)).below hb
  replace OX := (OX.below (below_new _ _)).below hb
  replace HA := (HA.below (below_new _ _)).below hb
  have sw5 : Hid (w4.heap.size < w5.heap.size) := by have hq := hb.size; simp at hq; show w4.heap.size < w5.heap.size; omega
  have OG : OwnE2 w5 (w4.heap.size + 1) w5.heap.size ag bg G := ho.wide (by simp) (Nat.le_refl _) (Nat.le_refl _)
  clear ho
  clear hb
  have TW := BW
  obtain ⟨qW0, qW1, qW2, qW3, qW4, qW5⟩ := TW
  have rW0 := fun o : Obj => cell_alloc qW0 o
  have rW1 := fun o : Obj => cell_alloc qW1 o
  have rW2 := fun o : Obj => cell_alloc qW2 o
  have rW3 := fun o : Obj => cell_alloc qW3 o
  have rW4 := fun o : Obj => cell_alloc qW4 o
  have rW5 := fun o : Obj => cell_alloc qW5 o
  go_wp2_with fail
  refine (eqEngineResult_same c v G ag bg aw bw cg dg cw dw _ hG (OG.at.below (below_new _ _)) (OW.at.below (below_new _ _))).mono ?_
  rintro e w6 ⟨rfl, hb⟩
  clear qW0 qW1 qW2 qW3 qW4 qW5 rW0 rW1 rW2 rW3 rW4 rW5
  replace hB := below_then hB (below_then (below_new _ _) hb)
  replace BA := (BA.alloc _).below hb
  replace BW := (BW.alloc _).below hb
  replace BX := (BX.alloc _).below hb
  have BG := (Box6.new w5 (.int .i64 c) (.int .i64 v) (.int .i64 G.nx) (.int .i64 G.ck) (.slice ag G.p cg) (.slice bg G.q dg) 32).below hb
  replace OW := (OW.below (below_new _ _)).below hb
  replace OX := (OX.below (below_new _ _)).below hb
  replace OG := (OG.below (below_new _ _)).below hb
  replace HA := (HA.below (below_new _ _)).below hb
  have sw6 : Hid (w5.heap.size < w6.heap.size) := by have hq := hb.size; simp at hq; show w5.heap.size < w6.heap.size; omega
  clear hb
  have TX := BX
  obtain ⟨qX0, qX1, qX2, qX3⟩ := TX
  have TA := BA
  obtain ⟨qA0, qA1, qA2, qA3⟩ := TA
  go_wp2_with fail
  have hb0 : Below w6.heap.size w6 w6.drew := (Below.refl _ _).drew
  go_region_held3 (fun w' => Below w6.heap.size w6 w' ∧ w'.cell? ⟨w4.heap.size, 0, none⟩ = some (.int .i64 E.nx) ∧ w'.cell? ⟨w4.heap.size, 1, none⟩ = some (.int .i64 E.ck) ∧ w'.cell? ⟨w4.heap.size, 2, none⟩ = some (.slice (some ⟨bx, 0, none⟩) E.p E.p) ∧ w'.cell? ⟨w4.heap.size, 3, none⟩ = some (.slice (some ⟨bx2, 0, none⟩) E.q E.q) ∧ w'.cell? ⟨w.heap.size, 0, none⟩ = some (.int .i64 E.nx) ∧ w'.cell? ⟨w.heap.size, 1, none⟩ = some (.int .i64 E.ck) ∧ w'.cell? ⟨w.heap.size, 2, none⟩ = some (.slice a E.p cap) ∧ w'.cell? ⟨w.heap.size, 3, none⟩ = some (.slice a' E.q cap')) (go_keep)
    (first | (go_at_call 11; refine (toEngine_any E a a' cap cap' _ HS (HA.below (by simp [*]))).mono ?_; rintro e wq ⟨bq, bq2, rfl, hbq, hoq⟩; have hU := below_then (w := w6) (by simp [*]) hbq; have hU0 := cell_below (B := w4.heap.size) (o := 0) (v := .int .i64 E.nx) (by simp [*]) hbq; have hU1 := cell_below (B := w4.heap.size) (o := 1) (v := .int .i64 E.ck) (by simp [*]) hbq; have hU2 := cell_below (B := w4.heap.size) (o := 2) (v := .slice (some ⟨bx, 0, none⟩) E.p E.p) (by simp [*]) hbq; have hU3 := cell_below (B := w4.heap.size) (o := 3) (v := .slice (some ⟨bx2, 0, none⟩) E.q E.q) (by simp [*]) hbq; have hU4 := cell_below (B := w.heap.size) (o := 0) (v := .int .i64 E.nx) (by simp [*]) hbq; have hU5 := cell_below (B := w.heap.size) (o := 1) (v := .int .i64 E.ck) (by simp [*]) hbq; have hU6 := cell_below (B := w.heap.size) (o := 2) (v := .slice a E.p cap) (by simp [*]) hbq; have hU7 := cell_below (B := w.heap.size) (o := 3) (v := .slice a' E.q cap') (by simp [*]) hbq) | (go_at_call 14; refine (eqEngine_same E _ _ _ _ E.p E.q E.p E.q _ HS (OX.at.below (by simp [*])) hoq.at).mono ?_; rintro e w7 ⟨rfl, hbz⟩; have hS := below_then (w := w6) (by simp [*]) hbz; have hS0 := cell_below (B := w4.heap.size) (o := 0) (v := .int .i64 E.nx) (by simp [*]) hbz; have hS1 := cell_below (B := w4.heap.size) (o := 1) (v := .int .i64 E.ck) (by simp [*]) hbz; have hS2 := cell_below (B := w4.heap.size) (o := 2) (v := .slice (some ⟨bx, 0, none⟩) E.p E.p) (by simp [*]) hbz; have hS3 := cell_below (B := w4.heap.size) (o := 3) (v := .slice (some ⟨bx2, 0, none⟩) E.q E.q) (by simp [*]) hbz; have hS4 := cell_below (B := w.heap.size) (o := 0) (v := .int .i64 E.nx) (by simp [*]) hbz; have hS5 := cell_below (B := w.heap.size) (o := 1) (v := .int .i64 E.ck) (by simp [*]) hbz; have hS6 := cell_below (B := w.heap.size) (o := 2) (v := .slice a E.p cap) (by simp [*]) hbz; have hS7 := cell_below (B := w.heap.size) (o := 3) (v := .slice a' E.q cap') (by simp [*]) hbz))
  clear qX0 qX1 qX2 qX3 qA0 qA1 qA2 qA3
  clear hb0 hU hU0 hU1 hU2 hU3 hU4 hU5 hU6 hU7 hS0 hS1 hS2 hS3 hS4 hS5 hS6 hS7 hbq hoq hbz
  replace hB := below_then hB hS
  replace BA := BA.below hS
  replace BW := BW.below hS
  replace BX := BX.below hS
  replace BG := BG.below hS
  replace OW := OW.below hS
  replace OX := OX.below hS
  replace OG := OG.below hS
  replace HA := HA.below hS
  have sw7 : Hid (w6.heap.size ≤ w7.heap.size) := by have hq := hS.size; show w6.heap.size ≤ w7.heap.size; omega
  clear hS
  have TX := BX
  obtain ⟨qX0, qX1, qX2, qX3⟩ := TX
  go_wp2_with fail
  refine (markEngine_any E _ _ E.p E.q (w3.heap.size + 1) w4.heap.size 1 _ HS (by omega) (by omega) OX).mono ?_
  rintro e w8 ⟨rfl, hw, hox⟩
  clear qX0 qX1 qX2 qX3
  replace hB := Writes.below hB hw (by have t0 := sw1.out; have t1 := sw2.out; have t2 := sw3.out; have t3 := sw4.out; have t4 := sw5.out; have t5 := sw6.out; have t6 := sw7.out; omega)
  replace BA := BA.writes hw (by have t0 := sw1.out; have t1 := sw2.out; have t2 := sw3.out; have t3 := sw4.out; have t4 := sw5.out; have t5 := sw6.out; have t6 := sw7.out; omega)
  replace BW := BW.writes hw (by have t0 := sw1.out; have t1 := sw2.out; have t2 := sw3.out; have t3 := sw4.out; have t4 := sw5.out; have t5 := sw6.out; have t6 := sw7.out; omega)
  replace BX := BX.writes hw (by have t0 := sw1.out; have t1 := sw2.out; have t2 := sw3.out; have t3 := sw4.out; have t4 := sw5.out; have t5 := sw6.out; have t6 := sw7.out; omega)
  replace BG := BG.writes hw (by have t0 := sw1.out; have t1 := sw2.out; have t2 := sw3.out; have t3 := sw4.out; have t4 := sw5.out; have t5 := sw6.out; have t6 := sw7.out; omega)
  replace OW := OW.writes hw (by have t0 := sw1.out; have t1 := sw2.out; have t2 := sw3.out; have t3 := sw4.out; have t4 := sw5.out; have t5 := sw6.out; have t6 := sw7.out; omega)
  replace OG := OG.writes hw (by have t0 := sw1.out; have t1 := sw2.out; have t2 := sw3.out; have t3 := sw4.out; have t4 := sw5.out; have t5 := sw6.out; have t6 := sw7.out; omega)
  replace HA := HA0.below hB
  have sw8 : Hid (w7.heap.size ≤ w8.heap.size) := by have hq := hw.size; show w7.heap.size ≤ w8.heap.size; omega
  clear hw
  clear hox OX
  have TG := BG
  obtain ⟨qG0, qG1, qG2, qG3, qG4, qG5⟩ := TG
  have TW := BW
  obtain ⟨qW0, qW1, qW2, qW3, qW4, qW5⟩ := TW
  go_wp2_with fail
  refine (eqEngineResult_same c v G ag bg aw bw cg dg cw dw _ hG OG.at OW.at).mono ?_
  rintro e w9 ⟨rfl, hb⟩
  clear qG0 qG1 qG2 qG3 qG4 qG5 qW0 qW1 qW2 qW3 qW4 qW5
  replace hB := below_then hB hb
  replace BA := BA.below hb
  replace BW := BW.below hb
  replace BX := BX.below hb
  replace BG := BG.below hb
  replace OW := OW.below hb
  replace OG := OG.below hb
  replace HA := HA.below hb
  have sw9 : Hid (w8.heap.size ≤ w9.heap.size) := by have hq := hb.size; show w8.heap.size ≤ w9.heap.size; omega
  clear hb
  have TG := BG
  obtain ⟨qG0, qG1, qG2, qG3, qG4, qG5⟩ := TG
  go_wp2_with fail
  refine (markEngineResult_2 c v G ag bg cg dg (w4.heap.size + 1) w5.heap.size _ hG OG).mono ?_
  rintro e w10 ⟨rfl, hw, hog⟩
  clear qG0 qG1 qG2 qG3 qG4 qG5
  replace hB := Writes.below hB hw (by have t0 := sw1.out; have t1 := sw2.out; have t2 := sw3.out; have t3 := sw4.out; have t4 := sw5.out; have t5 := sw6.out; have t6 := sw7.out; have t7 := sw8.out; have t8 := sw9.out; omega)
  replace BA := BA.writes hw (by have t0 := sw1.out; have t1 := sw2.out; have t2 := sw3.out; have t3 := sw4.out; have t4 := sw5.out; have t5 := sw6.out; have t6 := sw7.out; have t7 := sw8.out; have t8 := sw9.out; omega)
  replace BW := BW.writes hw (by have t0 := sw1.out; have t1 := sw2.out; have t2 := sw3.out; have t3 := sw4.out; have t4 := sw5.out; have t5 := sw6.out; have t6 := sw7.out; have t7 := sw8.out; have t8 := sw9.out; omega)
  replace BX := BX.writes hw (by have t0 := sw1.out; have t1 := sw2.out; have t2 := sw3.out; have t3 := sw4.out; have t4 := sw5.out; have t5 := sw6.out; have t6 := sw7.out; have t7 := sw8.out; have t8 := sw9.out; omega)
  replace BG := BG.writes hw (by have t0 := sw1.out; have t1 := sw2.out; have t2 := sw3.out; have t3 := sw4.out; have t4 := sw5.out; have t5 := sw6.out; have t6 := sw7.out; have t7 := sw8.out; have t8 := sw9.out; omega)
  replace OW := OW.writes hw (by have t0 := sw1.out; have t1 := sw2.out; have t2 := sw3.out; have t3 := sw4.out; have t4 := sw5.out; have t5 := sw6.out; have t6 := sw7.out; have t7 := sw8.out; have t8 := sw9.out; omega)
  replace HA := HA0.below hB
  have sw10 : Hid (w9.heap.size ≤ w10.heap.size) := by have hq := hw.size; show w9.heap.size ≤ w10.heap.size; omega
  clear hw
  clear OG
  have OG := hog
  clear hog
  have TG := BG
  obtain ⟨qG0, qG1, qG2, qG3, qG4, qG5⟩ := TG
  go_wp2_with fail
  refine (heldEngineResult_any c v G ag bg cg dg G.nx G.ck _ hG OG.at).mono ?_
  rintro e w11 ⟨rfl, hb⟩
  clear qG0 qG1 qG2 qG3 qG4 qG5
  replace hB := below_then hB hb
  replace BA := BA.below hb
  replace BW := BW.below hb
  replace BX := BX.below hb
  replace BG := BG.below hb
  replace OW := OW.below hb
  replace OG := OG.below hb
  replace HA := HA.below hb
  have sw11 : Hid (w10.heap.size ≤ w11.heap.size) := by have hq := hb.size; show w10.heap.size ≤ w11.heap.size; omega
  clear hb
  have TA := BA
  obtain ⟨qA0, qA1, qA2, qA3⟩ := TA
  go_wp2_with fail
  refine (toEngine_any E a a' cap cap' _ HS HA).mono ?_
  rintro e w12 ⟨bv, bv2, rfl, hb, ho⟩
  clear qA0 qA1 qA2 qA3
  replace hB := below_then hB hb
  replace BA := BA.below hb
  replace BW := BW.below hb
  replace BX := BX.below hb
  replace BG := BG.below hb
  replace OW := OW.below hb
  replace OG := OG.below hb
  replace HA := HA.below hb
  have sw12 : Hid (w11.heap.size ≤ w12.heap.size) := by have hq := hb.size; show w11.heap.size ≤ w12.heap.size; omega
  have OT := ho.wide (Nat.le_refl _) (Nat.le_refl _) (Nat.le_refl _)
  clear ho
  clear hb
  go_wp2_with fail
  refine (HQ.out HS _ _ _ OT.at).mono ?_
  rintro e w13 ⟨ah, ch, bh, dh, rfl, hb, OH⟩
  replace hB := below_then hB hb
  replace BA := BA.below hb
  replace BW := BW.below hb
  replace BX := BX.below hb
  replace BG := BG.below hb
  replace OW := OW.below hb
  replace OG := OG.below hb
  replace OT := OT.below hb
  replace HA := HA.below hb
  have sw13 : Hid (w12.heap.size ≤ w13.heap.size) := by have hq := hb.size; show w12.heap.size ≤ w13.heap.size; omega
  clear hb
  clear OT
  have TW := BW
  obtain ⟨qW0, qW1, qW2, qW3, qW4, qW5⟩ := TW
  have rW0 := fun o : Obj => cell_alloc qW0 o
  have rW1 := fun o : Obj => cell_alloc qW1 o
  have rW2 := fun o : Obj => cell_alloc qW2 o
  have rW3 := fun o : Obj => cell_alloc qW3 o
  have rW4 := fun o : Obj => cell_alloc qW4 o
  have rW5 := fun o : Obj => cell_alloc qW5 o
  go_wp2_with fail
  refine (eqEngineResult_same c v G ah bh aw bw ch dh cw dw _ hG (OH.at.below (below_new _ _)) (OW.at.below (below_new _ _))).mono ?_
  rintro e w14 ⟨rfl, hb⟩
  clear qW0 qW1 qW2 qW3 qW4 qW5 rW0 rW1 rW2 rW3 rW4 rW5
  replace hB := below_then hB (below_then (below_new _ _) hb)
  replace BA := (BA.alloc _).below hb
  replace BW := (BW.alloc _).below hb
  replace BX := (BX.alloc _).below hb
  replace BG := (BG.alloc _).below hb
  have BH := (Box6.new w13 (.int .i64 c) (.int .i64 v) (.int .i64 G.nx) (.int .i64 G.ck) (.slice ah G.p ch) (.slice bh G.q dh) 32).below hb
  replace OW := (OW.below (below_new _ _)).below hb
  replace OG := (OG.below (below_new _ _)).below hb
  replace OH := (OH.below (below_new _ _)).below hb
  replace HA := (HA.below (below_new _ _)).below hb
  have sw14 : Hid (w13.heap.size < w14.heap.size) := by have hq := hb.size; simp at hq; show w13.heap.size < w14.heap.size; omega
  clear hb
  have TG := BG
  obtain ⟨qG0, qG1, qG2, qG3, qG4, qG5⟩ := TG
  go_wp2_with fail
  refine (heldEngineResult_any c v G ag bg cg dg G.nx G.ck _ hG OG.at).mono ?_
  rintro e w15 ⟨rfl, hb⟩
  clear qG0 qG1 qG2 qG3 qG4 qG5
  replace hB := below_then hB hb
  replace BA := BA.below hb
  replace BW := BW.below hb
  replace BX := BX.below hb
  replace BG := BG.below hb
  replace BH := BH.below hb
  replace OW := OW.below hb
  replace OG := OG.below hb
  replace OH := OH.below hb
  replace HA := HA.below hb
  have sw15 : Hid (w14.heap.size ≤ w15.heap.size) := by have hq := hb.size; show w14.heap.size ≤ w15.heap.size; omega
  clear hb
  go_wp2_with fail
  go_ret
  exact ⟨rfl, hB⟩
theorem dropKeyLaw (E : En) (a a' : Option Addr) (cap cap' : Nat) (id : Int) (key : Int) (w : World) (hn : E.p ≤ 9223372036854775807) (hL : ∀ i, i < E.p → (E.T i).n ≤ 9223372036854775807) (hm : E.q ≤ 9223372036854775807) (hM : ∀ i, i < E.q → (E.R i).n ≤ 9223372036854775807) (HA0 : EngAt w a a' E) :
    Calls Tryz.prog 4 #[.agg #[.int .i64 E.nx, .int .i64 E.ck, .slice a E.p cap, .slice a' E.q cap'], .int .i64 id, .int .i64 key] w fun e w' => e = .returned (.bool true) ∧ Below w.heap.size w w' :=
  dropKeyLaw_small E a a' cap cap' id key w hn hL hm hM HA0 (wcC E id key 0 true) 0 (wcE E id key 0 true) (wc_small E id key 0 true (fun _ => rfl)) (fun hs a a' w h => specDk_any E a E.p a' E.q id key w hs h) (fun hs a a' w h => implDk_any E a E.p a' E.q id key w hs h)
end Go.Proofs.YtjdodbiphijjgaaGreat
