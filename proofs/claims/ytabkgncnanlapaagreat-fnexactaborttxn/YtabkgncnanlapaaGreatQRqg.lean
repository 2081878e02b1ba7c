/- impl.RollTo, impl.AbortTxn. -/
import Derived.Test.YtabkgncnanlapaaGreatQRqf
import Derived.Test.YtabkgncnanlapaaGreatQKa
import Derived.Test.YtabkgncnanlapaaGreatQNb
namespace Go.Proofs.YtabkgncnanlapaaGreat
open Go.RowKit Go.Deep
set_option linter.unusedVariables false
set_option linter.unusedSimpArgs false
set_option maxRecDepth 20000

set_option maxHeartbeats 16000000 in
theorem implRt_any (E : En) (a : Option Addr) (cap : Nat) (a' : Option Addr) (cap' : Nat) (id save : Int) (w : World) (hs : SmallE E) (h : EngAt w a a' E) :
    Calls Tryz.prog 17 #[.agg #[.int .i64 E.nx, .int .i64 E.ck, .slice a E.p cap, .slice a' E.q cap'], .int .i64 id, .int .i64 save] w (ERes2 (rtC E id save) (rtV E id save) (rtE E id save) w) := by
  have HXA : Hid (EngAt w a a' E) := h
  have HS : Hid (SmallE E) := hs
  clear h hs
  have HBX : Hid (∀ o1 o2 : Obj, o1 = .cells #[.int .i64 E.nx, .int .i64 E.ck, .slice a E.p cap, .slice a' E.q cap'] 30 → o2 = .cells #[.int .i64 0, .int .i64 0, .int .i64 0, .int .i64 0, .slice none 0 0, .slice none 0 0] 32 →
      Box4 ((w.alloc o1).alloc o2) w.heap.size (.int .i64 E.nx) (.int .i64 E.ck) (.slice a E.p cap) (.slice a' E.q cap') ∧ Box6 ((w.alloc o1).alloc o2) (w.heap.size + 1) (.int .i64 0) (.int .i64 0) (.int .i64 0) (.int .i64 0) (.slice none 0 0) (.slice none 0 0) ∧ (∀ i, ((w.alloc o1).alloc o2).frozen? ⟨w.heap.size + 1, i, none⟩ = false) ∧ Below w.heap.size w ((w.alloc o1).alloc o2) ∧ ((w.alloc o1).alloc o2).heap.size = w.heap.size + 2) := by
    rintro o1 o2 rfl rfl
    exact ⟨(Box4.new w _ _ _ _ _).alloc _, by simp [Box6, go_sem], fun i => by simp [go_sem], ((Below.refl _ _).alloc (Nat.le_refl _) _).alloc (by simp) _, by simp⟩
  go_enter Tryz.func17, Tryz.ntmps17
  go_wp2_with fail
  obtain ⟨hb4, hb2, hbf, hbw, hbs⟩ := HBX.out _ _ rfl rfl
  refine (placeOfOpen_any E a cap a' cap' id _ HS.out (HXA.out.below hbw)).mono ?_
  rintro e W ⟨rfl, hb1⟩
  have HB4 : Hid (Box4 W w.heap.size (.int .i64 E.nx) (.int .i64 E.ck) (.slice a E.p cap) (.slice a' E.q cap')) := hb4.below hb1
  have HR6 : Hid (Box6 W (w.heap.size + 1) (.int .i64 0) (.int .i64 0) (.int .i64 0) (.int .i64 0) (.slice none 0 0) (.slice none 0 0)) := hb2.below hb1
  have HRF : Hid (∀ i, W.frozen? ⟨w.heap.size + 1, i, none⟩ = false) := fun i => ((bcell2 hb1).2 _ _ (by rw [hbs]; omega)).trans (hbf i)
  have HBW : Hid (Below w.heap.size w W) := below_then hbw hb1
  have HS1 : Hid (w.heap.size + 2 ≤ W.heap.size) := by have := hb1.size; rw [hbs] at this; exact this
  clear hb1 hb4 hb2 hbf hbw hbs HBX
  by_cases hc : askC E id = 0
  case neg =>
    have HF : Hid (∀ w7, Below w.heap.size w w7 → ERes2 (rtC E id save) (rtV E id save) (rtE E id save) w (.returned (.agg #[.int .i64 (askC E id), .int .i64 0, .int .i64 0, .int .i64 0, .slice none 0 0, .slice none 0 0])) w7) := fun w7 hb => by
      rw [(rt_bad hc).1, (rt_bad hc).2.1, (rt_bad hc).2.2]; exact eres_bad2 hb
    have hc2 : (askC E id != 0) = true := by simp [hc]
    obtain ⟨r0, r1, r2, r3, r4, r5⟩ := HR6.out
    have rf := HRF.out
    clear hc
    generalize askC E id = uu at *
    generalize askP E id = up at *
    go_wp2_with fail
    refine bodyPost_ret (v := .agg #[.int .i64 uu, .int .i64 0, .int .i64 0, .int .i64 0, .slice none 0 0, .slice none 0 0]) (by simp [results, Tryz.results17, go_sem, *]) rfl ?_
    refine HF.out _ ?_
    repeat (first | with_reducible exact HBW.out | with_reducible refine Below.setCell ?_ (by first | omega | (simp <;> omega)) _)
  obtain ⟨h0, j, hj, hp, hid⟩ := ask_open hc
  have HEX : Hid (EngAt W a a' E) := HXA.out.below HBW.out
  have HH0 : Hid (eF E = 0) := h0
  have HHC : Hid (askC E id = 0) := hc
  have HHP : Hid (askP E id = (j : Int)) := hp
  have hj1 : (j : Int) < (E.p : Int) := by omega
  have hj0 : (0 : Int) ≤ (j : Int) := by omega
  obtain ⟨b0, b1, b2, b3⟩ := HB4.out
  rw [hc, hp]
  clear hc hp h0 hid
  rcases HEX.out.1 with h9 | ⟨eb, eo, rfl, hel, hec⟩
  · omega
  obtain ⟨ei, ec, ⟨e0, e1, e2, e3, e4⟩, -, -⟩ := hec j hj
  clear hec
  have HAP : Hid ((E.T (askP E id).toNat).n = (E.T j).n) := by rw [Hid, HHP.out, Int.toNat_natCast]
  obtain hi9 | hi9 := (by cases inB save 0 ((E.T j).n : Int) <;> simp : inB save 0 ((E.T j).n : Int) = true ∨ inB save 0 ((E.T j).n : Int) = false)
  case inr =>
    have HF : Hid (∀ w7, Below w.heap.size w w7 → ERes2 (rtC E id save) (rtV E id save) (rtE E id save) w (.returned (.agg #[.int .i64 3, .int .i64 0, .int .i64 0, .int .i64 0, .slice none 0 0, .slice none 0 0])) w7) := fun w7 hb => by
      have e9 := rt_out (save := save) HHC.out (by rw [HAP.out]; exact hi9)
      rw [e9.1, e9.2.1, e9.2.2]; exact eres_bad2 hb
    obtain ⟨r0, r1, r2, r3, r4, r5⟩ := HR6.out
    have rf := HRF.out
    have HI9 : Hid (inB save 0 ((E.T j).n : Int) = false) := hi9
    clear hi9
    go_wp2_with fail
    refine (within_any _ _ _ _).mono ?_
    rintro e w5 ⟨rfl, hw5⟩
    rw [HI9.out, hw5]
    go_wp2_with fail
    refine bodyPost_ret (v := .agg #[.int .i64 3, .int .i64 0, .int .i64 0, .int .i64 0, .slice none 0 0, .slice none 0 0]) (by simp [results, Tryz.results17, go_sem, *]) rfl ?_
    refine HF.out _ ?_
    repeat (first | with_reducible exact HBW.out | with_reducible refine Below.setCell ?_ (by first | omega | (simp <;> omega)) _)
  have hsb := inB_iff.1 hi9
  obtain ⟨sv, rfl⟩ : ∃ sv : Nat, save = (sv : Int) := ⟨save.toNat, by omega⟩
  have hsv : sv ≤ (E.T j).n := by omega
  have HEQ : Hid (rtC E id (sv : Int) = 0 ∧ rtV E id (sv : Int) = (sv : Int) ∧ rtE E id (sv : Int) = rlE E j sv (E.T j).st) := by
    have e9 := rt_ok (save := (sv : Int)) HHC.out (by rw [HAP.out]; exact hi9)
    rw [HHP.out, Int.toNat_natCast, Int.toNat_natCast] at e9
    exact e9
  have HI9 : Hid (inB (sv : Int) 0 ((E.T j).n : Int) = true) := hi9
  clear hi9 HAP hsb
  go_wp2_with fail
  refine (within_any _ _ _ _).mono ?_
  rintro e w5 ⟨rfl, hw5⟩
  rw [HI9.out, hw5]
  clear hw5
  go_wp2_with fail
  refine (rolled_any E _ cap a' cap' j sv W HH0.out hj hsv HEX.out).mono ?_
  rintro e w6 ⟨va, vc, ra, rc, q, rfl, hb6, hq, P, Q, hP, hQ, hPQ, hT, hR⟩
  have HB6 : Hid (Below W.heap.size W w6) := hb6
  have HF : Hid (∀ w7, Writes (w.heap.size + 1) (w.heap.size + 2) w6 w7 → w7.heap.size = w6.heap.size → ERes2 (rtC E id (sv : Int)) (rtV E id (sv : Int)) (rtE E id (sv : Int)) w (.returned (.agg #[.int .i64 0, .int .i64 (sv : Int), .int .i64 E.nx, .int .i64 E.ck, .slice va E.p vc, .slice ra q rc])) w7) := fun w7 hw hz => by
    have h1 := HS1.out
    rw [HEQ.out.1, HEQ.out.2.1, HEQ.out.2.2]
    subst hq
    refine ⟨va, vc, ra, rc, rfl, Writes.below (below_then HBW.out hb6) hw (by omega), Nat.le_refl _, P, Q, fun x hx => by have := hP x hx; omega, fun x hx => by have := hQ x hx; omega, hPQ, ?_, ?_⟩
    · exact OwnTxP.keep hT hw.size fun x hx hl => hw.block x hl (by have := hP x hx; omega)
    · exact OwnRwP.keep hR hw.size fun x hx hl => hw.block x hl (by have := hQ x hx; omega)
  obtain ⟨r0, r1, r2, r3, r4, r5⟩ := HR6.out.below hb6
  have rf : ∀ i, w6.frozen? ⟨w.heap.size + 1, i, none⟩ = false := fun i => ((bcell2 hb6).2 _ _ (by have := HS1.out; omega)).trans (HRF.out i)
  clear hb6 hq hP hQ hPQ hT hR b0 b1 b2 b3 e0 e1 e2 e3 e4
  go_wp2_with fail
  refine bodyPost_ret (v := .agg #[.int .i64 0, .int .i64 (sv : Int), .int .i64 E.nx, .int .i64 E.ck, .slice va E.p vc, .slice ra q rc]) (by simp [results, Tryz.results17, go_sem, *]) rfl ?_
  refine HF.out _ ?_ (by simp [World.setCell])
  repeat (first | with_reducible exact Writes.refl _ _ _ | with_reducible refine Writes.setCell ?_ (by first | omega | (simp <;> omega)) (by first | omega | (simp <;> omega)) _)
end Go.Proofs.YtabkgncnanlapaaGreat
