/- spec.OpenTxns. -/
import Derived.Test.YtnhlcadipkmhhaaGreatQOa
namespace Go.Proofs.YtnhlcadipkmhhaaGreat
open Go.RowKit Go.Deep
set_option linter.unusedVariables false
set_option maxRecDepth 20000

/-- The list under way: the argument's box, the answer's, the list's box B. -/
structure OtI (w wr : World) (B : Nat) (a : Option Addr) (cap : Nat) (a' : Option Addr) (cap' : Nat) (E : En) (v : Value) (zs : List Int) : Prop where
  below : Below w.heap.size w wr
  hB : w.heap.size + 2 ≤ B
  hsz : B + 1 ≤ wr.heap.size
  e : Box4 wr w.heap.size (.int .i64 E.nx) (.int .i64 E.ck) (.slice a E.p cap) (.slice a' E.q cap')
  r : Box2 wr (w.heap.size + 1) (.int .i64 0) (.slice none 0 0)
  rf : ∀ o, wr.frozen? ⟨w.heap.size + 1, o, none⟩ = false
  b : Box2 wr B (.int .i64 0) v
  bf : ∀ o, wr.frozen? ⟨B, o, none⟩ = false
  own : wr.ownsRow (B + 1) 2 1 v zs.length (il zs)
theorem OtI.mono {w wr w2 : World} {B : Nat} {a : Option Addr} {cap : Nat} {a' : Option Addr} {cap' : Nat} {E : En} {v : Value} {zs : List Int} (h : OtI w wr B a cap a' cap' E v zs) (hb : Below wr.heap.size wr w2) : OtI w w2 B a cap a' cap' E v zs := by
  have h1 := h.hB
  have h2 := h.hsz
  exact ⟨below_then h.below hb, h1, Nat.le_trans h2 hb.size, h.e.below hb, h.r.below hb, fun o => ((bcell2 hb).2 _ _ (by omega)).trans (h.rf o), h.b.below hb, fun o => ((bcell2 hb).2 _ _ (by omega)).trans (h.bf o), own_belowI h.own hb⟩
theorem OtI.app {w wr w' : World} {B : Nat} {a : Option Addr} {cap : Nat} {a' : Option Addr} {cap' : Nat} {E : En} {v v2 : Value} {zs ys : List Int} (h : OtI w wr B a cap a' cap' E v zs) (hg : wr.grownBy w' v.ownBlock) (ho : w'.ownsRow (B + 1) 2 1 v2 ys.length (il ys)) :
    OtI w (w'.setCell ⟨B, 1, none⟩ v2) B a cap a' cap' E v2 ys ∧ w'.cell? ⟨B, 1, none⟩ = some v ∧ (∀ o, w'.frozen? ⟨B, o, none⟩ = false) := by
  have h1 := h.hB
  have h2 := h.hsz
  have hw : Writes (B + 1) wr.heap.size wr w' := ⟨hg.os, hg.tape, hg.output, hg.size, fun k hk hd => hg.block k hk fun e => by have := (h.own.lt k e.symm).1; omega⟩
  have hf : ∀ b o, b < B + 1 → w'.frozen? ⟨b, o, none⟩ = wr.frozen? ⟨b, o, none⟩ := fun b o hb => World.frozen?_of_block (w := wr) (a := ⟨b, o, none⟩) (hw.block b (by omega) (by omega))
  have hs : Writes B (B + 1) w' (w'.setCell ⟨B, 1, none⟩ v2) := Writes.setCell (Writes.refl _ _ _) (p := ⟨B, 1, none⟩) (Nat.le_refl _) (Nat.lt_succ_self _) _
  obtain ⟨c0, c1⟩ := h.b.writes hw (by omega)
  refine ⟨⟨Writes.below (Writes.below h.below hw (by omega)) hs (by omega), h1, by have := hw.size; have := hs.size; omega, (h.e.writes hw (by omega)).writes hs (by omega), (h.r.writes hw (by omega)).writes hs (by omega), fun o => by rw [World.frozen?_setCell, hf _ _ (by omega)]; exact h.rf o, ⟨(setO (by omega)).trans c0, setS c1⟩, fun o => by rw [World.frozen?_setCell, hf _ _ (by omega)]; exact h.bf o, ?_⟩, c1, fun o => (hf _ _ (by omega)).trans (h.bf o)⟩
  obtain ⟨k1, k2 | ⟨g, gc, cur, rfl, m1, m2, m3⟩⟩ := ho
  · exact ⟨k1, .inl k2⟩
  · exact ⟨k1, .inr ⟨g, gc, cur, rfl, m1, (hs.block g (Array.getElem?_eq_some_iff.1 m2).1 (by omega)).trans m2, m3⟩⟩
theorem row1_slice {w : World} {base n : Nat} {v : Value} {xs : List Value} (h : w.ownsRow base 2 1 v n xs) : ∃ a cap, v = .slice a n cap := by
  rcases h.2 with ⟨rfl, h0⟩ | ⟨g, cap, cur, rfl, _⟩
  · exact ⟨none, 0, by rw [h0]⟩
  · exact ⟨_, cap, rfl⟩
set_option maxHeartbeats 16000000 in
theorem specOt_any (E : En) (a : Option Addr) (cap : Nat) (a' : Option Addr) (cap' : Nat) (w : World) (hs : SmallE E) (h : EngAt w a a' E) :
    Calls Tryz.prog 29 #[.agg #[.int .i64 E.nx, .int .i64 E.ck, .slice a E.p cap, .slice a' E.q cap']] w (IRes (eF E) (otL E.T E.p) w) := by
  have HX : Hid (EngAt w a a' E) := h
  have HS : Hid (SmallE E) := hs
  clear h hs
  have HBX : Hid (∀ o1 o2 : Obj, o1 = .cells #[.int .i64 E.nx, .int .i64 E.ck, .slice a E.p cap, .slice a' E.q cap'] 31 → o2 = .cells #[.int .i64 0, .slice none 0 0] 55 →
      Box4 ((w.alloc o1).alloc o2) w.heap.size (.int .i64 E.nx) (.int .i64 E.ck) (.slice a E.p cap) (.slice a' E.q cap') ∧ Box2 ((w.alloc o1).alloc o2) (w.heap.size + 1) (.int .i64 0) (.slice none 0 0) ∧ (∀ i, ((w.alloc o1).alloc o2).frozen? ⟨w.heap.size + 1, i, none⟩ = false) ∧ Below w.heap.size w ((w.alloc o1).alloc o2) ∧ ((w.alloc o1).alloc o2).heap.size = w.heap.size + 2) := by
    rintro o1 o2 rfl rfl
    exact ⟨(Box4.new w _ _ _ _ _).alloc _, by simp [Box2, go_sem], fun i => by simp [go_sem], ((Below.refl _ _).alloc (Nat.le_refl _) _).alloc (by simp) _, by simp⟩
  go_enter Tryz.func29, Tryz.ntmps29
  go_wp2_with fail
  obtain ⟨hb4, hb2, hbf, hbw, hbs⟩ := HBX.out _ _ rfl rfl
  refine (l6Fault_any E w.heap.size a cap a' cap' _ HS.out ⟨hb4, HX.out.below hbw⟩).mono ?_
  rintro e w1 ⟨rfl, hb1⟩
  have B4 := hb4.below hb1
  have B2 := hb2.below hb1
  have rf : ∀ i, w1.frozen? ⟨w.heap.size + 1, i, none⟩ = false := fun i => ((bcell2 hb1).2 _ _ (by rw [hbs]; omega)).trans (hbf i)
  have HBW : Hid (Below w.heap.size w w1) := below_then hbw hb1
  have hs1 : w.heap.size + 2 ≤ w1.heap.size := by have := hb1.size; rw [hbs] at this; exact this
  clear hb1 hb4 hb2 hbf hbw hbs HBX
  by_cases hc : eF E = 0
  case neg =>
    obtain ⟨r0, r1⟩ := B2
    have hc2 : (eF E != 0) = true := by simp [hc]
    have HF : Hid (∀ w7, Below w.heap.size w w7 → IRes (eF E) (otL E.T E.p) w (.returned (.agg #[.int .i64 (eF E), .slice none 0 0])) w7) := fun w7 hb => ires_bad hb hc
    clear hc B4
    generalize eF E = uu at *
    go_wp2_with fail
    refine bodyPost_ret (v := .agg #[.int .i64 uu, .slice none 0 0]) (by simp [results, Tryz.results29, go_sem, *]) rfl ?_
    refine HF.out _ ?_
    repeat (first | with_reducible exact HBW.out | with_reducible refine Below.setCell ?_ (by first | omega | (simp <;> omega)) _)
  have hp20 := (eF_p hc).1
  have HC0 : Hid (eF E = 0) := hc
  have HI : Hid (∀ o : Obj, o = .cells #[.int .i64 0, .slice none 0 0] 55 → OtI w (w1.alloc o) w1.heap.size a cap a' cap' E (.slice none 0 0) []) := by
    rintro o rfl
    exact ⟨below_then HBW.out (below_new _ _), hs1, by simp, B4.alloc _, B2.alloc _, fun i => ((bcell2 (below_new w1 _)).2 _ _ (by omega)).trans (rf i), Box2.new _ _ _ _, fun i => by simp [go_sem], World.ownsRow_nil _ _ _ _⟩
  rw [hc]
  clear hc B4 B2 rf
  go_wp2_with fail
  go_loopw [5] (fun i wr => ∃ k : Nat, ∃ v, k ≤ E.p ∧ i = .int .i64 k ∧ Hid (OtI w wr w1.heap.size a cap a' cap' E v (otL E.T k))) (fun i _ => E.p - (intOf i).toNat)
  case atStart => exact ⟨0, _, Nat.zero_le _, rfl, HI.out _ rfl⟩
  case round =>
    obtain ⟨k, v, hk, rfl, HO⟩ := hrel
    obtain ⟨f0, f1, f2, f3⟩ := HO.out.e
    by_cases hlt : k < E.p
    · have hlt' : (k : Int) < (E.p : Int) := by omega
      have hk0 : (0 : Int) ≤ (k : Int) := by omega
      rcases HX.out.1.below HO.out.below with h | ⟨bb, off, rfl, hl, hcc⟩
      · omega
      obtain ⟨ti, tc, ⟨x0, x1, x2, x3, x4⟩, -, -⟩ := hcc k hlt
      have HLK : Hid ((otL E.T k).length ≤ 100000) := by have := otL_len E.T k; show _ ≤ _; omega
      clear hcc f0 f1 f3 x1 x3 x4 HI
      by_cases hst : (E.T k).st = 1
      · have HE1 : Hid (otL E.T (k + 1) = otL E.T k ++ [(E.T k).id]) := if_pos hst
        have hst2 : ((E.T k).st == 1) = true := by simp [hst]
        have c1 := HO.out.b.2
        have hsz := HO.out.hsz
        have HOA : Hid (∀ o1 : Obj, OtI w (wr.drew.alloc o1) w1.heap.size (some ⟨bb, off, none⟩) cap a' cap' E v (otL E.T k)) := fun o1 => (HO.out.mono ((Below.refl _ _).drew)).mono (below_new _ _)
        have d1 := fun o : Obj => cell_alloc c1 o
        have d2 := fun o : Obj => cell_alloc f2 o
        have HDZ : Hid (wr.drew.heap.size = wr.heap.size) := by simp [Hid]
        have HLT : Hid (k < E.p) := hlt
        clear hst HO
        go_wp2_with fail
        go_region_law (first | (refine step_appI _ rfl (.tmp 27) (.tmp 34) rfl (w1.heap.size + 1) v (otL E.T k) rfl (HOA.out _).own wr.heap.size 0 1 (E.T k).id rfl (by simp [go_sem]) (by simp; omega) HLK.out ?_; intro v2 w3 ho3 hg3; obtain ⟨va2, vc2, rfl⟩ := row1_slice ho3; obtain ⟨hn, c2, cf⟩ := OtI.app (HOA.out _) hg3 ho3; have HN : Hid (OtI w (w3.setCell ⟨w1.heap.size, 1, none⟩ (.slice va2 (otL E.T k ++ [(E.T k).id]).length vc2)) w1.heap.size (some ⟨bb, off, none⟩) cap a' cap' E (.slice va2 (otL E.T k ++ [(E.T k).id]).length vc2) (otL E.T k ++ [(E.T k).id])) := hn; clear hn ho3 hg3))
        all_goals
          go_wp2_with fail
          go_roundw
          case rel => exact ⟨k + 1, _, HLT.out, by go_num, by rw [HE1.out]; first | exact HN | (have h := HN.out; simp only [List.length_append, List.length_cons, List.length_nil, Nat.zero_add] at h; exact h)⟩
          case measure => simp [intOf]; omega
      · have e1 : otL E.T (k + 1) = otL E.T k := if_neg hst
        have hst2 : ((E.T k).st == 1) = false := by simp [hst]
        clear hst
        go_wp2_with fail
        go_roundw
        case rel => exact ⟨k + 1, v, hlt, by go_num, by rw [e1]; exact HO⟩
        case measure => simp [intOf]; omega
    · have hkn : k = E.p := by omega
      have hnl : ¬ ((k : Int) < (E.p : Int)) := by omega
      obtain ⟨va, vc, rfl, -⟩ := ownI_of_row HO.out.own
      have hhB := HO.out.hB
      have HF : Hid (∀ w7, Writes (w.heap.size + 1) (w.heap.size + 2) wr w7 → w7.heap.size = wr.heap.size → IRes (eF E) (otL E.T E.p) w (.returned (.agg #[.int .i64 0, .slice va (otL E.T k).length vc])) w7) := fun w7 hw hs7 => by
        have hO := HO.out
        rw [hkn] at hO ⊢
        exact ires_ok HC0.out hO.below (by omega) (by omega) (by omega) hO.own hw hs7
      obtain ⟨r0, r1⟩ := HO.out.r
      obtain ⟨g0, g1⟩ := HO.out.b
      have rf := HO.out.rf
      clear HO hkn HI
      generalize (otL E.T k).length = len at *
      go_wp2_with fail
      refine bodyPost_ret (v := .agg #[.int .i64 0, .slice va len vc]) (by simp [results, Tryz.results29, go_sem, *]) rfl ?_
      refine HF.out _ ?_ (by simp [World.setCell])
      repeat (first | with_reducible exact Writes.refl _ _ _ | with_reducible refine Writes.setCell ?_ (by first | omega | (simp <;> omega)) (by first | omega | (simp <;> omega)) _)
end Go.Proofs.YtnhlcadipkmhhaaGreat
