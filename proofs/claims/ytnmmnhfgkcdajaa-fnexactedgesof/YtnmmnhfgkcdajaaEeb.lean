/- EdgesOf: the model's side. -/
import Derived.Test.YtnmmnhfgkcdajaaEdk
import Derived.Test.YtnmmnhfgkcdajaaEea
namespace Go.Proofs.Ytnmmnhfgkcdajaa
open Go.RowKit Go.Deep
set_option linter.unusedVariables false
set_option maxRecDepth 20000

set_option maxHeartbeats 4000000 in
theorem specEg_any (M : Nat) (hM : M = 32) (n : Nat) (R : Nat → Hp) (a : Option Addr) (w : World) (hn : n ≤ 1048576) (h : HopsAt w a n R) :
    Calls Try.prog 23 #[.slice a n n] w (GRes (hsC R n) (addAll [] (eI R n (cmL R n) M)) w) := by
  have HX : Hid (HopsAt w a n R) := h
  clear h
  go_enter Try.func23, Try.ntmps23
  go_wp2_with fail
  refine (specHf_any n R a _ hn (HX.out.below (below_new _ _))).mono ?_
  rintro e w1 ⟨rfl, hb1⟩
  have B2 := (Box2.new w (.int .i64 0) (.slice none 0 0) 42).below hb1
  have rf : ∀ i, w1.frozen? ⟨w.heap.size, i, none⟩ = false := fun i => ((bcell hb1).2 _ _ (by simp)).trans (by simp [go_sem])
  have HBW : Hid (Below w.heap.size w w1) := below_then (below_new _ _) hb1
  have hs1 : w.heap.size + 1 ≤ w1.heap.size := by have := hb1.size; rw [World.size_alloc] at this; exact this
  clear hb1
  obtain ⟨r0, r1⟩ := B2
  by_cases hc : hsC R n = 0
  case neg =>
    have hc2 : (hsC R n != 0) = true := by simp [hc]
    have HF : Hid (∀ w7, Below w.heap.size w w7 → GRes (hsC R n) (addAll [] (eI R n (cmL R n) M)) w (.returned (.agg #[.int .i64 (hsC R n), .slice none 0 0])) w7) := fun w7 hb => gres_bad hb hc
    clear hc
    generalize hsC R n = uu at *
    go_wp2_with fail
    refine bodyPost_ret (v := .agg #[.int .i64 uu, .slice none 0 0]) (by simp [results, Try.results23, go_sem, *]) rfl ?_
    refine HF.out _ ?_
    repeat (first | with_reducible exact HBW.out | with_reducible refine Below.setCell ?_ (by first | omega | (simp <;> omega)) _)
  have hn4 := hs_few hc
  have hhi : hiF R n = 0 := by rw [← hsC_few hn4]; exact hc
  have HC0 : Hid (hsC R n = 0) := hc
  have HED := l11Edges_l M hM n R _ rfl a n w1 hn4 hhi (HX.out.below HBW.out)
  rw [hc]
  clear hc hhi hM
  generalize addAll [] (eI R n (cmL R n) M) = L at *
  go_wp2_with fail
  refine HED.mono ?_
  clear HED
  rintro e w2 ⟨v, rfl, hb2, ho2⟩
  obtain ⟨ea, ec, rfl⟩ := rowE_slice ho2
  have HF : Hid (∀ w7, Writes w.heap.size (w.heap.size + 1) w2 w7 → w7.heap.size = w2.heap.size → GRes (hsC R n) L w (.returned (.agg #[.int .i64 0, .slice ea L.length ec])) w7) := fun w7 hw hs7 => by
    exact gres_ok HC0.out (below_then HBW.out hb2) (Nat.le_refl _) (by omega) hs1 ho2 hw hs7
  replace rf : ∀ i, w2.frozen? ⟨w.heap.size, i, none⟩ = false := fun i => ((bcell hb2).2 _ _ (by omega)).trans (rf i)
  replace r0 := cell_below r0 hb2
  replace r1 := cell_below r1 hb2
  clear ho2 hb2 HBW
  generalize L.length = len at *
  go_wp2_with fail
  refine bodyPost_ret (v := .agg #[.int .i64 0, .slice ea len ec]) (by simp [results, Try.results23, go_sem, *]) rfl ?_
  refine HF.out _ ?_ ?_
  · repeat (first | with_reducible exact Writes.refl _ _ _ | with_reducible refine Writes.setCell ?_ (by first | omega | (simp <;> omega)) (by first | omega | (simp <;> omega)) _)
  · simp [World.setCell]
end Go.Proofs.Ytnmmnhfgkcdajaa
