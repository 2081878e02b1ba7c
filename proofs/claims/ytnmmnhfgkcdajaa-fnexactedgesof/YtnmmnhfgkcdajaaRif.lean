/- spec.l1Rise of a row of one's own, nil too. -/
import Derived.Test.YtnmmnhfgkcdajaaRie
namespace Go.Proofs.Ytnmmnhfgkcdajaa
open Go.RowKit Go.Deep
set_option linter.unusedVariables false
set_option maxRecDepth 20000
set_option maxHeartbeats 4000000 in
theorem l1Rise_nil (z : Nat → Int) (v : Int) (w : World) :
    Calls Try.prog 42 #[.slice none 0 0, .int .i64 v] w fun e w' => ∃ u, e = .returned u ∧ Below w.heap.size w w' ∧ w'.ownsRow w.heap.size 2 1 u (ri [] v).length (il (ri [] v)) := by
  have HR : Hid (ri [] v = zL z 0 ++ [v] ++ zL z 0) := by show ri [] v = _; simp [ri, zL]
  go_enter Try.func42, Try.ntmps42
  go_wp2_with fail
  go_loop [5] (fun i => i = .int .i64 0) (fun i => 0)
  case atStart => rfl
  case round =>
    subst hrel
    go_upto_region 6 with fail
    have HX1 : Hid (IntsAt w none 0 z) := .inl rfl
    have RA := rise_at w v
    have HL1 : Hid (([] : List Int).length + 0 ≤ 100000) := by show ([] : List Int).length + 0 ≤ 100000; simp
    have HL2 : Hid ((zL z 0).length ≤ 100000) := by show (zL z 0).length ≤ 100000; rw [zL_len]; omega
    have HL3 : Hid ((zL z 0 ++ [v]).length + 0 ≤ 100000) := by show (zL z 0 ++ [v]).length + 0 ≤ 100000; simp [zL_len]
    go_region_law (first
      | (refine step_appN (w.alloc (.cells #[] 2)).drew rfl (.tmp 33) (.tmp 36) rfl w.heap.size (.slice (some ⟨w.heap.size, 0, none⟩) 0 0) [] rfl RA.1.1 none 0 0 z rfl (HX1.out.below RA.1.2) HL1.out RA.1.2.size ?_; intro v6 w6 ho6 hg6; have FA := rise_one RA.1.2 (Nat.le_refl _) hg6; have O6 := row_nil ho6; clear hg6 ho6)
      | (refine step_appN ((w.alloc (.cells #[] 2)).alloc (.cells #[.int .i64 v] 2)).drew rfl (.tmp 33) (.tmp 36) rfl w.heap.size (.slice (some ⟨w.heap.size, 0, none⟩) 0 0) [] rfl RA.2.1.1 none 0 0 z rfl (HX1.out.below RA.2.1.2.1) HL1.out RA.2.1.2.1.size ?_; intro v6 w6 ho6 hg6; have FB := rise_one RA.2.1.2.1 (Nat.le_refl _) hg6; have O6 := row_nil ho6; clear hg6 ho6)
      | (refine step_appN ((w.alloc (.cells #[.int .i64 v] 2)).alloc (.cells #[] 2)).drew rfl (.tmp 33) (.tmp 36) rfl w.heap.size (.slice (some ⟨w.heap.size + 1, 0, none⟩) 0 0) [] rfl RA.2.2.1 none 0 0 z rfl (HX1.out.below RA.2.2.2.1) HL1.out RA.2.2.2.1.size ?_; intro v6 w6 ho6 hg6; have FC := rise_one (p := w.heap.size + 1) RA.2.2.2.1 (Nat.le_succ _) hg6; have O6 := row_nil ho6; clear hg6 ho6)
      | (refine step_appI (w6.alloc (.cells #[.int .i64 v] 2)) rfl (.tmp 37) (.tmp 39) rfl w.heap.size v6 (zL z 0) rfl (own_belowI O6 (below_new _ _)) w6.heap.size 0 1 v rfl (by simp [go_sem]) (by have := FA.1.size; simp; omega) HL2.out ?_; intro v9 w9 ho9 hg9; have B9 := rise_two (below_then FA.1 (below_new _ _)) (own_belowI O6 (below_new _ _)) hg9; clear hg9)
      | (refine step_appI w6 rfl (.tmp 37) (.tmp 39) rfl w.heap.size v6 (zL z 0) rfl O6 (w.heap.size + 1) 0 1 v rfl (FB.2 _ _ (by omega) RA.2.1.2.2) FB.1.size HL2.out ?_; intro v9 w9 ho9 hg9; have B9 := rise_two FB.1 O6 hg9; clear hg9)
      | (refine step_appI w6 rfl (.tmp 37) (.tmp 39) rfl w.heap.size v6 (zL z 0) rfl O6 w.heap.size 0 1 v rfl (FC.2 _ _ (by omega) RA.2.2.2.2) FC.1.size HL2.out ?_; intro v9 w9 ho9 hg9; have B9 := rise_two FC.1 O6 hg9; clear hg9)
      | (refine step_appN w9 rfl (.tmp 40) (.tmp 43) rfl w.heap.size v9 (zL z 0 ++ [v]) rfl ho9 none 0 0 z rfl (HX1.out.below B9) HL3.out B9.size ?_; intro v12 w12 ho12 hg12; have B12 := rise_two B9 ho9 hg12; clear hg12)
      | fail)
    all_goals go_wp2_with fail
    all_goals go_ret
    all_goals exact ⟨_, rfl, B12, by rw [HR.out]; exact ho12⟩

theorem l1Rise_own (zs : List Int) (v : Int) (x : Value) (base : Nat) (w : World) (hb : base ≤ w.heap.size) (hl : zs.length ≤ 90000) (ho : w.ownsRow base 2 1 x zs.length (il zs)) :
    Calls Try.prog 42 #[x, .int .i64 v] w fun e w' => ∃ u, e = .returned u ∧ Below w.heap.size w w' ∧ w'.ownsRow base 2 1 u (ri zs v).length (il (ri zs v)) := by
  have hx := ho
  rcases ho.2 with ⟨rfl, h0⟩ | ⟨g, cap, cur, rfl, k1, k2, k3⟩
  · have hz : zs = [] := List.length_eq_zero_iff.1 h0
    subst hz
    refine (l1Rise_nil (fun _ => 0) v w).mono ?_
    rintro e w' ⟨u, rfl, hb2, ho2⟩
    exact ⟨_, rfl, hb2, own_downI ho2 hb⟩
  · obtain ⟨a, c, e1, hown⟩ := ownI_of_row ho
    have hc := own_capN ho
    simp only [Value.slice.injEq] at e1
    obtain ⟨rfl, -, rfl⟩ := e1
    have hg : g < w.heap.size := (Array.getElem?_eq_some_iff.1 k2).1
    have hcell : ∀ i, i < zs.length → w.cell? ⟨g, 0 + i, none⟩ = some (.int .i64 (zI zs i)) := by
      rcases hown.2 with h0 | ⟨b, off, e2, h1, h2, h3, -⟩
      · intro i hi; omega
      · simp only [Option.some.injEq, Addr.mk.injEq, and_true] at e2
        obtain ⟨rfl, rfl⟩ := e2
        exact h3
    refine (l1Rise_some zs.length g 0 cap (zI zs) v w hl hc hg hcell).mono ?_
    rintro e w' (⟨rfl, rfl, he⟩ | ⟨u, rfl, hb2, ho2⟩)
    · rw [zL_zI] at he ⊢
      exact ⟨_, rfl, Below.refl _ _, by rw [he]; exact hx⟩
    · rw [zL_zI] at ho2
      exact ⟨_, rfl, hb2, own_downI ho2 hb⟩
end Go.Proofs.Ytnmmnhfgkcdajaa
