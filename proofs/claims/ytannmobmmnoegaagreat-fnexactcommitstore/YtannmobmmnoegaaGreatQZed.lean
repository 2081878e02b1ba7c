/- spec.l1Rise of any slice without numbers, and of numbers below the one that is put in. -/
import Derived.Test.YtannmobmmnoegaaGreatQZef
namespace Go.Proofs.YtannmobmmnoegaaGreat
open Go.RowKit Go.Deep
set_option linter.unusedVariables false
set_option maxRecDepth 20000
set_option maxHeartbeats 4000000 in
theorem l1Rise_zero (ad : Option Addr) (cp : Nat) (z : Nat → Int) (v : Int) (w : World) :
    Calls Tryz.prog 34 #[.slice ad 0 cp, .int .i64 v] w fun e w' => ∃ u, e = .returned u ∧ Below w.heap.size w w' ∧ w'.ownsRow w.heap.size 2 1 u (ri [] v).length (il (ri [] v)) := by
  have HR : Hid (ri [] v = zLn z 0 ++ [v] ++ zLn z 0) := by show ri [] v = _; simp [ri, zLn]
  have hc0 : (0 : Int) ≤ (cp : Int) := by omega
  go_enter Tryz.func34, Tryz.ntmps34
  go_wp2_with fail
  go_loop [5] (fun i => i = .int .i64 0) (fun i => 0)
  case atStart => rfl
  case round =>
    subst hrel
    go_upto_region 6 with fail
    have HX1 : Hid (∀ (u : World) (a : Option Addr), IntsAt u a 0 z) := fun _ _ => .inl rfl
    have RA := rise_at w v
    have HL1 : Hid (([] : List Int).length + 0 ≤ 100000) := by show ([] : List Int).length + 0 ≤ 100000; simp
    have HL2 : Hid ((zLn z 0).length ≤ 100000) := by show (zLn z 0).length ≤ 100000; rw [zLn_len]; omega
    have HL3 : Hid ((zLn z 0 ++ [v]).length + 0 ≤ 100000) := by show (zLn z 0 ++ [v]).length + 0 ≤ 100000; simp [zLn_len]
    go_region_law (first
      | (refine step_appN (w.alloc (.cells #[] 2)).drew rfl (.tmp 33) (.tmp 36) rfl w.heap.size (.slice (some ⟨w.heap.size, 0, none⟩) 0 0) [] rfl RA.1.1 _ 0 _ z rfl (HX1.out _ _) HL1.out RA.1.2.size ?_; intro v6 w6 ho6 hg6; have FA := rise_one RA.1.2 (Nat.le_refl _) hg6; have O6 := row_nil ho6; clear hg6 ho6)
      | (refine step_appN ((w.alloc (.cells #[] 2)).alloc (.cells #[.int .i64 v] 2)).drew rfl (.tmp 33) (.tmp 36) rfl w.heap.size (.slice (some ⟨w.heap.size, 0, none⟩) 0 0) [] rfl RA.2.1.1 _ 0 _ z rfl (HX1.out _ _) HL1.out RA.2.1.2.1.size ?_; intro v6 w6 ho6 hg6; have FB := rise_one RA.2.1.2.1 (Nat.le_refl _) hg6; have O6 := row_nil ho6; clear hg6 ho6)
      | (refine step_appN ((w.alloc (.cells #[.int .i64 v] 2)).alloc (.cells #[] 2)).drew rfl (.tmp 33) (.tmp 36) rfl w.heap.size (.slice (some ⟨w.heap.size + 1, 0, none⟩) 0 0) [] rfl RA.2.2.1 _ 0 _ z rfl (HX1.out _ _) HL1.out RA.2.2.2.1.size ?_; intro v6 w6 ho6 hg6; have FC := rise_one (p := w.heap.size + 1) RA.2.2.2.1 (Nat.le_succ _) hg6; have O6 := row_nil ho6; clear hg6 ho6)
      | (refine step_appI (w6.alloc (.cells #[.int .i64 v] 2)) rfl (.tmp 37) (.tmp 39) rfl w.heap.size v6 (zLn z 0) rfl (own_belowI O6 (below_new _ _)) w6.heap.size 0 1 v rfl (by simp [go_sem]) (by have := FA.1.size; simp; omega) HL2.out ?_; intro v9 w9 ho9 hg9; have B9 := rise_two (below_then FA.1 (below_new _ _)) (own_belowI O6 (below_new _ _)) hg9; clear hg9)
      | (refine step_appI w6 rfl (.tmp 37) (.tmp 39) rfl w.heap.size v6 (zLn z 0) rfl O6 (w.heap.size + 1) 0 1 v rfl (FB.2 _ _ (by omega) RA.2.1.2.2) FB.1.size HL2.out ?_; intro v9 w9 ho9 hg9; have B9 := rise_two FB.1 O6 hg9; clear hg9)
      | (refine step_appI w6 rfl (.tmp 37) (.tmp 39) rfl w.heap.size v6 (zLn z 0) rfl O6 w.heap.size 0 1 v rfl (FC.2 _ _ (by omega) RA.2.2.2.2) FC.1.size HL2.out ?_; intro v9 w9 ho9 hg9; have B9 := rise_two FC.1 O6 hg9; clear hg9)
      | (refine step_appN w9 rfl (.tmp 40) (.tmp 43) rfl w.heap.size v9 (zLn z 0 ++ [v]) rfl ho9 _ 0 _ z rfl (HX1.out _ _) HL3.out B9.size ?_; intro v12 w12 ho12 hg12; have B12 := rise_two B9 ho9 hg12; clear hg12)
      | fail)
    all_goals go_wp2_with fail
    all_goals go_ret
    all_goals exact ⟨_, rfl, B12, by rw [HR.out]; exact ho12⟩
/-- A list of numbers and one more at its end. -/
def apI (z : Nat → Int) (n : Nat) (v : Int) (i : Nat) : Int := if i < n then z i else v
theorem apI_il (z : Nat → Int) (n : Nat) (v : Int) : il (zLn z n ++ [v]) = ivs (apI z n v) (n + 1) := by
  have e : zLn z n ++ [v] = (List.range (n + 1)).map (apI z n v) := by
    rw [List.range_succ, List.map_append, zLn]
    congr 1
    · refine List.map_congr_left fun i hi => ?_
      have : i < n := List.mem_range.1 hi
      simp [apI, this]
    · simp [apI]
  rw [e]
  simp [il, ivs]
theorem l1Rise_last (n : Nat) (z : Nat → Int) (a : Option Addr) (c : Nat) (v : Int) (w : World) (hn : n ≤ 90000) (hc : n ≤ c) (h : IntsAt w a n z) (hlt : ∀ i, i < n → z i < v) :
    Calls Tryz.prog 34 #[.slice a n c, .int .i64 v] w fun e w' => ∃ u, e = .returned u ∧ Below w.heap.size w w' ∧ w'.ownsRow w.heap.size 2 1 u (n + 1) (ivs (apI z n v) (n + 1)) := by
  have hl : ∀ x ∈ zLn z n, x < v := fun x hx => by
    obtain ⟨i, hi, rfl⟩ := List.mem_map.1 hx
    exact hlt i (List.mem_range.1 hi)
  have hr := ri_last (zLn z n) v hl
  rcases h with h0 | ⟨b, off, rfl, hb, hcc⟩
  · subst h0
    refine (l1Rise_zero a c z v w).mono ?_
    rintro e w' ⟨u, rfl, hb2, ho2⟩
    refine ⟨u, rfl, hb2, ?_⟩
    have e0 : ri [] v = zLn z 0 ++ [v] := by simp [ri, zLn]
    rw [e0, apI_il] at ho2
    simpa [zLn] using ho2
  · refine (l1Rise_some n b off c z v w hn hc hb hcc).mono ?_
    rintro e w' (⟨rfl, rfl, he⟩ | ⟨u, rfl, hb2, ho2⟩)
    · rw [hr] at he
      have := congrArg List.length he
      simp at this
    · rw [hr, apI_il] at ho2
      refine ⟨u, rfl, hb2, ?_⟩
      simpa [zLn_len] using ho2
end Go.Proofs.YtannmobmmnoegaaGreat
