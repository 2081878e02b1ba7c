/- impl.withCell. -/
import Derived.Test.YtnhkjdcbaphfcaaWi
import Derived.Test.YtnhkjdcbaphfcaaFnd
namespace Go.Proofs.Ytnhkjdcbaphfcaa
open Go.RowKit Go.Deep
set_option linter.unusedVariables false
set_option maxRecDepth 20000

set_option maxHeartbeats 2000000 in
theorem implWith_any (n : Nat) (K V : Nat → Int) (key val : Int) (b off cap : Nat) (w : World) (hn : n ≤ 1000) (hcap : n ≤ cap) (h : CellsAt w (some ⟨b, off, none⟩) n K V) :
    Calls Try.prog 50 #[.slice (some ⟨b, off, none⟩) n cap, .agg #[.int .i64 key, .int .i64 val]] w fun e w' =>
      ∃ v, e = .returned v ∧ Below w.heap.size w w' ∧ w'.ownsRow w.heap.size 45 2 v (wi K V key val n).length (cl (wi K V key val n)) := by
  obtain ⟨i0, hi, hz0, hz1, hz2⟩ := info_parts info99
  have HI : Hid (Try.prog.info? 45 = some i0 ∧ i0.zero = some (.agg #[.int .i64 0, .int .i64 0]) ∧ i0.size = 2 ∧ i0.bytes = 16) := ⟨hi, hz0, hz1, hz2⟩
  clear hi hz0 hz1 hz2
  have HA : Hid (CellsAt w (some ⟨b, off, none⟩) n K V) := h
  have hp := pl_le K key n
  have hrw := rows_at (HA.out.below (below_new w (.cells #[.int .i64 key, .int .i64 val] 45)))
  have HN : Hid (∀ i m o, i + m ≤ n → o = off + i * 2 → ∀ j u, (cl (lst K V i m))[j]? = some u → (w.alloc (.cells #[.int .i64 key, .int .i64 val] 45)).cell? ((⟨b, o, none⟩ : Addr).add j) = some u) := fun i m o h1 h2 => news_cells hrw.1 hrw.2 i m h1 o h2
  clear hrw h
  by_cases hh : has K key n = true
  · skip
    have hx : nx K key n = (pl K key n + 1) := by rw [nx, if_pos hh]
    have hxl := nx_le K key n
    rw [hx] at hxl
    have HW : Hid (wi K V key val n = lst K V 0 (pl K key n) ++ [(key, val)] ++ lst K V (pl K key n + 1) (n - (pl K key n + 1))) := by show wi K V key val n = _; rw [wi, hx]
    
    clear hx
    go_enter Try.func50, Try.ntmps50
    go_wp2_with fail
    refine (place_any n K V key _ cap _ (by omega) (HA.out.below (below_new _ _))).mono ?_
    rintro e w0 ⟨rfl, rfl⟩
    have hp' : (pl K key n : Int) ≤ (cap : Int) := by omega
    go_wp2_with (at_builtin; refine wpList_append_own _ rfl (.tmp 11) (.tmp 14) 25 rfl (w.heap.size + 1) 45 i0 (.agg #[.int .i64 0, .int .i64 0]) 2 16 Try.underlying25 HI.out.1 HI.out.2.1 HI.out.2.2.1 HI.out.2.2.2 rfl (by decide) _ _ _ rfl (World.ownsRow_nil _ _ _ _) ⟨b, off, none⟩ (pl K key n) cap (cl (lst K V 0 (pl K key n))) rfl ?c0 ?c1 ?c2 ?c3 ?c4 ?c5 ?_)
    case c0 => rw [cl_len, lst_len]
    case c1 => exact HN.out 0 _ off (by omega) (by omega)
    case c2 => exact cl_one _
    case c3 => unfold maxLen; omega
    case c4 => omega
    case c5 => simp
    intro v1 w1 ho1 hg1 _
    have HO1 : Hid (w1.ownsRow (w.heap.size + 1) 45 2 v1 (lst K V 0 (pl K key n)).length (cl (lst K V 0 (pl K key n)))) := by show w1.ownsRow _ _ _ _ _ _; rw [lst_len]; exact ho1
    have HB1 : Hid (Below (w.heap.size + 1) (w.alloc (.cells #[.int .i64 key, .int .i64 val] 45)) w1) := (Below.refl _ _).grown hg1 (by simp) (fun q hq => by cases hq)
    have hs1 : w.heap.size + 1 ≤ w1.heap.size := by have hq := HB1.out.size; simpa using hq
    have k0 : w1.cell? ⟨w.heap.size, 0, none⟩ = some (.int .i64 key) := by rw [HB1.out.cell (p := ⟨w.heap.size, 0, none⟩) (by simp)]; simp
    have k1 : w1.cell? ⟨w.heap.size, 1, none⟩ = some (.int .i64 val) := by rw [HB1.out.cell (p := ⟨w.heap.size, 1, none⟩) (by simp)]; simp
    have hlen : (lst K V 0 (pl K key n)).length = pl K key n := lst_len _ _ _ _
    have HL : Hid ((lst K V 0 (pl K key n)).length = pl K key n) := hlen
    clear ho1 hg1 hlen
    go_wp2_with (at_builtin; refine wpList_append_own _ rfl (.tmp 16) (.tmp 18) 25 rfl (w.heap.size + 1) 45 i0 (.agg #[.int .i64 0, .int .i64 0]) 2 16 Try.underlying25 HI.out.1 HI.out.2.1 HI.out.2.2.1 HI.out.2.2.2 rfl (by decide) _ _ _ rfl (HO1.out.alloc _) ⟨w1.heap.size, 0, none⟩ 1 1 [.int .i64 key, .int .i64 val] rfl rfl (cell_two_new _ _ _ _) ?c2 ?c3 ?c4 ?c5 ?_)
    case c2 => intro x hx; simp at hx; rcases hx with rfl | rfl <;> rfl
    case c3 => rw [HL.out]; unfold maxLen; omega
    case c4 => rw [HL.out]; omega
    case c5 => simp; omega
    intro v2 w2 ho2 hg2 _
    have HR2 : Hid _ := app_one HB1.out hs1 HO1.out ho2 hg2
    have hs2 : w.heap.size + 1 ≤ w2.heap.size := by have hq := HR2.out.2.size; simpa using hq
    have m0 : w2.cell? ⟨w.heap.size, 0, none⟩ = some (.int .i64 key) := by rw [HR2.out.2.cell (p := ⟨w.heap.size, 0, none⟩) (by simp)]; simp
    clear ho2 hg2 k0 k1 HO1 HB1
    have HB2 : Hid (Below w.heap.size w w2) := (below_new _ _).trans (HR2.out.2.mono (by omega))
    have HA2 : Hid (CellsAt w2 (some ⟨b, off, none⟩) n K V) := HA.out.below HB2.out
    go_wp2_with fail
    refine (hasCell_any n K V key _ cap _ (by omega) HA2.out).mono ?_
    rintro e w3 ⟨rfl, rfl⟩
    rw [hh]
    have hrw := rows_at HA2.out
    have HN2 : Hid (∀ i m o, i + m ≤ n → o = off + i * 2 → ∀ j u, (cl (lst K V i m))[j]? = some u → w3.cell? ((⟨b, o, none⟩ : Addr).add j) = some u) := fun i m o h1 h2 => news_cells hrw.1 hrw.2 i m h1 o h2
    have HL2 : Hid ((lst K V 0 (pl K key n) ++ [(key, val)]).length = pl K key n + 1) := by show (lst K V 0 (pl K key n) ++ [(key, val)]).length = pl K key n + 1; simp [lst_len]
    clear hrw
    have hpi : (((pl K key n + 1) : Nat) : Int) ≤ (n : Int) := by omega
    by_cases hend : cap = (pl K key n + 1)
    · have HE : Hid (cap = (pl K key n + 1)) := hend
      clear hend
      go_wp2_with (at_builtin; rw [if_pos HE.out]; refine wpList_append_own _ rfl (.tmp 26) (.tmp 29) 25 rfl (w.heap.size + 1) 45 i0 (.agg #[.int .i64 0, .int .i64 0]) 2 16 Try.underlying25 HI.out.1 HI.out.2.1 HI.out.2.2.1 HI.out.2.2.2 rfl (by decide) _ _ _ rfl HR2.out.1 ⟨b, off, none⟩ (n - (pl K key n + 1)) (cap - (pl K key n + 1)) (cl (lst K V (pl K key n + 1) (n - (pl K key n + 1)))) rfl ?c0 ?c1 ?c2 ?c3 ?c4 ?c5 ?_)
      case c0 => rw [cl_len, lst_len]
      case c1 =>
        intro j u hj
        have hlt := (List.getElem?_eq_some_iff.1 hj).1
        rw [cl_len, lst_len] at hlt
        have := HE.out
        omega
      case c2 => exact cl_one _
      case c3 => rw [HL2.out]; unfold maxLen; omega
      case c4 => rw [HL2.out]; omega
      case c5 => omega
      intro v4 w4 ho4 hg4 _
      have HR4 : Hid _ := app_list (v' := v4) (M := lst K V (pl K key n + 1) (n - (pl K key n + 1))) (m := n - (pl K key n + 1)) (lst_len _ _ _ _) HR2.out.2 hs2 HR2.out.1 (by rw [List.length_append]; exact ho4) hg4
      clear ho4 hg4
      go_wp2
      go_ret
      refine ⟨_, rfl, (below_new _ _).trans (HR4.out.2.mono (by omega)), ?_⟩
      rw [HW.out]
      exact ownsRow_down HR4.out.1 (by omega)
    · have HE : Hid (¬ cap = (pl K key n + 1)) := hend
      clear hend
      go_wp2_with (at_builtin; rw [if_neg HE.out]; refine wpList_append_own _ rfl (.tmp 26) (.tmp 29) 25 rfl (w.heap.size + 1) 45 i0 (.agg #[.int .i64 0, .int .i64 0]) 2 16 Try.underlying25 HI.out.1 HI.out.2.1 HI.out.2.2.1 HI.out.2.2.2 rfl (by decide) _ _ _ rfl HR2.out.1 ⟨b, off + (pl K key n + 1) * 2, none⟩ (n - (pl K key n + 1)) (cap - (pl K key n + 1)) (cl (lst K V (pl K key n + 1) (n - (pl K key n + 1)))) rfl ?c0 ?c1 ?c2 ?c3 ?c4 ?c5 ?_)
      case c0 => rw [cl_len, lst_len]
      case c1 => exact HN2.out _ _ _ (by omega) (by omega)
      case c2 => exact cl_one _
      case c3 => rw [HL2.out]; unfold maxLen; omega
      case c4 => rw [HL2.out]; omega
      case c5 => omega
      intro v4 w4 ho4 hg4 _
      have HR4 : Hid _ := app_list (v' := v4) (M := lst K V (pl K key n + 1) (n - (pl K key n + 1))) (m := n - (pl K key n + 1)) (lst_len _ _ _ _) HR2.out.2 hs2 HR2.out.1 (by rw [List.length_append]; exact ho4) hg4
      clear ho4 hg4
      go_wp2
      go_ret
      refine ⟨_, rfl, (below_new _ _).trans (HR4.out.2.mono (by omega)), ?_⟩
      rw [HW.out]
      exact ownsRow_down HR4.out.1 (by omega)
  · skip
    have hx : nx K key n = (pl K key n) := by rw [nx, if_neg hh]
    have hxl := nx_le K key n
    rw [hx] at hxl
    have HW : Hid (wi K V key val n = lst K V 0 (pl K key n) ++ [(key, val)] ++ lst K V (pl K key n) (n - (pl K key n))) := by show wi K V key val n = _; rw [wi, hx]
    have hh' : has K key n = false := by simpa using hh
    clear hx
    go_enter Try.func50, Try.ntmps50
    go_wp2_with fail
    refine (place_any n K V key _ cap _ (by omega) (HA.out.below (below_new _ _))).mono ?_
    rintro e w0 ⟨rfl, rfl⟩
    have hp' : (pl K key n : Int) ≤ (cap : Int) := by omega
    go_wp2_with (at_builtin; refine wpList_append_own _ rfl (.tmp 11) (.tmp 14) 25 rfl (w.heap.size + 1) 45 i0 (.agg #[.int .i64 0, .int .i64 0]) 2 16 Try.underlying25 HI.out.1 HI.out.2.1 HI.out.2.2.1 HI.out.2.2.2 rfl (by decide) _ _ _ rfl (World.ownsRow_nil _ _ _ _) ⟨b, off, none⟩ (pl K key n) cap (cl (lst K V 0 (pl K key n))) rfl ?c0 ?c1 ?c2 ?c3 ?c4 ?c5 ?_)
    case c0 => rw [cl_len, lst_len]
    case c1 => exact HN.out 0 _ off (by omega) (by omega)
    case c2 => exact cl_one _
    case c3 => unfold maxLen; omega
    case c4 => omega
    case c5 => simp
    intro v1 w1 ho1 hg1 _
    have HO1 : Hid (w1.ownsRow (w.heap.size + 1) 45 2 v1 (lst K V 0 (pl K key n)).length (cl (lst K V 0 (pl K key n)))) := by show w1.ownsRow _ _ _ _ _ _; rw [lst_len]; exact ho1
    have HB1 : Hid (Below (w.heap.size + 1) (w.alloc (.cells #[.int .i64 key, .int .i64 val] 45)) w1) := (Below.refl _ _).grown hg1 (by simp) (fun q hq => by cases hq)
    have hs1 : w.heap.size + 1 ≤ w1.heap.size := by have hq := HB1.out.size; simpa using hq
    have k0 : w1.cell? ⟨w.heap.size, 0, none⟩ = some (.int .i64 key) := by rw [HB1.out.cell (p := ⟨w.heap.size, 0, none⟩) (by simp)]; simp
    have k1 : w1.cell? ⟨w.heap.size, 1, none⟩ = some (.int .i64 val) := by rw [HB1.out.cell (p := ⟨w.heap.size, 1, none⟩) (by simp)]; simp
    have hlen : (lst K V 0 (pl K key n)).length = pl K key n := lst_len _ _ _ _
    have HL : Hid ((lst K V 0 (pl K key n)).length = pl K key n) := hlen
    clear ho1 hg1 hlen
    go_wp2_with (at_builtin; refine wpList_append_own _ rfl (.tmp 16) (.tmp 18) 25 rfl (w.heap.size + 1) 45 i0 (.agg #[.int .i64 0, .int .i64 0]) 2 16 Try.underlying25 HI.out.1 HI.out.2.1 HI.out.2.2.1 HI.out.2.2.2 rfl (by decide) _ _ _ rfl (HO1.out.alloc _) ⟨w1.heap.size, 0, none⟩ 1 1 [.int .i64 key, .int .i64 val] rfl rfl (cell_two_new _ _ _ _) ?c2 ?c3 ?c4 ?c5 ?_)
    case c2 => intro x hx; simp at hx; rcases hx with rfl | rfl <;> rfl
    case c3 => rw [HL.out]; unfold maxLen; omega
    case c4 => rw [HL.out]; omega
    case c5 => simp; omega
    intro v2 w2 ho2 hg2 _
    have HR2 : Hid _ := app_one HB1.out hs1 HO1.out ho2 hg2
    have hs2 : w.heap.size + 1 ≤ w2.heap.size := by have hq := HR2.out.2.size; simpa using hq
    have m0 : w2.cell? ⟨w.heap.size, 0, none⟩ = some (.int .i64 key) := by rw [HR2.out.2.cell (p := ⟨w.heap.size, 0, none⟩) (by simp)]; simp
    clear ho2 hg2 k0 k1 HO1 HB1
    have HB2 : Hid (Below w.heap.size w w2) := (below_new _ _).trans (HR2.out.2.mono (by omega))
    have HA2 : Hid (CellsAt w2 (some ⟨b, off, none⟩) n K V) := HA.out.below HB2.out
    go_wp2_with fail
    refine (hasCell_any n K V key _ cap _ (by omega) HA2.out).mono ?_
    rintro e w3 ⟨rfl, rfl⟩
    rw [hh']
    have hrw := rows_at HA2.out
    have HN2 : Hid (∀ i m o, i + m ≤ n → o = off + i * 2 → ∀ j u, (cl (lst K V i m))[j]? = some u → w3.cell? ((⟨b, o, none⟩ : Addr).add j) = some u) := fun i m o h1 h2 => news_cells hrw.1 hrw.2 i m h1 o h2
    have HL2 : Hid ((lst K V 0 (pl K key n) ++ [(key, val)]).length = pl K key n + 1) := by show (lst K V 0 (pl K key n) ++ [(key, val)]).length = pl K key n + 1; simp [lst_len]
    clear hrw
    have hpi : (((pl K key n) : Nat) : Int) ≤ (n : Int) := by omega
    by_cases hend : cap = (pl K key n)
    · have HE : Hid (cap = (pl K key n)) := hend
      clear hend
      go_wp2_with (at_builtin; rw [if_pos HE.out]; refine wpList_append_own _ rfl (.tmp 26) (.tmp 29) 25 rfl (w.heap.size + 1) 45 i0 (.agg #[.int .i64 0, .int .i64 0]) 2 16 Try.underlying25 HI.out.1 HI.out.2.1 HI.out.2.2.1 HI.out.2.2.2 rfl (by decide) _ _ _ rfl HR2.out.1 ⟨b, off, none⟩ (n - (pl K key n)) (cap - (pl K key n)) (cl (lst K V (pl K key n) (n - (pl K key n)))) rfl ?c0 ?c1 ?c2 ?c3 ?c4 ?c5 ?_)
      case c0 => rw [cl_len, lst_len]
      case c1 =>
        intro j u hj
        have hlt := (List.getElem?_eq_some_iff.1 hj).1
        rw [cl_len, lst_len] at hlt
        have := HE.out
        omega
      case c2 => exact cl_one _
      case c3 => rw [HL2.out]; unfold maxLen; omega
      case c4 => rw [HL2.out]; omega
      case c5 => omega
      intro v4 w4 ho4 hg4 _
      have HR4 : Hid _ := app_list (v' := v4) (M := lst K V (pl K key n) (n - (pl K key n))) (m := n - (pl K key n)) (lst_len _ _ _ _) HR2.out.2 hs2 HR2.out.1 (by rw [List.length_append]; exact ho4) hg4
      clear ho4 hg4
      go_wp2
      go_ret
      refine ⟨_, rfl, (below_new _ _).trans (HR4.out.2.mono (by omega)), ?_⟩
      rw [HW.out]
      exact ownsRow_down HR4.out.1 (by omega)
    · have HE : Hid (¬ cap = (pl K key n)) := hend
      clear hend
      go_wp2_with (at_builtin; rw [if_neg HE.out]; refine wpList_append_own _ rfl (.tmp 26) (.tmp 29) 25 rfl (w.heap.size + 1) 45 i0 (.agg #[.int .i64 0, .int .i64 0]) 2 16 Try.underlying25 HI.out.1 HI.out.2.1 HI.out.2.2.1 HI.out.2.2.2 rfl (by decide) _ _ _ rfl HR2.out.1 ⟨b, off + (pl K key n) * 2, none⟩ (n - (pl K key n)) (cap - (pl K key n)) (cl (lst K V (pl K key n) (n - (pl K key n)))) rfl ?c0 ?c1 ?c2 ?c3 ?c4 ?c5 ?_)
      case c0 => rw [cl_len, lst_len]
      case c1 => exact HN2.out _ _ _ (by omega) (by omega)
      case c2 => exact cl_one _
      case c3 => rw [HL2.out]; unfold maxLen; omega
      case c4 => rw [HL2.out]; omega
      case c5 => omega
      intro v4 w4 ho4 hg4 _
      have HR4 : Hid _ := app_list (v' := v4) (M := lst K V (pl K key n) (n - (pl K key n))) (m := n - (pl K key n)) (lst_len _ _ _ _) HR2.out.2 hs2 HR2.out.1 (by rw [List.length_append]; exact ho4) hg4
      clear ho4 hg4
      go_wp2
      go_ret
      refine ⟨_, rfl, (below_new _ _).trans (HR4.out.2.mono (by omega)), ?_⟩
      rw [HW.out]
      exact ownsRow_down HR4.out.1 (by omega)
end Go.Proofs.Ytnhkjdcbaphfcaa
