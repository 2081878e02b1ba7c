/- Cells with one of a key: the model, and the walk of impl.withCell. -/
import Derived.Test.YtdjcckobnfncjaaWo
namespace Go.Proofs.Ytdjcckobnfncjaa
open Go.RowKit Go.Deep
set_option linter.unusedVariables false

/-- m cells from the i-th on. -/
def lst (K V : Nat → Int) (i m : Nat) : List (Int × Int) := (List.range m).map fun q => (K (i + q), V (i + q))
theorem lst_len (K V : Nat → Int) (i m : Nat) : (lst K V i m).length = m := by simp [lst]
theorem lst_get (K V : Nat → Int) (i m q : Nat) (h : q < m) : kOf (lst K V i m) q = K (i + q) ∧ vOf (lst K V i m) q = V (i + q) := by
  simp [kOf, vOf, lst, h]
/-- Where the key's cell goes, and where the rest begins. -/
def nx (K : Nat → Int) (key : Int) (n : Nat) : Nat := if has K key n = true then pl K key n + 1 else pl K key n
def wi (K V : Nat → Int) (key val : Int) (n : Nat) : List (Int × Int) := lst K V 0 (pl K key n) ++ [(key, val)] ++ lst K V (nx K key n) (n - nx K key n)
theorem nx_le (K : Nat → Int) (key : Int) (n : Nat) : nx K key n ≤ n := by
  unfold nx
  have := pl_le K key n
  by_cases h : has K key n = true
  · rw [if_pos h]; have := (has_iff.1 h).1; omega
  · rw [if_neg h]; omega
theorem wi_len (K V : Nat → Int) (key val : Int) (n : Nat) : (wi K V key val n).length ≤ n + 1 := by
  have h1 := pl_le K key n
  have h2 := nx_le K key n
  have h3 : pl K key n ≤ nx K key n := by unfold nx; split <;> omega
  simp only [wi, List.length_append, lst_len, List.length_cons, List.length_nil]; omega
theorem news_cells {w : World} {b off n : Nat} {K V : Nat → Int} (hk : ∀ i, i < n → w.cell? ⟨b, off + i * 2, none⟩ = some (.int .i64 (K i))) (hv : ∀ i, i < n → w.cell? ⟨b, off + i * 2 + 1, none⟩ = some (.int .i64 (V i)))
    (i m : Nat) (him : i + m ≤ n) (o : Nat) (ho : o = off + i * 2) : ∀ j u, (cl (lst K V i m))[j]? = some u → w.cell? ((⟨b, o, none⟩ : Addr).add j) = some u := by
  intro j u hj
  subst ho
  rw [WideShapes.add_plain]
  have hlt : j < m * 2 := by
    have := (List.getElem?_eq_some_iff.1 hj).1
    rw [cl_len, lst_len] at this; exact this
  have hq : j / 2 < m := by omega
  have hkey := cl_key (lst K V i m) (j / 2) (by rw [lst_len]; exact hq)
  have hg := lst_get K V i m (j / 2) hq
  rcases Nat.mod_two_eq_zero_or_one j with e | e
  · have e1 : j / 2 * 2 = j := by omega
    rw [e1, hg.1] at hkey
    rw [hkey.1] at hj
    have := hk (i + j / 2) (by omega)
    rw [show off + i * 2 + j = off + (i + j / 2) * 2 by omega, this]; exact hj
  · have e1 : j / 2 * 2 + 1 = j := by omega
    rw [e1, hg.2] at hkey
    rw [hkey.2] at hj
    have := hv (i + j / 2) (by omega)
    rw [show off + i * 2 + j = off + (i + j / 2) * 2 + 1 by omega, this]; exact hj
theorem cl_one : ∀ L, ∀ u ∈ cl L, u.oneCell' = true
  | [], u, h => by simp [cl] at h
  | c :: r, u, h => by
    simp only [cl, List.mem_cons] at h
    rcases h with rfl | rfl | h
    · rfl
    · rfl
    · exact cl_one r u h
theorem rows_at {w : World} {b off n : Nat} {K V : Nat → Int} (h : CellsAt w (some ⟨b, off, none⟩) n K V) :
    (∀ i, i < n → w.cell? ⟨b, off + i * 2, none⟩ = some (.int .i64 (K i))) ∧ (∀ i, i < n → w.cell? ⟨b, off + i * 2 + 1, none⟩ = some (.int .i64 (V i))) := by
  rcases h with rfl | ⟨b', off', e, _, hk, hv⟩
  · exact ⟨fun i hi => by omega, fun i hi => by omega⟩
  · simp only [Option.some.injEq, Addr.mk.injEq, and_true] at e
    obtain ⟨rfl, rfl⟩ := e
    exact ⟨hk, hv⟩
/-- A list appended. -/
theorem app_list {w wr w1 : World} {B : Nat} {v v' : Value} {L M : List (Int × Int)} {m : Nat} (hm : M.length = m) (hb : Below B w wr) (hB : B ≤ wr.heap.size) (hown : wr.ownsRow B 72 2 v L.length (cl L))
    (h1 : w1.ownsRow B 72 2 v' (L.length + m) (cl L ++ cl M)) (hg : wr.grownBy w1 v.ownBlock) :
    w1.ownsRow B 72 2 v' (L ++ M).length (cl (L ++ M)) ∧ Below B w w1 := by
  refine ⟨?_, hb.grown hg hB fun q hq => (hown.lt q hq).1⟩
  rw [cl_app, List.length_append, hm]
  exact h1

theorem ownsRow_down {w : World} {B B' : Nat} {v : Value} {n : Nat} {xs : List Value} (h : w.ownsRow B 72 2 v n xs) (hb : B' ≤ B) : w.ownsRow B' 72 2 v n xs := by
  refine ⟨h.1, ?_⟩
  rcases h.2 with h2 | ⟨g, cap, cur, hv, hg, r⟩
  · exact .inl h2
  · exact .inr ⟨g, cap, cur, hv, by omega, r⟩
set_option maxHeartbeats 2000000 in
theorem implWith_any (n : Nat) (K V : Nat → Int) (key val : Int) (b : Nat) (w : World) (hn : n ≤ 1000) (h : CellsAt w (some ⟨b, 0, none⟩) n K V) :
    Calls Try.prog 71 #[.slice (some ⟨b, 0, none⟩) n n, .agg #[.int .i64 key, .int .i64 val]] w fun e w' =>
      ∃ v, e = .returned v ∧ Below w.heap.size w w' ∧ w'.ownsRow w.heap.size 72 2 v (wi K V key val n).length (cl (wi K V key val n)) := by
  obtain ⟨i0, hi, hz0, hz1, hz2⟩ := info_parts info72
  have HI : Hid (Try.prog.info? 72 = some i0 ∧ i0.zero = some (.agg #[.int .i64 0, .int .i64 0]) ∧ i0.size = 2 ∧ i0.bytes = 16) := ⟨hi, hz0, hz1, hz2⟩
  clear hi hz0 hz1 hz2
  have HA : Hid (CellsAt w (some ⟨b, 0, none⟩) n K V) := h
  have hp := pl_le K key n
  have hrw := rows_at (HA.out.below (below_new w (.cells #[.int .i64 key, .int .i64 val] 72)))
  have HN : Hid (∀ i m o, i + m ≤ n → o = 0 + i * 2 → ∀ j u, (cl (lst K V i m))[j]? = some u → (w.alloc (.cells #[.int .i64 key, .int .i64 val] 72)).cell? ((⟨b, o, none⟩ : Addr).add j) = some u) := fun i m o h1 h2 => news_cells hrw.1 hrw.2 i m h1 o h2
  clear hrw h
  by_cases hh : has K key n = true
  · skip
    have hx : nx K key n = (pl K key n + 1) := by rw [nx, if_pos hh]
    have hxl := nx_le K key n
    rw [hx] at hxl
    have HW : Hid (wi K V key val n = lst K V 0 (pl K key n) ++ [(key, val)] ++ lst K V (pl K key n + 1) (n - (pl K key n + 1))) := by show wi K V key val n = _; rw [wi, hx]
    
    clear hx
    go_enter Try.func71, Try.ntmps71
    go_wp2_with fail
    refine (place_any n K V key _ n _ (by omega) (HA.out.below (below_new _ _))).mono ?_
    rintro e w0 ⟨rfl, rfl⟩
    have hp' : (pl K key n : Int) ≤ (n : Int) := by omega
    go_wp2_with (at_builtin; refine wpList_append_own _ rfl (.tmp 11) (.tmp 14) 25 rfl (w.heap.size + 1) 72 i0 (.agg #[.int .i64 0, .int .i64 0]) 2 16 Try.underlying25 HI.out.1 HI.out.2.1 HI.out.2.2.1 HI.out.2.2.2 rfl (by decide) _ _ _ rfl (World.ownsRow_nil _ _ _ _) ⟨b, 0, none⟩ (pl K key n) n (cl (lst K V 0 (pl K key n))) rfl ?c0 ?c1 ?c2 ?c3 ?c4 ?c5 ?_)
    case c0 => rw [cl_len, lst_len]
    case c1 => exact HN.out 0 _ 0 (by omega) rfl
    case c2 => exact cl_one _
    case c3 => unfold maxLen; omega
    case c4 => omega
    case c5 => simp
    intro v1 w1 ho1 hg1 _
    have HO1 : Hid (w1.ownsRow (w.heap.size + 1) 72 2 v1 (lst K V 0 (pl K key n)).length (cl (lst K V 0 (pl K key n)))) := by show w1.ownsRow _ _ _ _ _ _; rw [lst_len]; exact ho1
    have HB1 : Hid (Below (w.heap.size + 1) (w.alloc (.cells #[.int .i64 key, .int .i64 val] 72)) w1) := (Below.refl _ _).grown hg1 (by simp) (fun q hq => by cases hq)
    have hs1 : w.heap.size + 1 ≤ w1.heap.size := by have hq := HB1.out.size; simpa using hq
    have k0 : w1.cell? ⟨w.heap.size, 0, none⟩ = some (.int .i64 key) := by rw [HB1.out.cell (p := ⟨w.heap.size, 0, none⟩) (by simp)]; simp
    have k1 : w1.cell? ⟨w.heap.size, 1, none⟩ = some (.int .i64 val) := by rw [HB1.out.cell (p := ⟨w.heap.size, 1, none⟩) (by simp)]; simp
    have hlen : (lst K V 0 (pl K key n)).length = pl K key n := lst_len _ _ _ _
    have HL : Hid ((lst K V 0 (pl K key n)).length = pl K key n) := hlen
    clear ho1 hg1 hlen
    go_wp2_with (at_builtin; refine wpList_append_own _ rfl (.tmp 16) (.tmp 18) 25 rfl (w.heap.size + 1) 72 i0 (.agg #[.int .i64 0, .int .i64 0]) 2 16 Try.underlying25 HI.out.1 HI.out.2.1 HI.out.2.2.1 HI.out.2.2.2 rfl (by decide) _ _ _ rfl (HO1.out.alloc _) ⟨w1.heap.size, 0, none⟩ 1 1 [.int .i64 key, .int .i64 val] rfl rfl (cell_two_new _ _ _ _) ?c2 ?c3 ?c4 ?c5 ?_)
    case c2 => intro x hx; simp at hx; rcases hx with rfl | rfl <;> rfl
    case c3 => rw [HL.out]; unfold maxLen; omega
    case c4 => rw [HL.out]; omega
    case c5 => simp; omega
    intro v2 w2 ho2 hg2 _
    have HR2 : Hid _ := app_one HB1.out hs1 HO1.out ho2 hg2
    have hs2 : w.heap.size + 1 ≤ w2.heap.size := by have hq := HR2.out.2.size; simpa using hq
    have m0 : w2.cell? ⟨w.heap.size, 0, none⟩ = some (.int .i64 key) := by rw [HR2.out.2.cell (p := ⟨w.heap.size, 0, none⟩) (by simp)]; simp
    clear ho2 hg2 k0 k1 HO1 HB1
    have HB2 : Hid (Below w.heap.size w w2) := (below_new _ _).trans (HR2.out.2.mono (by omega))
    have HA2 : Hid (CellsAt w2 (some ⟨b, 0, none⟩) n K V) := HA.out.below HB2.out
    go_wp2_with fail
    refine (hasCell_any n K V key _ n _ (by omega) HA2.out).mono ?_
    rintro e w3 ⟨rfl, rfl⟩
    rw [hh]
    have hrw := rows_at HA2.out
    have HN2 : Hid (∀ i m o, i + m ≤ n → o = 0 + i * 2 → ∀ j u, (cl (lst K V i m))[j]? = some u → w3.cell? ((⟨b, o, none⟩ : Addr).add j) = some u) := fun i m o h1 h2 => news_cells hrw.1 hrw.2 i m h1 o h2
    have HL2 : Hid ((lst K V 0 (pl K key n) ++ [(key, val)]).length = pl K key n + 1) := by show (lst K V 0 (pl K key n) ++ [(key, val)]).length = pl K key n + 1; simp [lst_len]
    clear hrw
    have hpi : (((pl K key n + 1) : Nat) : Int) ≤ (n : Int) := by omega
    by_cases hend : n = (pl K key n + 1)
    · have HE : Hid (n = (pl K key n + 1)) := hend
      clear hend
      go_wp2_with (at_builtin; rw [if_pos HE.out]; refine wpList_append_own _ rfl (.tmp 26) (.tmp 29) 25 rfl (w.heap.size + 1) 72 i0 (.agg #[.int .i64 0, .int .i64 0]) 2 16 Try.underlying25 HI.out.1 HI.out.2.1 HI.out.2.2.1 HI.out.2.2.2 rfl (by decide) _ _ _ rfl HR2.out.1 ⟨b, 0, none⟩ (n - (pl K key n + 1)) (n - (pl K key n + 1)) (cl (lst K V (pl K key n + 1) (n - (pl K key n + 1)))) rfl ?c0 ?c1 ?c2 ?c3 ?c4 ?c5 ?_)
      case c0 => rw [cl_len, lst_len]
      case c1 =>
        intro j u hj
        have hlt := (List.getElem?_eq_some_iff.1 hj).1
        rw [cl_len, lst_len] at hlt
        have := HE.out
        omega
      case c2 => exact cl_one _
      case c3 => rw [HL2.out]; unfold maxLen; omega
      case c4 => rw [HL2.out]; omega
      case c5 => omega
      intro v4 w4 ho4 hg4 _
      have HR4 : Hid _ := app_list (v' := v4) (M := lst K V (pl K key n + 1) (n - (pl K key n + 1))) (m := n - (pl K key n + 1)) (lst_len _ _ _ _) HR2.out.2 hs2 HR2.out.1 (by rw [List.length_append]; exact ho4) hg4
      clear ho4 hg4
      go_wp2
      go_ret
      refine ⟨_, rfl, (below_new _ _).trans (HR4.out.2.mono (by omega)), ?_⟩
      rw [HW.out]
      exact ownsRow_down HR4.out.1 (by omega)
    · have HE : Hid (¬ n = (pl K key n + 1)) := hend
      clear hend
      go_wp2_with (at_builtin; rw [if_neg HE.out]; refine wpList_append_own _ rfl (.tmp 26) (.tmp 29) 25 rfl (w.heap.size + 1) 72 i0 (.agg #[.int .i64 0, .int .i64 0]) 2 16 Try.underlying25 HI.out.1 HI.out.2.1 HI.out.2.2.1 HI.out.2.2.2 rfl (by decide) _ _ _ rfl HR2.out.1 ⟨b, (pl K key n + 1) * 2, none⟩ (n - (pl K key n + 1)) (n - (pl K key n + 1)) (cl (lst K V (pl K key n + 1) (n - (pl K key n + 1)))) rfl ?c0 ?c1 ?c2 ?c3 ?c4 ?c5 ?_)
      case c0 => rw [cl_len, lst_len]
      case c1 => exact HN2.out _ _ _ (by omega) (by omega)
      case c2 => exact cl_one _
      case c3 => rw [HL2.out]; unfold maxLen; omega
      case c4 => rw [HL2.out]; omega
      case c5 => omega
      intro v4 w4 ho4 hg4 _
      have HR4 : Hid _ := app_list (v' := v4) (M := lst K V (pl K key n + 1) (n - (pl K key n + 1))) (m := n - (pl K key n + 1)) (lst_len _ _ _ _) HR2.out.2 hs2 HR2.out.1 (by rw [List.length_append]; exact ho4) hg4
      clear ho4 hg4
      go_wp2
      go_ret
      refine ⟨_, rfl, (below_new _ _).trans (HR4.out.2.mono (by omega)), ?_⟩
      rw [HW.out]
      exact ownsRow_down HR4.out.1 (by omega)
  · skip
    have hx : nx K key n = (pl K key n) := by rw [nx, if_neg hh]
    have hxl := nx_le K key n
    rw [hx] at hxl
    have HW : Hid (wi K V key val n = lst K V 0 (pl K key n) ++ [(key, val)] ++ lst K V (pl K key n) (n - (pl K key n))) := by show wi K V key val n = _; rw [wi, hx]
    have hh' : has K key n = false := by simpa using hh
    clear hx
    go_enter Try.func71, Try.ntmps71
    go_wp2_with fail
    refine (place_any n K V key _ n _ (by omega) (HA.out.below (below_new _ _))).mono ?_
    rintro e w0 ⟨rfl, rfl⟩
    have hp' : (pl K key n : Int) ≤ (n : Int) := by omega
    go_wp2_with (at_builtin; refine wpList_append_own _ rfl (.tmp 11) (.tmp 14) 25 rfl (w.heap.size + 1) 72 i0 (.agg #[.int .i64 0, .int .i64 0]) 2 16 Try.underlying25 HI.out.1 HI.out.2.1 HI.out.2.2.1 HI.out.2.2.2 rfl (by decide) _ _ _ rfl (World.ownsRow_nil _ _ _ _) ⟨b, 0, none⟩ (pl K key n) n (cl (lst K V 0 (pl K key n))) rfl ?c0 ?c1 ?c2 ?c3 ?c4 ?c5 ?_)
    case c0 => rw [cl_len, lst_len]
    case c1 => exact HN.out 0 _ 0 (by omega) rfl
    case c2 => exact cl_one _
    case c3 => unfold maxLen; omega
    case c4 => omega
    case c5 => simp
    intro v1 w1 ho1 hg1 _
    have HO1 : Hid (w1.ownsRow (w.heap.size + 1) 72 2 v1 (lst K V 0 (pl K key n)).length (cl (lst K V 0 (pl K key n)))) := by show w1.ownsRow _ _ _ _ _ _; rw [lst_len]; exact ho1
    have HB1 : Hid (Below (w.heap.size + 1) (w.alloc (.cells #[.int .i64 key, .int .i64 val] 72)) w1) := (Below.refl _ _).grown hg1 (by simp) (fun q hq => by cases hq)
    have hs1 : w.heap.size + 1 ≤ w1.heap.size := by have hq := HB1.out.size; simpa using hq
    have k0 : w1.cell? ⟨w.heap.size, 0, none⟩ = some (.int .i64 key) := by rw [HB1.out.cell (p := ⟨w.heap.size, 0, none⟩) (by simp)]; simp
    have k1 : w1.cell? ⟨w.heap.size, 1, none⟩ = some (.int .i64 val) := by rw [HB1.out.cell (p := ⟨w.heap.size, 1, none⟩) (by simp)]; simp
    have hlen : (lst K V 0 (pl K key n)).length = pl K key n := lst_len _ _ _ _
    have HL : Hid ((lst K V 0 (pl K key n)).length = pl K key n) := hlen
    clear ho1 hg1 hlen
    go_wp2_with (at_builtin; refine wpList_append_own _ rfl (.tmp 16) (.tmp 18) 25 rfl (w.heap.size + 1) 72 i0 (.agg #[.int .i64 0, .int .i64 0]) 2 16 Try.underlying25 HI.out.1 HI.out.2.1 HI.out.2.2.1 HI.out.2.2.2 rfl (by decide) _ _ _ rfl (HO1.out.alloc _) ⟨w1.heap.size, 0, none⟩ 1 1 [.int .i64 key, .int .i64 val] rfl rfl (cell_two_new _ _ _ _) ?c2 ?c3 ?c4 ?c5 ?_)
    case c2 => intro x hx; simp at hx; rcases hx with rfl | rfl <;> rfl
    case c3 => rw [HL.out]; unfold maxLen; omega
    case c4 => rw [HL.out]; omega
    case c5 => simp; omega
    intro v2 w2 ho2 hg2 _
    have HR2 : Hid _ := app_one HB1.out hs1 HO1.out ho2 hg2
    have hs2 : w.heap.size + 1 ≤ w2.heap.size := by have hq := HR2.out.2.size; simpa using hq
    have m0 : w2.cell? ⟨w.heap.size, 0, none⟩ = some (.int .i64 key) := by rw [HR2.out.2.cell (p := ⟨w.heap.size, 0, none⟩) (by simp)]; simp
    clear ho2 hg2 k0 k1 HO1 HB1
    have HB2 : Hid (Below w.heap.size w w2) := (below_new _ _).trans (HR2.out.2.mono (by omega))
    have HA2 : Hid (CellsAt w2 (some ⟨b, 0, none⟩) n K V) := HA.out.below HB2.out
    go_wp2_with fail
    refine (hasCell_any n K V key _ n _ (by omega) HA2.out).mono ?_
    rintro e w3 ⟨rfl, rfl⟩
    rw [hh']
    have hrw := rows_at HA2.out
    have HN2 : Hid (∀ i m o, i + m ≤ n → o = 0 + i * 2 → ∀ j u, (cl (lst K V i m))[j]? = some u → w3.cell? ((⟨b, o, none⟩ : Addr).add j) = some u) := fun i m o h1 h2 => news_cells hrw.1 hrw.2 i m h1 o h2
    have HL2 : Hid ((lst K V 0 (pl K key n) ++ [(key, val)]).length = pl K key n + 1) := by show (lst K V 0 (pl K key n) ++ [(key, val)]).length = pl K key n + 1; simp [lst_len]
    clear hrw
    have hpi : (((pl K key n) : Nat) : Int) ≤ (n : Int) := by omega
    by_cases hend : n = (pl K key n)
    · have HE : Hid (n = (pl K key n)) := hend
      clear hend
      go_wp2_with (at_builtin; rw [if_pos HE.out]; refine wpList_append_own _ rfl (.tmp 26) (.tmp 29) 25 rfl (w.heap.size + 1) 72 i0 (.agg #[.int .i64 0, .int .i64 0]) 2 16 Try.underlying25 HI.out.1 HI.out.2.1 HI.out.2.2.1 HI.out.2.2.2 rfl (by decide) _ _ _ rfl HR2.out.1 ⟨b, 0, none⟩ (n - (pl K key n)) (n - (pl K key n)) (cl (lst K V (pl K key n) (n - (pl K key n)))) rfl ?c0 ?c1 ?c2 ?c3 ?c4 ?c5 ?_)
      case c0 => rw [cl_len, lst_len]
      case c1 =>
        intro j u hj
        have hlt := (List.getElem?_eq_some_iff.1 hj).1
        rw [cl_len, lst_len] at hlt
        have := HE.out
        omega
      case c2 => exact cl_one _
      case c3 => rw [HL2.out]; unfold maxLen; omega
      case c4 => rw [HL2.out]; omega
      case c5 => omega
      intro v4 w4 ho4 hg4 _
      have HR4 : Hid _ := app_list (v' := v4) (M := lst K V (pl K key n) (n - (pl K key n))) (m := n - (pl K key n)) (lst_len _ _ _ _) HR2.out.2 hs2 HR2.out.1 (by rw [List.length_append]; exact ho4) hg4
      clear ho4 hg4
      go_wp2
      go_ret
      refine ⟨_, rfl, (below_new _ _).trans (HR4.out.2.mono (by omega)), ?_⟩
      rw [HW.out]
      exact ownsRow_down HR4.out.1 (by omega)
    · have HE : Hid (¬ n = (pl K key n)) := hend
      clear hend
      go_wp2_with (at_builtin; rw [if_neg HE.out]; refine wpList_append_own _ rfl (.tmp 26) (.tmp 29) 25 rfl (w.heap.size + 1) 72 i0 (.agg #[.int .i64 0, .int .i64 0]) 2 16 Try.underlying25 HI.out.1 HI.out.2.1 HI.out.2.2.1 HI.out.2.2.2 rfl (by decide) _ _ _ rfl HR2.out.1 ⟨b, (pl K key n) * 2, none⟩ (n - (pl K key n)) (n - (pl K key n)) (cl (lst K V (pl K key n) (n - (pl K key n)))) rfl ?c0 ?c1 ?c2 ?c3 ?c4 ?c5 ?_)
      case c0 => rw [cl_len, lst_len]
      case c1 => exact HN2.out _ _ _ (by omega) (by omega)
      case c2 => exact cl_one _
      case c3 => rw [HL2.out]; unfold maxLen; omega
      case c4 => rw [HL2.out]; omega
      case c5 => omega
      intro v4 w4 ho4 hg4 _
      have HR4 : Hid _ := app_list (v' := v4) (M := lst K V (pl K key n) (n - (pl K key n))) (m := n - (pl K key n)) (lst_len _ _ _ _) HR2.out.2 hs2 HR2.out.1 (by rw [List.length_append]; exact ho4) hg4
      clear ho4 hg4
      go_wp2
      go_ret
      refine ⟨_, rfl, (below_new _ _).trans (HR4.out.2.mono (by omega)), ?_⟩
      rw [HW.out]
      exact ownsRow_down HR4.out.1 (by omega)
end Go.Proofs.Ytdjcckobnfncjaa
