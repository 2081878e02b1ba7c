/- Versions appended and joined, with what is known of the capacity. -/
import Derived.Test.YtjdodbiphijjgaaGreatQRsa
namespace Go.Proofs.YtjdodbiphijjgaaGreat
open Go.RowKit Go.Deep
set_option linter.unusedVariables false
set_option maxRecDepth 20000

/-- Versions as cells. -/
def v4w (r : Vr) : List Value := [.int .i64 r.t, .int .i64 r.a, .bool r.g, .int .i64 r.v]
def vbw : List Vr → List Value
  | [] => []
  | r :: rs => v4w r ++ vbw rs
theorem vb_lenw : ∀ xs, (vbw xs).length = xs.length * 4
  | [] => rfl
  | r :: rs => by simp only [vbw, List.length_append, vb_lenw rs, v4w, List.length_cons, List.length_nil]; omega
theorem vb_appw : ∀ xs ys, vbw (xs ++ ys) = vbw xs ++ vbw ys
  | [], ys => rfl
  | r :: rs, ys => by simp only [vbw, List.cons_append, vb_appw rs ys, List.append_assoc]
theorem vb_getw : ∀ (xs : List Vr) (i j : Nat) (r : Vr), xs[i]? = some r → j < 4 → (vbw xs)[i * 4 + j]? = (v4w r)[j]?
  | [], i, j, r, h, _ => by simp at h
  | x :: xs, 0, j, r, h, hj => by
    simp only [List.getElem?_cons_zero, Option.some.injEq] at h
    subst h
    simp only [vbw]
    rw [List.getElem?_append_left (by simp [v4w]; omega)]
    congr 1; omega
  | x :: xs, i + 1, j, r, h, hj => by
    simp only [List.getElem?_cons_succ] at h
    simp only [vbw]
    rw [List.getElem?_append_right (by simp [v4w]; omega)]
    have := vb_getw xs i j r h hj
    rw [← this]
    congr 1
    simp [v4w]; omega
theorem vb_onew : ∀ xs, ∀ u ∈ vbw xs, u.oneCell' = true
  | [], u, h => by simp [vbw] at h
  | r :: rs, u, h => by
    simp only [vbw, List.mem_append] at h
    rcases h with h | h
    · simp [v4w] at h
      rcases h with rfl | rfl | rfl | rfl <;> rfl
    · exact vb_onew rs u h
/-- The first n of R, as a list. -/
def vLw (R : Nat → Vr) (n : Nat) : List Vr := (List.range n).map R
theorem vL_lenw (R : Nat → Vr) (n : Nat) : (vLw R n).length = n := by simp [vLw]
theorem vL_getw {R : Nat → Vr} {n i : Nat} (h : i < n) : (vLw R n)[i]? = some (R i) := by simp [vLw, h]
theorem own4_of_roww {w : World} {base n : Nat} {a : Option Addr} {cap : Nat} {xs : List Vr} (hl : xs.length = n) (h : w.ownsRow base 179 4 (.slice a n cap) n (vbw xs)) : Own4 w base w.heap.size a n (fun i => xs.getD i zV) := by
  rcases h.2 with ⟨e, h0⟩ | ⟨g, cap', cur, e, hbg, hg, _⟩
  · exact ⟨Nat.le_refl _, .inl h0⟩
  · simp only [Value.slice.injEq, true_and] at e
    obtain ⟨rfl, rfl⟩ := e
    have hlt : g < w.heap.size := by
      obtain ⟨hlt, _⟩ := Array.getElem?_eq_some_iff.1 hg
      exact hlt
    refine ⟨Nat.le_refl _, .inr ⟨g, 0, rfl, hbg, hlt, fun i hi => ?_, fun i => h.frozenAt _⟩⟩
    obtain ⟨r, hr⟩ : ∃ r, xs[i]? = some r := ⟨xs[i]'(by omega), by simp [hl, hi]⟩
    have er : xs.getD i zV = r := by rw [List.getD_eq_getElem?_getD, hr]; rfl
    show C4 w g (0 + i * 4) (xs.getD i zV)
    rw [er]
    have c : ∀ j v, j < 4 → (v4w r)[j]? = some v → w.cell? ⟨g, 0 + i * 4 + j, none⟩ = some v := fun j v hj hv => by
      rw [h.cellAt (0 + i * 4 + j) (by omega), show 0 + i * 4 + j = i * 4 + j by omega, vb_getw xs i j r hr hj, hv]
    exact ⟨c 0 _ (by omega) rfl, c 1 _ (by omega) rfl, c 2 _ (by omega) rfl, c 3 _ (by omega) rfl⟩
theorem row_slicew {w : World} {base n : Nat} {v : Value} {xs : List Value} (h : w.ownsRow base 179 4 v n xs) : ∃ a cap, v = .slice a n cap ∧ n ≤ cap := by
  rcases h.2 with ⟨rfl, h0⟩ | ⟨g, cap, cur, rfl, _, _, h9, _⟩
  · exact ⟨none, 0, by rw [h0], by omega⟩
  · exact ⟨_, cap, rfl, by omega⟩
theorem run_app_zeroVw (w : World) (ty : TypeId) (ba : Option Addr) (n c : Nat) (xa : Option Addr) (xc : Nat) (h : n ≤ c) :
    (Builtin.append_ #[155, 155] ty #[.slice ba n c, .slice xa 0 xc]).run Tryz.prog w = .ok (.slice ba n c) w := by
  cases ba <;> cases xa <;> simp [Builtin.append_, go_sem, h, Builtin.firstCells, storeCells]
theorem wp_appVw {o : Oper} {a : Act} {K : Act → World → Prop} {Q : Exit → Act → World → Prop} (w : World) (s x : Operand)
    (ho : o.op = .call { callee := .builtin .append, args := #[s, x], argTypes := #[155, 155] })
    (base : Nat) (v : Value) (xs : List Vr) (hs : a.eval s = v) (hown : w.ownsRow base 179 4 v xs.length (vbw xs))
    (xa : Option Addr) (m c : Nat) (R : Nat → Vr) (hx : a.eval x = .slice xa m c) (hb : VersAt w xa m R) (h63 : xs.length + m ≤ 100000) (hbase : base ≤ w.heap.size)
    (h : ∀ v' w', w'.ownsRow base 179 4 v' (xs ++ vLw R m).length (vbw (xs ++ vLw R m)) → w.grownBy w' v.ownBlock → K (a.put o.dst v') w') : o.wp Tryz.prog a w K Q := by
  by_cases hm : m = 0
  · subst hm
    obtain ⟨ba, cap, rfl, hcap⟩ := row_slicew hown
    have hr := run_app_zeroVw w o.type ba xs.length cap xa c hcap
    unfold Oper.wp execOp
    simp only [ho, resolve, invoke, builtin, Sem.run_bind, Sem.run_pure, Result.andThen_ok, List.map_toArray, List.map_cons, List.map_nil, hs, hx, hr]
    refine h _ w ?_ (grown_refl _ _)
    have e : xs ++ vLw R 0 = xs := by simp [vLw]
    rw [e]
    exact hown
  · rcases hb with hb | ⟨b, off, rfl, hbl, hc⟩
    · exact absurd hb hm
    · obtain ⟨i0, hi, hz0, hz1, hz2⟩ := info_parts infoV
      refine wp_append_own w s x 155 ho base 179 i0 _ 4 32 Tryz.underlying155 hi hz0 hz1 hz2 rfl (by decide) v xs.length (vbw xs) hs hown ⟨b, off, none⟩ m c (vbw (vLw R m)) hx (by rw [vb_lenw, vL_lenw]) (fun j u hj => ?_) (vb_onew _) (by unfold maxLen; omega) (by omega) hbase fun v' w' h2 h3 _ => h v' w' ?_ h3
      · have hjl : j < m * 4 := by
          have := (List.getElem?_eq_some_iff.1 hj).1
          rwa [vb_lenw, vL_lenw] at this
        have hg := vb_getw (vLw R m) (j / 4) (j % 4) (R (j / 4)) (vL_getw (by omega)) (by omega)
        rw [show j / 4 * 4 + j % 4 = j by omega, hj] at hg
        rw [WideShapes.add_plain]
        obtain ⟨c0, c1, c2, c3⟩ := hc (j / 4) (by omega)
        have hd : j % 4 = 0 ∨ j % 4 = 1 ∨ j % 4 = 2 ∨ j % 4 = 3 := by omega
        rcases hd with e | e | e | e
        · rw [e] at hg; rw [show off + j = off + j / 4 * 4 by omega, c0, hg]; rfl
        · rw [e] at hg; rw [show off + j = off + j / 4 * 4 + 1 by omega, c1, hg]; rfl
        · rw [e] at hg; rw [show off + j = off + j / 4 * 4 + 2 by omega, c2, hg]; rfl
        · rw [e] at hg; rw [show off + j = off + j / 4 * 4 + 3 by omega, c3, hg]; rfl
      · rw [List.length_append, vL_lenw, vb_appw]
        exact h2
theorem wpList_appVw {ops : Array Oper} {rest : List Oper} {o : Oper} {a : Act} {Q : Exit → Act → World → Prop} (w : World) (hgd : o.guard = none) (s x : Operand)
    (ho : o.op = .call { callee := .builtin .append, args := #[s, x], argTypes := #[155, 155] })
    (base : Nat) (v : Value) (xs : List Vr) (hs : a.eval s = v) (hown : w.ownsRow base 179 4 v xs.length (vbw xs))
    (xa : Option Addr) (m c : Nat) (R : Nat → Vr) (hx : a.eval x = .slice xa m c) (hb : VersAt w xa m R) (h63 : xs.length + m ≤ 100000) (hbase : base ≤ w.heap.size)
    (h : ∀ v' w', w'.ownsRow base 179 4 v' (xs ++ vLw R m).length (vbw (xs ++ vLw R m)) → w.grownBy w' v.ownBlock → wpList Tryz.prog ops Q rest (a.put o.dst v') w') : wpList Tryz.prog ops Q (o :: rest) a w :=
  wpList_plain hgd fun _ hK => wp_appVw w s x ho base v xs hs hown xa m c R hx hb h63 hbase fun v' w' h2 h3 => hK _ _ (h v' w' h2 h3)
/-- An answer that is versions, of the call's own. -/
def VAnw (m : Nat) (S : Nat → Vr) (w : World) (e : Ending) (w' : World) : Prop := ∃ a cap, e = .returned (.slice a m cap) ∧ Below w.heap.size w w' ∧ Own4 w' w.heap.size w'.heap.size a m S ∧ m ≤ cap
theorem VAnw.of {w w' : World} {v : Value} {xs : List Vr} {base : Nat} (hb : Below w.heap.size w w') (hl : w.heap.size ≤ base) (h : w'.ownsRow base 179 4 v xs.length (vbw xs)) : VAnw xs.length (fun i => xs.getD i zV) w (.returned v) w' := by
  obtain ⟨a, cap, rfl, hcap⟩ := row_slicew h
  exact ⟨a, cap, rfl, hb, (own4_of_roww rfl h).wide hl (Nat.le_refl _) (Nat.le_refl _), hcap⟩
theorem vL_getDw {R : Nat → Vr} {n i : Nat} (h : i < n) : (vLw R n).getD i zV = R i := by rw [List.getD_eq_getElem?_getD, vL_getw h]; rfl
theorem l5Copy_anyw (n : Nat) (R : Nat → Vr) (a : Option Addr) (cap : Nat) (w : World) (hn : n ≤ 100000) (h : VersAt w a n R) :
    Calls Tryz.prog 139 #[.slice a n cap] w (VAnw n R w) := by
  have HA : Hid (∀ o : Obj, VersAt (w.alloc o) a n R) := fun o => h.below (below_new _ _)
  have HO : Hid ((w.alloc (.cells #[] 179)).ownsRow w.heap.size 179 4 (.slice (some ⟨w.heap.size, 0, none⟩) 0 0) 0 []) := World.ownsRow_made w #[] 0 (Nat.le_refl _) (by unfold maxLen; omega) rfl
  clear h
  go_enter Tryz.func139, Tryz.ntmps139
  go_wp2_with (at_builtin; refine wpList_appVw _ rfl (.tmp 3) (.tmp 4) rfl w.heap.size _ [] rfl HO.out a n cap R rfl (HA.out _) (by simpa using hn) (by simp) ?_)
  intro v1 w1 ho1 hg1
  have HB1 : Hid (Below w.heap.size w w1) := (below_new w _).grown hg1 (by simp) (fun q hq => (HO.out.lt q hq).1)
  have HO1 : Hid (VAnw n R w (.returned v1) w1) := by
    obtain ⟨a', cap', h1, h2, h3, h4⟩ := VAnw.of HB1.out (Nat.le_refl _) ho1
    rw [vL_lenw] at h1 h3 h4
    exact ⟨a', cap', h1, h2, h3.congr (fun i hi => vL_getDw hi), h4⟩
  clear ho1 hg1
  go_wp2_with fail
  go_ret
  exact HO1.out
/-- Pieces joined, the first k of them. -/
def jvw (N : Nat → Nat) (Z : Nat → Nat → Vr) : Nat → List Vr
  | 0 => []
  | k + 1 => jvw N Z k ++ vLw (Z k) (N k)
theorem jv_lenw (N : Nat → Nat) (Z : Nat → Nat → Vr) : ∀ k, (∀ i, i < k → N i ≤ 100) → (jvw N Z k).length ≤ k * 100
  | 0, _ => by simp [jvw]
  | k + 1, h => by
    have h1 := jv_lenw N Z k (fun i hi => h i (by omega))
    have h2 := h k (by omega)
    simp only [jvw, List.length_append, vL_lenw]; omega
set_option maxHeartbeats 2000000 in
theorem joined_anyw (m : Nat) (A : Nat → Option Addr) (N C : Nat → Nat) (Z : Nat → Nat → Vr) (pb po pc : Nat) (w : World) (hs : ∀ i, i < m → N i ≤ 100) (hpb : pb < w.heap.size)
    (hp : ∀ i, i < m → w.cell? ⟨pb, po + i, none⟩ = some (.slice (A i) (N i) (C i)) ∧ VersAt w (A i) (N i) (Z i)) (hm : m ≤ 3) :
    Calls Tryz.prog 157 #[.slice (some ⟨pb, po, none⟩) m pc] w (VAnw (jvw N Z m).length (fun i => (jvw N Z m).getD i zV) w) := by
  have HP : Hid (∀ i, i < m → w.cell? ⟨pb, po + i, none⟩ = some (.slice (A i) (N i) (C i)) ∧ VersAt w (A i) (N i) (Z i)) := hp
  clear hp
  go_enter Tryz.func157, Tryz.ntmps157
  go_wp2_with fail
  go_loopw [3, 5, 8] (fun v _ i wr => ∃ k : Nat, k ≤ m ∧ i = .int .i64 k ∧ Hid (Below w.heap.size w wr) ∧ Hid (wr.ownsRow w.heap.size 179 4 v (jvw N Z k).length (vbw (jvw N Z k)))) (fun _ _ i _ => m - (intOf i).toNat)
  case atStart => exact ⟨0, by omega, rfl, Below.refl _ _, World.ownsRow_nil _ _ _ _⟩
  case round =>
    obtain ⟨k, hk, rfl, HB, HO⟩ := hrel
    by_cases hlt : k < m
    · have hlt' : (k : Int) < (m : Int) := by omega
      have hk1 : (0 : Int) ≤ (k : Int) := by omega
      have hc := cell_below (HP.out k hlt).1 HB.out
      have HBA : Hid (VersAt wr (A k) (N k) (Z k)) := (HP.out k hlt).2.below HB.out
      have HLE : Hid ((jvw N Z k).length + N k ≤ 100000) := by
        have h1 := jv_lenw N Z k (fun i hi => hs i (by omega))
        have h2 := hs k hlt
        show (jvw N Z k).length + N k ≤ 100000
        omega
      go_wp2_with (at_builtin; refine wpList_appVw _ rfl (.tmp 12) (.tmp 13) rfl w.heap.size _ (jvw N Z k) rfl HO.out (A k) (N k) (C k) (Z k) rfl HBA.out HLE.out HB.out.size ?_)
      intro v1 w1 ho1 hg1
      have HO1 : Hid (w1.ownsRow w.heap.size 179 4 v1 (jvw N Z (k + 1)).length (vbw (jvw N Z (k + 1)))) := by
        show w1.ownsRow w.heap.size 179 4 v1 (jvw N Z k ++ vLw (Z k) (N k)).length (vbw (jvw N Z k ++ vLw (Z k) (N k)))
        rw [List.length_append]
        exact ho1
      have HB1 : Hid (Below w.heap.size w w1) := HB.out.grown hg1 HB.out.size (fun q hq => (HO.out.lt q hq).1)
      clear ho1 hg1
      go_wp2_with fail
      go_roundw
      case rel => exact ⟨k + 1, hlt, by go_num, HB1, HO1⟩
      case measure => simp [intOf]; omega
    · have hkn : k = m := by omega
      subst hkn
      have HF := VAnw.of HB.out (Nat.le_refl _) HO.out
      go_wp2_with fail
      go_ret
      exact HF
/-- One piece joined is a copy. -/
theorem joined1_anyw (n : Nat) (R : Nat → Vr) (a : Option Addr) (cap : Nat) (pb : Nat) (w : World) (hn : n ≤ 100) (hc : w.cell? ⟨pb, 0, none⟩ = some (.slice a n cap)) (h : VersAt w a n R) :
    Calls Tryz.prog 157 #[.slice (some ⟨pb, 0, none⟩) 1 1] w (VAnw n R w) := by
  have hp : ∀ i, i < 1 → w.cell? ⟨pb, 0 + i, none⟩ = some (.slice a n cap) ∧ VersAt w a n R := by
    intro i hi
    have e : i = 0 := by omega
    subst e
    exact ⟨hc, h⟩
  refine (joined_anyw 1 (fun _ => a) (fun _ => n) (fun _ => cap) (fun _ => R) pb 0 1 w (fun i hi => hn) (Go.block_lt_of_cell hc) hp (by omega)).mono ?_
  rintro e w' ⟨a', cap', he, hb, ho, hcap⟩
  have el : (jvw (fun _ => n) (fun _ => R) 1).length = n := by simp [jvw, vL_lenw]
  rw [el] at he ho hcap
  refine ⟨a', cap', he, hb, ho.congr (fun i hi => ?_), hcap⟩
  simp only [jvw, List.nil_append]
  exact vL_getDw hi
end Go.Proofs.YtjdodbiphijjgaaGreat
