/- PurgeChain, and what its answer looks like: it can be purged again. -/
import Derived.Test.YtnhlcadipkmhhaaGreatQVh
import Derived.Laws.AppendOwn
import Derived.OwnWalk
import Derived.Test.YtnhlcadipkmhhaaGreatQVn
import Derived.Deep.DeepCutAuto
namespace Go.Proofs.YtnhlcadipkmhhaaGreat
open Go.RowKit Go.Deep
set_option linter.unusedVariables false
set_option maxRecDepth 20000

/-- Versions as cells. -/
def v4 (r : Vr) : List Value := [.int .i64 r.t, .int .i64 r.a, .bool r.g, .int .i64 r.v]
def vb : List Vr → List Value
  | [] => []
  | r :: rs => v4 r ++ vb rs
theorem vb_len : ∀ xs, (vb xs).length = xs.length * 4
  | [] => rfl
  | r :: rs => by simp only [vb, List.length_append, vb_len rs, v4, List.length_cons, List.length_nil]; omega
theorem vb_app : ∀ xs ys, vb (xs ++ ys) = vb xs ++ vb ys
  | [], ys => rfl
  | r :: rs, ys => by simp only [vb, List.cons_append, vb_app rs ys, List.append_assoc]
theorem vb_get : ∀ (xs : List Vr) (i j : Nat) (r : Vr), xs[i]? = some r → j < 4 → (vb xs)[i * 4 + j]? = (v4 r)[j]?
  | [], i, j, r, h, _ => by simp at h
  | x :: xs, 0, j, r, h, hj => by
    simp only [List.getElem?_cons_zero, Option.some.injEq] at h
    subst h
    simp only [vb]
    rw [List.getElem?_append_left (by simp [v4]; omega)]
    congr 1; omega
  | x :: xs, i + 1, j, r, h, hj => by
    simp only [List.getElem?_cons_succ] at h
    simp only [vb]
    rw [List.getElem?_append_right (by simp [v4]; omega)]
    have := vb_get xs i j r h hj
    rw [← this]
    congr 1
    simp [v4]; omega
theorem vb_one : ∀ xs, ∀ u ∈ vb xs, u.oneCell' = true
  | [], u, h => by simp [vb] at h
  | r :: rs, u, h => by
    simp only [vb, List.mem_append] at h
    rcases h with h | h
    · simp [v4] at h
      rcases h with rfl | rfl | rfl | rfl <;> rfl
    · exact vb_one rs u h
/-- The first n of R, as a list. -/
def vL (R : Nat → Vr) (n : Nat) : List Vr := (List.range n).map R
theorem vL_len (R : Nat → Vr) (n : Nat) : (vL R n).length = n := by simp [vL]
theorem vL_get {R : Nat → Vr} {n i : Nat} (h : i < n) : (vL R n)[i]? = some (R i) := by simp [vL, h]
theorem own4_of_row {w : World} {base n : Nat} {a : Option Addr} {cap : Nat} {xs : List Vr} (hl : xs.length = n) (h : w.ownsRow base 136 4 (.slice a n cap) n (vb xs)) : Own4 w base w.heap.size a n (fun i => xs.getD i zV) := by
  rcases h.2 with ⟨e, h0⟩ | ⟨g, cap', cur, e, hbg, hg, _⟩
  · exact ⟨Nat.le_refl _, .inl h0⟩
  · simp only [Value.slice.injEq, true_and] at e
    obtain ⟨rfl, rfl⟩ := e
    have hlt : g < w.heap.size := by
      obtain ⟨hlt, _⟩ := Array.getElem?_eq_some_iff.1 hg
      exact hlt
    refine ⟨Nat.le_refl _, .inr ⟨g, 0, rfl, hbg, hlt, fun i hi => ?_, fun i => h.frozenAt _⟩⟩
    obtain ⟨r, hr⟩ : ∃ r, xs[i]? = some r := ⟨xs[i]'(by omega), by simp [hl, hi]⟩
    have er : xs.getD i zV = r := by rw [List.getD_eq_getElem?_getD, hr]; rfl
    show C4 w g (0 + i * 4) (xs.getD i zV)
    rw [er]
    have c : ∀ j v, j < 4 → (v4 r)[j]? = some v → w.cell? ⟨g, 0 + i * 4 + j, none⟩ = some v := fun j v hj hv => by
      rw [h.cellAt (0 + i * 4 + j) (by omega), show 0 + i * 4 + j = i * 4 + j by omega, vb_get xs i j r hr hj, hv]
    exact ⟨c 0 _ (by omega) rfl, c 1 _ (by omega) rfl, c 2 _ (by omega) rfl, c 3 _ (by omega) rfl⟩
theorem row_slice {w : World} {base n : Nat} {v : Value} {xs : List Value} (h : w.ownsRow base 136 4 v n xs) : ∃ a cap, v = .slice a n cap ∧ n ≤ cap := by
  rcases h.2 with ⟨rfl, h0⟩ | ⟨g, cap, cur, rfl, _, _, h9, _⟩
  · exact ⟨none, 0, by rw [h0], by omega⟩
  · exact ⟨_, cap, rfl, by omega⟩
theorem run_app_zeroV (w : World) (ty : TypeId) (ba : Option Addr) (n c : Nat) (xa : Option Addr) (xc : Nat) (h : n ≤ c) :
    (Builtin.append_ #[103, 103] ty #[.slice ba n c, .slice xa 0 xc]).run Tryz.prog w = .ok (.slice ba n c) w := by
  cases ba <;> cases xa <;> simp [Builtin.append_, go_sem, h, Builtin.firstCells, storeCells]
theorem grown_refl (w : World) (r : Option Nat) : w.grownBy w r := ⟨rfl, rfl, rfl, Nat.le_refl _, fun _ _ _ => rfl⟩
theorem wp_appV {o : Oper} {a : Act} {K : Act → World → Prop} {Q : Exit → Act → World → Prop} (w : World) (s x : Operand)
    (ho : o.op = .call { callee := .builtin .append, args := #[s, x], argTypes := #[103, 103] })
    (base : Nat) (v : Value) (xs : List Vr) (hs : a.eval s = v) (hown : w.ownsRow base 136 4 v xs.length (vb xs))
    (xa : Option Addr) (m c : Nat) (R : Nat → Vr) (hx : a.eval x = .slice xa m c) (hb : VersAt w xa m R) (h63 : xs.length + m ≤ 100000) (hbase : base ≤ w.heap.size)
    (h : ∀ v' w', w'.ownsRow base 136 4 v' (xs ++ vL R m).length (vb (xs ++ vL R m)) → w.grownBy w' v.ownBlock → K (a.put o.dst v') w') : o.wp Tryz.prog a w K Q := by
  by_cases hm : m = 0
  · subst hm
    obtain ⟨ba, cap, rfl, hcap⟩ := row_slice hown
    have hr := run_app_zeroV w o.type ba xs.length cap xa c hcap
    unfold Oper.wp execOp
    simp only [ho, resolve, invoke, builtin, Sem.run_bind, Sem.run_pure, Result.andThen_ok, List.map_toArray, List.map_cons, List.map_nil, hs, hx, hr]
    refine h _ w ?_ (grown_refl _ _)
    have e : xs ++ vL R 0 = xs := by simp [vL]
    rw [e]
    exact hown
  · rcases hb with hb | ⟨b, off, rfl, hbl, hc⟩
    · exact absurd hb hm
    · obtain ⟨i0, hi, hz0, hz1, hz2⟩ := info_parts infoV
      refine wp_append_own w s x 103 ho base 136 i0 _ 4 32 Tryz.underlying103 hi hz0 hz1 hz2 rfl (by decide) v xs.length (vb xs) hs hown ⟨b, off, none⟩ m c (vb (vL R m)) hx (by rw [vb_len, vL_len]) (fun j u hj => ?_) (vb_one _) (by unfold maxLen; omega) (by omega) hbase fun v' w' h2 h3 _ => h v' w' ?_ h3
      · have hjl : j < m * 4 := by
          have := (List.getElem?_eq_some_iff.1 hj).1
          rwa [vb_len, vL_len] at this
        have hg := vb_get (vL R m) (j / 4) (j % 4) (R (j / 4)) (vL_get (by omega)) (by omega)
        rw [show j / 4 * 4 + j % 4 = j by omega, hj] at hg
        rw [WideShapes.add_plain]
        obtain ⟨c0, c1, c2, c3⟩ := hc (j / 4) (by omega)
        have hd : j % 4 = 0 ∨ j % 4 = 1 ∨ j % 4 = 2 ∨ j % 4 = 3 := by omega
        rcases hd with e | e | e | e
        · rw [e] at hg; rw [show off + j = off + j / 4 * 4 by omega, c0, hg]; rfl
        · rw [e] at hg; rw [show off + j = off + j / 4 * 4 + 1 by omega, c1, hg]; rfl
        · rw [e] at hg; rw [show off + j = off + j / 4 * 4 + 2 by omega, c2, hg]; rfl
        · rw [e] at hg; rw [show off + j = off + j / 4 * 4 + 3 by omega, c3, hg]; rfl
      · rw [List.length_append, vL_len, vb_app]
        exact h2
theorem wpList_appV {ops : Array Oper} {rest : List Oper} {o : Oper} {a : Act} {Q : Exit → Act → World → Prop} (w : World) (hgd : o.guard = none) (s x : Operand)
    (ho : o.op = .call { callee := .builtin .append, args := #[s, x], argTypes := #[103, 103] })
    (base : Nat) (v : Value) (xs : List Vr) (hs : a.eval s = v) (hown : w.ownsRow base 136 4 v xs.length (vb xs))
    (xa : Option Addr) (m c : Nat) (R : Nat → Vr) (hx : a.eval x = .slice xa m c) (hb : VersAt w xa m R) (h63 : xs.length + m ≤ 100000) (hbase : base ≤ w.heap.size)
    (h : ∀ v' w', w'.ownsRow base 136 4 v' (xs ++ vL R m).length (vb (xs ++ vL R m)) → w.grownBy w' v.ownBlock → wpList Tryz.prog ops Q rest (a.put o.dst v') w') : wpList Tryz.prog ops Q (o :: rest) a w :=
  wpList_plain hgd fun _ hK => wp_appV w s x ho base v xs hs hown xa m c R hx hb h63 hbase fun v' w' h2 h3 => hK _ _ (h v' w' h2 h3)
theorem step_appV {ops : Array Oper} {o : Oper} {a : Act} {K : Act → World → Prop} {Q : Exit → Act → World → Prop} {E : Prop} (w : World) (hgd : o.guard = none) (s x : Operand)
    (ho : o.op = .call { callee := .builtin .append, args := #[s, x], argTypes := #[103, 103] })
    (base : Nat) (v : Value) (xs : List Vr) (hs : a.eval s = v) (hown : w.ownsRow base 136 4 v xs.length (vb xs))
    (xa : Option Addr) (m c : Nat) (R : Nat → Vr) (hx : a.eval x = .slice xa m c) (hb : VersAt w xa m R) (h63 : xs.length + m ≤ 100000) (hbase : base ≤ w.heap.size)
    (h : ∀ v' w', w'.ownsRow base 136 4 v' (xs ++ vL R m).length (vb (xs ++ vL R m)) → w.grownBy w' v.ownBlock → K (a.put o.dst v') w') :
    if Region.wanted o (yielded ops a.tmps) = true then Oper.wp Tryz.prog o a w K Q else E := by
  have hw : Region.wanted o (yielded ops a.tmps) = true := by simp [Region.wanted, hgd]
  rw [if_pos hw]
  exact wp_appV w s x ho base v xs hs hown xa m c R hx hb h63 hbase h
/-- An answer that is versions, of the call's own. -/
def VAns (m : Nat) (S : Nat → Vr) (w : World) (e : Ending) (w' : World) : Prop := ∃ a cap, e = .returned (.slice a m cap) ∧ Below w.heap.size w w' ∧ Own4 w' w.heap.size w'.heap.size a m S
theorem VAns.of {w w' : World} {v : Value} {xs : List Vr} {base : Nat} (hb : Below w.heap.size w w') (hl : w.heap.size ≤ base) (h : w'.ownsRow base 136 4 v xs.length (vb xs)) : VAns xs.length (fun i => xs.getD i zV) w (.returned v) w' := by
  obtain ⟨a, cap, rfl, _⟩ := row_slice h
  exact ⟨a, cap, rfl, hb, (own4_of_row rfl h).wide hl (Nat.le_refl _) (Nat.le_refl _)⟩
theorem vL_getD {R : Nat → Vr} {n i : Nat} (h : i < n) : (vL R n).getD i zV = R i := by rw [List.getD_eq_getElem?_getD, vL_get h]; rfl
theorem l5Copy_any (n : Nat) (R : Nat → Vr) (a : Option Addr) (cap : Nat) (w : World) (hn : n ≤ 100000) (h : VersAt w a n R) :
    Calls Tryz.prog 100 #[.slice a n cap] w (VAns n R w) := by
  have HA : Hid (∀ o : Obj, VersAt (w.alloc o) a n R) := fun o => h.below (below_new _ _)
  have HO : Hid ((w.alloc (.cells #[] 136)).ownsRow w.heap.size 136 4 (.slice (some ⟨w.heap.size, 0, none⟩) 0 0) 0 []) := World.ownsRow_made w #[] 0 (Nat.le_refl _) (by unfold maxLen; omega) rfl
  clear h
  go_enter Tryz.func100, Tryz.ntmps100
  go_wp2_with (at_builtin; refine wpList_appV _ rfl (.tmp 3) (.tmp 4) rfl w.heap.size _ [] rfl HO.out a n cap R rfl (HA.out _) (by simpa using hn) (by simp) ?_)
  intro v1 w1 ho1 hg1
  have HB1 : Hid (Below w.heap.size w w1) := (below_new w _).grown hg1 (by simp) (fun q hq => (HO.out.lt q hq).1)
  have HO1 : Hid (VAns n R w (.returned v1) w1) := by
    obtain ⟨a', cap', h1, h2, h3⟩ := VAns.of HB1.out (Nat.le_refl _) ho1
    rw [vL_len] at h1 h3
    exact ⟨a', cap', h1, h2, h3.congr (fun i hi => vL_getD hi)⟩
  clear ho1 hg1
  go_wp2_with fail
  go_ret
  exact HO1.out
/-- Pieces joined, the first k of them. -/
def jv (N : Nat → Nat) (Z : Nat → Nat → Vr) : Nat → List Vr
  | 0 => []
  | k + 1 => jv N Z k ++ vL (Z k) (N k)
theorem jv_len (N : Nat → Nat) (Z : Nat → Nat → Vr) : ∀ k, (∀ i, i < k → N i ≤ 100) → (jv N Z k).length ≤ k * 100
  | 0, _ => by simp [jv]
  | k + 1, h => by
    have h1 := jv_len N Z k (fun i hi => h i (by omega))
    have h2 := h k (by omega)
    simp only [jv, List.length_append, vL_len]; omega
set_option maxHeartbeats 2000000 in
theorem joined_any (m : Nat) (A : Nat → Option Addr) (N C : Nat → Nat) (Z : Nat → Nat → Vr) (pb po pc : Nat) (w : World) (hs : ∀ i, i < m → N i ≤ 100) (hpb : pb < w.heap.size)
    (hp : ∀ i, i < m → w.cell? ⟨pb, po + i, none⟩ = some (.slice (A i) (N i) (C i)) ∧ VersAt w (A i) (N i) (Z i)) (hm : m ≤ 3) :
    Calls Tryz.prog 132 #[.slice (some ⟨pb, po, none⟩) m pc] w (VAns (jv N Z m).length (fun i => (jv N Z m).getD i zV) w) := by
  have HP : Hid (∀ i, i < m → w.cell? ⟨pb, po + i, none⟩ = some (.slice (A i) (N i) (C i)) ∧ VersAt w (A i) (N i) (Z i)) := hp
  clear hp
  go_enter Tryz.func132, Tryz.ntmps132
  go_wp2_with fail
  go_loopw [3, 5, 8] (fun v _ i wr => ∃ k : Nat, k ≤ m ∧ i = .int .i64 k ∧ Hid (Below w.heap.size w wr) ∧ Hid (wr.ownsRow w.heap.size 136 4 v (jv N Z k).length (vb (jv N Z k)))) (fun _ _ i _ => m - (intOf i).toNat)
  case atStart => exact ⟨0, by omega, rfl, Below.refl _ _, World.ownsRow_nil _ _ _ _⟩
  case round =>
    obtain ⟨k, hk, rfl, HB, HO⟩ := hrel
    by_cases hlt : k < m
    · have hlt' : (k : Int) < (m : Int) := by omega
      have hk1 : (0 : Int) ≤ (k : Int) := by omega
      have hc := cell_below (HP.out k hlt).1 HB.out
      have HBA : Hid (VersAt wr (A k) (N k) (Z k)) := (HP.out k hlt).2.below HB.out
      have HLE : Hid ((jv N Z k).length + N k ≤ 100000) := by
        have h1 := jv_len N Z k (fun i hi => hs i (by omega))
        have h2 := hs k hlt
        show (jv N Z k).length + N k ≤ 100000
        omega
      go_wp2_with (at_builtin; refine wpList_appV _ rfl (.tmp 12) (.tmp 13) rfl w.heap.size _ (jv N Z k) rfl HO.out (A k) (N k) (C k) (Z k) rfl HBA.out HLE.out HB.out.size ?_)
      intro v1 w1 ho1 hg1
      have HO1 : Hid (w1.ownsRow w.heap.size 136 4 v1 (jv N Z (k + 1)).length (vb (jv N Z (k + 1)))) := by
        show w1.ownsRow w.heap.size 136 4 v1 (jv N Z k ++ vL (Z k) (N k)).length (vb (jv N Z k ++ vL (Z k) (N k)))
        rw [List.length_append]
        exact ho1
      have HB1 : Hid (Below w.heap.size w w1) := HB.out.grown hg1 HB.out.size (fun q hq => (HO.out.lt q hq).1)
      clear ho1 hg1
      go_wp2_with fail
      go_roundw
      case rel => exact ⟨k + 1, hlt, by go_num, HB1, HO1⟩
      case measure => simp [intOf]; omega
    · have hkn : k = m := by omega
      subst hkn
      have HF := VAns.of HB.out (Nat.le_refl _) HO.out
      go_wp2_with fail
      go_ret
      exact HF
/-- An answer that is a chain. -/
def CRes (c : Int) (m : Nat) (S : Nat → Vr) (w : World) (e : Ending) (w' : World) : Prop := ∃ a cap, e = .returned (.agg #[.int .i64 c, .slice a m cap]) ∧ Below w.heap.size w w' ∧ Own4 w' w.heap.size w'.heap.size a m S
/-- What lies behind the store of an answer into its box. -/
theorem cres_end {w w3 : World} {lo m : Nat} {a : Option Addr} {S : Nat → Vr} (hb : Below w.heap.size w w3) (hl : w.heap.size < lo) (ho : Own4 w3 lo w3.heap.size a m S) (u0 u1 : Value) :
    Below w.heap.size w ((w3.setCell ⟨w.heap.size, 0, none⟩ u0).setCell ⟨w.heap.size, 1, none⟩ u1) ∧
      Own4 ((w3.setCell ⟨w.heap.size, 0, none⟩ u0).setCell ⟨w.heap.size, 1, none⟩ u1) w.heap.size ((w3.setCell ⟨w.heap.size, 0, none⟩ u0).setCell ⟨w.heap.size, 1, none⟩ u1).heap.size a m S := by
  refine ⟨(hb.setCell (p := ⟨w.heap.size, 0, none⟩) (Nat.le_refl _) _).setCell (p := ⟨w.heap.size, 1, none⟩) (Nat.le_refl _) _, ?_⟩
  have hw : Writes w.heap.size (w.heap.size + 1) w3 ((w3.setCell ⟨w.heap.size, 0, none⟩ u0).setCell ⟨w.heap.size, 1, none⟩ u1) :=
    ((Writes.refl _ _ _).setCell (p := ⟨w.heap.size, 0, none⟩) (Nat.le_refl _) (Nat.lt_succ_self _) _).setCell (p := ⟨w.heap.size, 1, none⟩) (Nat.le_refl _) (Nat.lt_succ_self _) _
  exact (ho.writes hw (.inr (by omega))).wide (by omega) hw.size (Nat.le_refl _)
theorem own4_none {w : World} {lo : Nat} {a : Option Addr} {S : Nat → Vr} : Own4 w lo w.heap.size a 0 S := ⟨Nat.le_refl _, .inl rfl⟩
def roC (n : Nat) (R : Nat → Vr) (x : Int) : Int := if chF n R = 0 then (if inB x 1 999 = true then (if fob n R x = true then 0 else 4) else 3) else chF n R
def roN (n : Nat) (R : Nat → Vr) (x : Int) : Nat := if roC n R x = 0 then n - 1 else 0
theorem VersAt.rest {w : World} {b off n : Nat} {R : Nat → Vr} (h : VersAt w (some ⟨b, off, none⟩) n R) : VersAt w (some ⟨b, off + 4, none⟩) (n - 1) (fun i => R (i + 1)) := by
  rcases h with h | ⟨b', off', e, hl, hc⟩
  · exact .inl (by omega)
  · simp only [Option.some.injEq, Addr.mk.injEq] at e
    obtain ⟨rfl, rfl, -⟩ := e
    refine .inr ⟨b, off + 4, rfl, hl, fun i hi => ?_⟩
    have := hc (i + 1) (by omega)
    rw [show off + (i + 1) * 4 = off + 4 + i * 4 by omega] at this
    exact this
def coG (n : Nat) (R : Nat → Vr) (y : Int) : Bool := decide (1 < n) && decide (y ≤ (R 1).a)
def coC (n : Nat) (R : Nat → Vr) (x y : Int) : Int := if chF n R = 0 then (if (inB x 1 999 && inB y 1 1000000) = true then (if fob n R x = true then (if coG n R y = true then 1 else 0) else 4) else 3) else chF n R
def coN (n : Nat) (R : Nat → Vr) (x y : Int) : Nat := if coC n R x y = 0 then n else 0
def coS (R : Nat → Vr) (y : Int) (i : Nat) : Vr := if i = 0 then ⟨(R 0).t, y, (R 0).g, (R 0).v⟩ else R i
theorem row4_at {w : World} {b off n : Nat} {R : Nat → Vr} {y : Int} (hp : 0 < n) (h : Row4 w b off n R) : Row4 (w.setCell ⟨b, off + 1, none⟩ (.int .i64 y)) b off n (coS R y) := by
  refine ⟨fun i hi => ?_, fun i => by rw [World.frozen?_setCell]; exact h.2 i⟩
  obtain ⟨h0, h1, h2, h3⟩ := h.1 i hi
  by_cases e : i = 0
  · subst e
    rw [show coS R y 0 = ⟨(R 0).t, y, (R 0).g, (R 0).v⟩ from rfl]
    rw [Nat.zero_mul, Nat.add_zero] at *
    exact ⟨by rw [setO (by omega)]; exact h0, setS h1, by rw [setO (by omega)]; exact h2, by rw [setO (by omega)]; exact h3⟩
  · rw [show coS R y i = R i from if_neg e]
    exact ⟨by rw [setO (by omega)]; exact h0, by rw [setO (by omega)]; exact h1, by rw [setO (by omega)]; exact h2, by rw [setO (by omega)]; exact h3⟩
theorem own4_some {w : World} {lo hi n : Nat} {a : Option Addr} {R : Nat → Vr} (h : Own4 w lo hi a n R) (hp : 0 < n) : ∃ b off, a = some ⟨b, off, none⟩ ∧ lo ≤ b ∧ b < hi ∧ hi ≤ w.heap.size ∧ Row4 w b off n R := by
  obtain ⟨h0, h1 | ⟨b, off, ha, h2, h3, h4⟩⟩ := h
  · omega
  · exact ⟨b, off, ha, h2, h3, h0, h4⟩
/-- How many versions a purge at f leaves. -/
def puN (n : Nat) (R : Nat → Vr) (f : Int) : Nat := if told n R f 0 = true then pS n R f 0 + 1 else pS n R f 0
/-- A good chain, met by nobody's view: what is committed at the floor or ahead of it. -/
theorem kd_nobody {n : Nat} {R : Nat → Vr} {f : Int} {i : Nat} (hc : chF n R = 0) (hi : i < n) : kd (R i) f 0 = 0 ↔ ¬ ((R i).a ≠ 0 ∧ (R i).a ≤ f) := by
  have hg := ((chF_good hc).2 i hi).1
  have ht : inB (R i).t 1 999 = true := by
    simp only [vR, Bool.and_eq_true] at hg
    exact hg.1.1
  rw [inB_iff] at ht
  unfold kd
  by_cases h : (R i).a ≠ 0 ∧ (R i).a ≤ f
  · rw [if_pos (.inl h)]
    constructor
    · intro h9; cases hgg : (R i).g <;> simp [hgg] at h9
    · intro h9; exact absurd h h9
  · rw [if_neg (by intro h9; rcases h9 with h9 | h9; exact h h9; omega)]
    exact ⟨fun _ => h, fun _ => rfl⟩
set_option maxHeartbeats 4000000 in
theorem l5Purge_any (n : Nat) (R : Nat → Vr) (a : Option Addr) (cap : Nat) (f : Int) (w : World) (hc0 : chF n R = 0) (h : VersAt w a n R) :
    Calls Tryz.prog 87 #[.slice a n cap, .int .i64 f] w (VAns (puN n R f) R w) := by
  have hn := (chF_good hc0).1
  have HC0 : Hid (chF n R = 0) := hc0
  have HA : Hid (VersAt w a n R) := h
  clear h hc0
  have HO0 : Hid ((w.alloc (.cells #[] 136)).ownsRow w.heap.size 136 4 (.slice (some ⟨w.heap.size, 0, none⟩) 0 0) 0 []) := World.ownsRow_made w #[] 0 (Nat.le_refl _) (by unfold maxLen; omega) rfl
  go_enter Tryz.func87, Tryz.ntmps87
  go_wp2_with fail
  go_loopw [5, 6] (fun v i wr => ∃ k : Nat, k ≤ n ∧ i = .int .i64 k ∧ Hid (pS n R f 0 = psn R f 0 (n - k) k) ∧ Hid (Below w.heap.size w wr) ∧ Hid (∀ j, j < k → kd (R j) f 0 = 0) ∧ ∃ ra rc, v = .slice ra k rc ∧ Hid (wr.ownsRow w.heap.size 136 4 (.slice ra k rc) k (vb (vL R k)))) (fun _ i _ => n - (intOf i).toNat)
  case atStart => exact ⟨0, Nat.zero_le _, rfl, rfl, below_new _ _, fun j hj => absurd hj (Nat.not_lt_zero _), _, _, rfl, HO0⟩
  case round =>
    obtain ⟨k, hk0, rfl, HE, HB, HKZ, ra, rc, rfl, HO⟩ := hrel
    by_cases hlt : k < n
    · have HE2 : Hid (pS n R f 0 = _) := HE.out.trans (psn_at hlt)
      obtain ⟨b, off, rfl, hl, hcc⟩ : ∃ b off, a = some ⟨b, off, none⟩ ∧ b < w.heap.size ∧ C4 wr b (off + k * 4) (R k) := by
        rcases HA.out with h | ⟨b, off, ha, hl, hc⟩
        · omega
        · exact ⟨b, off, ha, hl, (hc k hlt).block (HB.out.block _ hl)⟩
      have hlt' : (k : Int) < (n : Int) := by omega
      have hk1 : (0 : Int) ≤ (k : Int) := by omega
      have hkd := kd_nobody (f := f) HC0.out hlt
      have HOA : Hid (∀ o : Obj, (wr.alloc o).ownsRow w.heap.size 136 4 (.slice ra k rc) (vL R k).length (vb (vL R k))) := fun o => by rw [vL_len]; exact HO.out.alloc o
      have HVN : Hid (VersAt (wr.alloc (.cells #[.int .i64 (R k).t, .int .i64 (R k).a, .bool (R k).g, .int .i64 (R k).v] 136)) (some ⟨wr.heap.size, 0, none⟩) 1 (fun _ => R k)) := .inr ⟨wr.heap.size, 0, rfl, by simp, fun i hi => by
        obtain rfl : i = 0 := by omega
        simp [C4]⟩
      have HLE : Hid ((vL R k).length + 1 ≤ 100000) := by show (vL R k).length + 1 ≤ 100000; rw [vL_len]; omega
      have HSZ : Hid (∀ o : Obj, w.heap.size ≤ (wr.alloc o).heap.size) := fun o => by rw [World.size_alloc]; have := HB.out.size; omega
      obtain ⟨x0, x1, x2, x3⟩ := hcc
      go_wp2_with (at_builtin; refine wpList_appV _ rfl (.tmp 15) (.tmp 20) rfl w.heap.size _ (vL R k) rfl (HOA.out _) (some ⟨wr.heap.size, 0, none⟩) 1 1 (fun _ => R k) rfl HVN.out HLE.out (HSZ.out _) ?_)
      intro v1 w1 ho1 hg1
      have e1 : vL R k ++ vL (fun _ => R k) 1 = vL R (k + 1) := by simp [vL, List.range_succ]
      have e2 : (vL R (k + 1)).length = k + 1 := vL_len _ _
      rw [← List.length_append, e1, e2] at ho1
      obtain ⟨rb, rd, rfl, hrd⟩ := row_slice ho1
      have HB1 : Hid (Below w.heap.size w w1) := ((HB.out.alloc (by have := HB.out.size; omega) _).grown hg1 (HSZ.out _) (fun q hq => (HO.out.lt q hq).1))
      have HO1 : Hid (w1.ownsRow w.heap.size 136 4 (.slice rb (k + 1) rd) (k + 1) (vb (vL R (k + 1)))) := ho1
      have HW1 := (own4_of_row (vL_len R (k + 1)) ho1).congr (S := R) (fun i hi => vL_getD hi)
      obtain ⟨z0, z1, z2, z3⟩ : C4 w1 b (off + k * 4) (R k) := by
        rcases HA.out with h | ⟨b', off', ha, hl', hc⟩
        · omega
        · simp only [Option.some.injEq, Addr.mk.injEq] at ha
          obtain ⟨rfl, rfl, -⟩ := ha
          exact (hc k hlt).block (HB1.out.block _ hl')
      clear ho1 hg1 x0 x1 x2 x3 HOA HVN HLE HSZ HE e1 e2 HO
      by_cases hz : (R k).a ≠ 0 ∧ (R k).a ≤ f
      · have hne : ¬ kd (R k) f 0 = 0 := fun h9 => (hkd.1 h9) hz
        have hpS : pS n R f 0 = k := HE2.out.trans (if_neg hne)
        obtain ⟨hz1, hz2⟩ := hz
        have hz3 : ((R k).a != 0) = true := by simp [hz1]
        obtain ⟨ob, oo, rfl, hlo, hhi, hsz, hrow⟩ := own4_some HW1 (by omega)
        obtain ⟨y0, y1, y2, y3⟩ := hrow.1 k (by omega)
        have hrd1 : (k : Int) + 1 ≤ (rd : Int) := by omega
        have hwk : IntKind.i64.wrap (k : Int) = (k : Int) := by rw [IntKind.wrap_i64]; omega
        have hkr : (k : Int) ≤ (rd : Int) := by omega
        cases hgg : (R k).g
        · have hpu : puN n R f = k + 1 := by
            unfold puN
            rw [if_pos (told_iff.2 (by rw [hpS]; exact ⟨hlt, hgg⟩)), hpS]
          have HF : Hid (VAns (puN n R f) R w (.returned (.slice (some ⟨ob, oo, none⟩) (k + 1) rd)) w1) := by rw [hpu]; exact ⟨_, _, rfl, HB1.out, HW1⟩
          rw [hgg] at y2
          clear hpu hpS HE2 HW1 hrow hgg HC0 hkd hne HA HO1
          generalize (R k).a = ka at *
          generalize (R k).t = kt at *
          generalize (R k).v = kv at *
          go_wp2_with fail
          go_ret
          exact HF.out
        · have hpu : puN n R f = k := by
            unfold puN
            rw [if_neg (fun h9 => by have h8 := (told_iff.1 h9).2; rw [hpS, hgg] at h8; cases h8), hpS]
          have HF : Hid (VAns (puN n R f) R w (.returned (.slice (some ⟨ob, oo, none⟩) k rd)) w1) := by
            rw [hpu]
            exact ⟨_, _, rfl, HB1.out, Nat.le_refl _, .inr ⟨ob, oo, rfl, hlo, hhi, fun i hi => hrow.1 i (by omega), hrow.2⟩⟩
          rw [hgg] at y2
          clear hpu hpS HE2 HW1 hrow hgg HC0 hkd hne HA HO1
          generalize (R k).a = ka at *
          generalize (R k).t = kt at *
          generalize (R k).v = kv at *
          go_wp2_with fail
          go_ret
          exact HF.out
      · have hk00 : kd (R k) f 0 = 0 := hkd.2 hz
        have HE : Hid (pS n R f 0 = psn R f 0 (n - (k + 1)) (k + 1)) := HE2.out.trans (if_pos hk00)
        have HKZ1 : Hid (∀ j, j < k + 1 → kd (R j) f 0 = 0) := fun j hj => by
          by_cases e : j = k
          · subst e; exact hk00
          · exact HKZ.out j (by omega)
        by_cases ha : (R k).a = 0
        · rw [ha] at z1
          clear hz hkd hk00 HW1 HE2 z0 z2 z3 ha
          go_wp2_with fail
          go_roundw
          case rel => exact ⟨k + 1, hlt, by go_num, HE, HB1, HKZ1, _, _, rfl, HO1⟩
          case measure => simp [intOf]; omega
        · have ha1 : ((R k).a != 0) = true := by simp [ha]
          have ha2 : decide ((R k).a ≤ f) = false := by simp; exact Int.not_le.1 fun h9 => hz ⟨ha, h9⟩
          clear hz hkd hk00 HW1 HE2 z0 z2 z3
          generalize (R k).a = ka at *
          go_wp2_with fail
          go_roundw
          case rel => exact ⟨k + 1, hlt, by go_num, HE, HB1, HKZ1, _, _, rfl, HO1⟩
          case measure => simp [intOf]; omega
    · have hkn : k = n := by omega
      have hpS : pS n R f 0 = n := by
        refine HE.out.trans ?_
        rw [show n - k = 0 by omega, psn, hkn]
      have hpu : puN n R f = k := by
        unfold puN
        rw [if_neg (fun h9 => by have h8 := (told_iff.1 h9).1; omega), hpS, hkn]
      have hnl : ¬ ((k : Int) < (n : Int)) := by omega
      have HW1 := (own4_of_row (vL_len R k) HO.out).congr (S := R) (fun i hi => vL_getD hi)
      have HF : Hid (VAns (puN n R f) R w (.returned (.slice ra k rc)) wr) := by rw [hpu]; exact ⟨_, _, rfl, HB.out, HW1⟩
      rcases Nat.eq_zero_or_pos k with hk9 | hpos
      · subst hk9
        clear HW1 HO HE hpu hpS HKZ HA HC0 hkn hlt hk0
        go_wp2_with fail
        go_ret
        exact HF.out
      · obtain ⟨j, rfl⟩ : ∃ j, k = j + 1 := ⟨k - 1, by omega⟩
        obtain ⟨ob, oo, rfl, hlo, hhi, hsz, hrow⟩ := own4_some HW1 (by omega)
        obtain ⟨y0, y1, y2, y3⟩ := hrow.1 j (by omega)
        have hwk : IntKind.i64.wrap (j : Int) = (j : Int) := by rw [IntKind.wrap_i64]; omega
        have hj0 : (0 : Int) < (j : Int) + 1 := by omega
        have hkz := (kd_nobody (f := f) HC0.out (i := j) (by omega)).1 (HKZ.out j (by omega))
        clear HW1 HO HE hpu hpS HKZ HA HC0 hrow y0 y3 hkn hlt
        cases hgg : (R j).g
        · rw [hgg] at y2
          clear hgg hkz
          go_wp2_with fail
          go_ret
          exact HF.out
        · rw [hgg] at y2
          clear hgg
          by_cases ha : (R j).a = 0
          · rw [ha] at y1
            clear hkz ha
            go_wp2_with fail
            go_ret
            exact HF.out
          · have ha1 : ((R j).a != 0) = true := by simp [ha]
            have ha2 : decide ((R j).a ≤ f) = false := by simp; exact Int.not_le.1 fun h9 => hkz ⟨ha, h9⟩
            clear hkz
            generalize (R j).a = ka at *
            go_wp2_with fail
            go_ret
            exact HF.out
/-- Versions as cells. -/
def v4w (r : Vr) : List Value := [.int .i64 r.t, .int .i64 r.a, .bool r.g, .int .i64 r.v]
def vbw : List Vr → List Value
  | [] => []
  | r :: rs => v4w r ++ vbw rs
theorem vb_lenw : ∀ xs, (vbw xs).length = xs.length * 4
  | [] => rfl
  | r :: rs => by simp only [vbw, List.length_append, vb_lenw rs, v4w, List.length_cons, List.length_nil]; omega
theorem vb_appw : ∀ xs ys, vbw (xs ++ ys) = vbw xs ++ vbw ys
  | [], ys => rfl
  | r :: rs, ys => by simp only [vbw, List.cons_append, vb_appw rs ys, List.append_assoc]
theorem vb_getw : ∀ (xs : List Vr) (i j : Nat) (r : Vr), xs[i]? = some r → j < 4 → (vbw xs)[i * 4 + j]? = (v4w r)[j]?
  | [], i, j, r, h, _ => by simp at h
  | x :: xs, 0, j, r, h, hj => by
    simp only [List.getElem?_cons_zero, Option.some.injEq] at h
    subst h
    simp only [vbw]
    rw [List.getElem?_append_left (by simp [v4w]; omega)]
    congr 1; omega
  | x :: xs, i + 1, j, r, h, hj => by
    simp only [List.getElem?_cons_succ] at h
    simp only [vbw]
    rw [List.getElem?_append_right (by simp [v4w]; omega)]
    have := vb_getw xs i j r h hj
    rw [← this]
    congr 1
    simp [v4w]; omega
theorem vb_onew : ∀ xs, ∀ u ∈ vbw xs, u.oneCell' = true
  | [], u, h => by simp [vbw] at h
  | r :: rs, u, h => by
    simp only [vbw, List.mem_append] at h
    rcases h with h | h
    · simp [v4w] at h
      rcases h with rfl | rfl | rfl | rfl <;> rfl
    · exact vb_onew rs u h
/-- The first n of R, as a list. -/
def vLw (R : Nat → Vr) (n : Nat) : List Vr := (List.range n).map R
theorem vL_lenw (R : Nat → Vr) (n : Nat) : (vLw R n).length = n := by simp [vLw]
theorem vL_getw {R : Nat → Vr} {n i : Nat} (h : i < n) : (vLw R n)[i]? = some (R i) := by simp [vLw, h]
theorem own4_of_roww {w : World} {base n : Nat} {a : Option Addr} {cap : Nat} {xs : List Vr} (hl : xs.length = n) (h : w.ownsRow base 136 4 (.slice a n cap) n (vbw xs)) : Own4 w base w.heap.size a n (fun i => xs.getD i zV) := by
  rcases h.2 with ⟨e, h0⟩ | ⟨g, cap', cur, e, hbg, hg, _⟩
  · exact ⟨Nat.le_refl _, .inl h0⟩
  · simp only [Value.slice.injEq, true_and] at e
    obtain ⟨rfl, rfl⟩ := e
    have hlt : g < w.heap.size := by
      obtain ⟨hlt, _⟩ := Array.getElem?_eq_some_iff.1 hg
      exact hlt
    refine ⟨Nat.le_refl _, .inr ⟨g, 0, rfl, hbg, hlt, fun i hi => ?_, fun i => h.frozenAt _⟩⟩
    obtain ⟨r, hr⟩ : ∃ r, xs[i]? = some r := ⟨xs[i]'(by omega), by simp [hl, hi]⟩
    have er : xs.getD i zV = r := by rw [List.getD_eq_getElem?_getD, hr]; rfl
    show C4 w g (0 + i * 4) (xs.getD i zV)
    rw [er]
    have c : ∀ j v, j < 4 → (v4w r)[j]? = some v → w.cell? ⟨g, 0 + i * 4 + j, none⟩ = some v := fun j v hj hv => by
      rw [h.cellAt (0 + i * 4 + j) (by omega), show 0 + i * 4 + j = i * 4 + j by omega, vb_getw xs i j r hr hj, hv]
    exact ⟨c 0 _ (by omega) rfl, c 1 _ (by omega) rfl, c 2 _ (by omega) rfl, c 3 _ (by omega) rfl⟩
theorem row_slicew {w : World} {base n : Nat} {v : Value} {xs : List Value} (h : w.ownsRow base 136 4 v n xs) : ∃ a cap, v = .slice a n cap ∧ n ≤ cap := by
  rcases h.2 with ⟨rfl, h0⟩ | ⟨g, cap, cur, rfl, _, _, h9, _⟩
  · exact ⟨none, 0, by rw [h0], by omega⟩
  · exact ⟨_, cap, rfl, by omega⟩
theorem run_app_zeroVw (w : World) (ty : TypeId) (ba : Option Addr) (n c : Nat) (xa : Option Addr) (xc : Nat) (h : n ≤ c) :
    (Builtin.append_ #[103, 103] ty #[.slice ba n c, .slice xa 0 xc]).run Tryz.prog w = .ok (.slice ba n c) w := by
  cases ba <;> cases xa <;> simp [Builtin.append_, go_sem, h, Builtin.firstCells, storeCells]
theorem wp_appVw {o : Oper} {a : Act} {K : Act → World → Prop} {Q : Exit → Act → World → Prop} (w : World) (s x : Operand)
    (ho : o.op = .call { callee := .builtin .append, args := #[s, x], argTypes := #[103, 103] })
    (base : Nat) (v : Value) (xs : List Vr) (hs : a.eval s = v) (hown : w.ownsRow base 136 4 v xs.length (vbw xs))
    (xa : Option Addr) (m c : Nat) (R : Nat → Vr) (hx : a.eval x = .slice xa m c) (hb : VersAt w xa m R) (h63 : xs.length + m ≤ 100000) (hbase : base ≤ w.heap.size)
    (h : ∀ v' w', w'.ownsRow base 136 4 v' (xs ++ vLw R m).length (vbw (xs ++ vLw R m)) → w.grownBy w' v.ownBlock → K (a.put o.dst v') w') : o.wp Tryz.prog a w K Q := by
  by_cases hm : m = 0
  · subst hm
    obtain ⟨ba, cap, rfl, hcap⟩ := row_slicew hown
    have hr := run_app_zeroVw w o.type ba xs.length cap xa c hcap
    unfold Oper.wp execOp
    simp only [ho, resolve, invoke, builtin, Sem.run_bind, Sem.run_pure, Result.andThen_ok, List.map_toArray, List.map_cons, List.map_nil, hs, hx, hr]
    refine h _ w ?_ (grown_refl _ _)
    have e : xs ++ vLw R 0 = xs := by simp [vLw]
    rw [e]
    exact hown
  · rcases hb with hb | ⟨b, off, rfl, hbl, hc⟩
    · exact absurd hb hm
    · obtain ⟨i0, hi, hz0, hz1, hz2⟩ := info_parts infoV
      refine wp_append_own w s x 103 ho base 136 i0 _ 4 32 Tryz.underlying103 hi hz0 hz1 hz2 rfl (by decide) v xs.length (vbw xs) hs hown ⟨b, off, none⟩ m c (vbw (vLw R m)) hx (by rw [vb_lenw, vL_lenw]) (fun j u hj => ?_) (vb_onew _) (by unfold maxLen; omega) (by omega) hbase fun v' w' h2 h3 _ => h v' w' ?_ h3
      · have hjl : j < m * 4 := by
          have := (List.getElem?_eq_some_iff.1 hj).1
          rwa [vb_lenw, vL_lenw] at this
        have hg := vb_getw (vLw R m) (j / 4) (j % 4) (R (j / 4)) (vL_getw (by omega)) (by omega)
        rw [show j / 4 * 4 + j % 4 = j by omega, hj] at hg
        rw [WideShapes.add_plain]
        obtain ⟨c0, c1, c2, c3⟩ := hc (j / 4) (by omega)
        have hd : j % 4 = 0 ∨ j % 4 = 1 ∨ j % 4 = 2 ∨ j % 4 = 3 := by omega
        rcases hd with e | e | e | e
        · rw [e] at hg; rw [show off + j = off + j / 4 * 4 by omega, c0, hg]; rfl
        · rw [e] at hg; rw [show off + j = off + j / 4 * 4 + 1 by omega, c1, hg]; rfl
        · rw [e] at hg; rw [show off + j = off + j / 4 * 4 + 2 by omega, c2, hg]; rfl
        · rw [e] at hg; rw [show off + j = off + j / 4 * 4 + 3 by omega, c3, hg]; rfl
      · rw [List.length_append, vL_lenw, vb_appw]
        exact h2
theorem wpList_appVw {ops : Array Oper} {rest : List Oper} {o : Oper} {a : Act} {Q : Exit → Act → World → Prop} (w : World) (hgd : o.guard = none) (s x : Operand)
    (ho : o.op = .call { callee := .builtin .append, args := #[s, x], argTypes := #[103, 103] })
    (base : Nat) (v : Value) (xs : List Vr) (hs : a.eval s = v) (hown : w.ownsRow base 136 4 v xs.length (vbw xs))
    (xa : Option Addr) (m c : Nat) (R : Nat → Vr) (hx : a.eval x = .slice xa m c) (hb : VersAt w xa m R) (h63 : xs.length + m ≤ 100000) (hbase : base ≤ w.heap.size)
    (h : ∀ v' w', w'.ownsRow base 136 4 v' (xs ++ vLw R m).length (vbw (xs ++ vLw R m)) → w.grownBy w' v.ownBlock → wpList Tryz.prog ops Q rest (a.put o.dst v') w') : wpList Tryz.prog ops Q (o :: rest) a w :=
  wpList_plain hgd fun _ hK => wp_appVw w s x ho base v xs hs hown xa m c R hx hb h63 hbase fun v' w' h2 h3 => hK _ _ (h v' w' h2 h3)
theorem step_appVw {ops : Array Oper} {o : Oper} {a : Act} {K : Act → World → Prop} {Q : Exit → Act → World → Prop} {E : Prop} (w : World) (hgd : o.guard = none) (s x : Operand)
    (ho : o.op = .call { callee := .builtin .append, args := #[s, x], argTypes := #[103, 103] })
    (base : Nat) (v : Value) (xs : List Vr) (hs : a.eval s = v) (hown : w.ownsRow base 136 4 v xs.length (vbw xs))
    (xa : Option Addr) (m c : Nat) (R : Nat → Vr) (hx : a.eval x = .slice xa m c) (hb : VersAt w xa m R) (h63 : xs.length + m ≤ 100000) (hbase : base ≤ w.heap.size)
    (h : ∀ v' w', w'.ownsRow base 136 4 v' (xs ++ vLw R m).length (vbw (xs ++ vLw R m)) → w.grownBy w' v.ownBlock → K (a.put o.dst v') w') :
    if Region.wanted o (yielded ops a.tmps) = true then Oper.wp Tryz.prog o a w K Q else E := by
  have hw : Region.wanted o (yielded ops a.tmps) = true := by simp [Region.wanted, hgd]
  rw [if_pos hw]
  exact wp_appVw w s x ho base v xs hs hown xa m c R hx hb h63 hbase h
/-- An answer that is versions, of the call's own. -/
def VAnw (m : Nat) (S : Nat → Vr) (w : World) (e : Ending) (w' : World) : Prop := ∃ a cap, e = .returned (.slice a m cap) ∧ Below w.heap.size w w' ∧ Own4 w' w.heap.size w'.heap.size a m S ∧ m ≤ cap
theorem VAnw.of {w w' : World} {v : Value} {xs : List Vr} {base : Nat} (hb : Below w.heap.size w w') (hl : w.heap.size ≤ base) (h : w'.ownsRow base 136 4 v xs.length (vbw xs)) : VAnw xs.length (fun i => xs.getD i zV) w (.returned v) w' := by
  obtain ⟨a, cap, rfl, hcap⟩ := row_slicew h
  exact ⟨a, cap, rfl, hb, (own4_of_roww rfl h).wide hl (Nat.le_refl _) (Nat.le_refl _), hcap⟩
theorem vL_getDw {R : Nat → Vr} {n i : Nat} (h : i < n) : (vLw R n).getD i zV = R i := by rw [List.getD_eq_getElem?_getD, vL_getw h]; rfl
theorem l5Copy_anyw (n : Nat) (R : Nat → Vr) (a : Option Addr) (cap : Nat) (w : World) (hn : n ≤ 100000) (h : VersAt w a n R) :
    Calls Tryz.prog 100 #[.slice a n cap] w (VAnw n R w) := by
  have HA : Hid (∀ o : Obj, VersAt (w.alloc o) a n R) := fun o => h.below (below_new _ _)
  have HO : Hid ((w.alloc (.cells #[] 136)).ownsRow w.heap.size 136 4 (.slice (some ⟨w.heap.size, 0, none⟩) 0 0) 0 []) := World.ownsRow_made w #[] 0 (Nat.le_refl _) (by unfold maxLen; omega) rfl
  clear h
  go_enter Tryz.func100, Tryz.ntmps100
  go_wp2_with (at_builtin; refine wpList_appVw _ rfl (.tmp 3) (.tmp 4) rfl w.heap.size _ [] rfl HO.out a n cap R rfl (HA.out _) (by simpa using hn) (by simp) ?_)
  intro v1 w1 ho1 hg1
  have HB1 : Hid (Below w.heap.size w w1) := (below_new w _).grown hg1 (by simp) (fun q hq => (HO.out.lt q hq).1)
  have HO1 : Hid (VAnw n R w (.returned v1) w1) := by
    obtain ⟨a', cap', h1, h2, h3, h4⟩ := VAnw.of HB1.out (Nat.le_refl _) ho1
    rw [vL_lenw] at h1 h3 h4
    exact ⟨a', cap', h1, h2, h3.congr (fun i hi => vL_getDw hi), h4⟩
  clear ho1 hg1
  go_wp2_with fail
  go_ret
  exact HO1.out
/-- Pieces joined, the first k of them. -/
def jvw (N : Nat → Nat) (Z : Nat → Nat → Vr) : Nat → List Vr
  | 0 => []
  | k + 1 => jvw N Z k ++ vLw (Z k) (N k)
theorem jv_lenw (N : Nat → Nat) (Z : Nat → Nat → Vr) : ∀ k, (∀ i, i < k → N i ≤ 100) → (jvw N Z k).length ≤ k * 100
  | 0, _ => by simp [jvw]
  | k + 1, h => by
    have h1 := jv_lenw N Z k (fun i hi => h i (by omega))
    have h2 := h k (by omega)
    simp only [jvw, List.length_append, vL_lenw]; omega
set_option maxHeartbeats 2000000 in
theorem joined_anyw (m : Nat) (A : Nat → Option Addr) (N C : Nat → Nat) (Z : Nat → Nat → Vr) (pb po pc : Nat) (w : World) (hs : ∀ i, i < m → N i ≤ 100) (hpb : pb < w.heap.size)
    (hp : ∀ i, i < m → w.cell? ⟨pb, po + i, none⟩ = some (.slice (A i) (N i) (C i)) ∧ VersAt w (A i) (N i) (Z i)) (hm : m ≤ 3) :
    Calls Tryz.prog 132 #[.slice (some ⟨pb, po, none⟩) m pc] w (VAnw (jvw N Z m).length (fun i => (jvw N Z m).getD i zV) w) := by
  have HP : Hid (∀ i, i < m → w.cell? ⟨pb, po + i, none⟩ = some (.slice (A i) (N i) (C i)) ∧ VersAt w (A i) (N i) (Z i)) := hp
  clear hp
  go_enter Tryz.func132, Tryz.ntmps132
  go_wp2_with fail
  go_loopw [3, 5, 8] (fun v _ i wr => ∃ k : Nat, k ≤ m ∧ i = .int .i64 k ∧ Hid (Below w.heap.size w wr) ∧ Hid (wr.ownsRow w.heap.size 136 4 v (jvw N Z k).length (vbw (jvw N Z k)))) (fun _ _ i _ => m - (intOf i).toNat)
  case atStart => exact ⟨0, by omega, rfl, Below.refl _ _, World.ownsRow_nil _ _ _ _⟩
  case round =>
    obtain ⟨k, hk, rfl, HB, HO⟩ := hrel
    by_cases hlt : k < m
    · have hlt' : (k : Int) < (m : Int) := by omega
      have hk1 : (0 : Int) ≤ (k : Int) := by omega
      have hc := cell_below (HP.out k hlt).1 HB.out
      have HBA : Hid (VersAt wr (A k) (N k) (Z k)) := (HP.out k hlt).2.below HB.out
      have HLE : Hid ((jvw N Z k).length + N k ≤ 100000) := by
        have h1 := jv_lenw N Z k (fun i hi => hs i (by omega))
        have h2 := hs k hlt
        show (jvw N Z k).length + N k ≤ 100000
        omega
      go_wp2_with (at_builtin; refine wpList_appVw _ rfl (.tmp 12) (.tmp 13) rfl w.heap.size _ (jvw N Z k) rfl HO.out (A k) (N k) (C k) (Z k) rfl HBA.out HLE.out HB.out.size ?_)
      intro v1 w1 ho1 hg1
      have HO1 : Hid (w1.ownsRow w.heap.size 136 4 v1 (jvw N Z (k + 1)).length (vbw (jvw N Z (k + 1)))) := by
        show w1.ownsRow w.heap.size 136 4 v1 (jvw N Z k ++ vLw (Z k) (N k)).length (vbw (jvw N Z k ++ vLw (Z k) (N k)))
        rw [List.length_append]
        exact ho1
      have HB1 : Hid (Below w.heap.size w w1) := HB.out.grown hg1 HB.out.size (fun q hq => (HO.out.lt q hq).1)
      clear ho1 hg1
      go_wp2_with fail
      go_roundw
      case rel => exact ⟨k + 1, hlt, by go_num, HB1, HO1⟩
      case measure => simp [intOf]; omega
    · have hkn : k = m := by omega
      subst hkn
      have HF := VAnw.of HB.out (Nat.le_refl _) HO.out
      go_wp2_with fail
      go_ret
      exact HF
/-- One piece joined is a copy. -/
theorem joined1_anyw (n : Nat) (R : Nat → Vr) (a : Option Addr) (cap : Nat) (pb : Nat) (w : World) (hn : n ≤ 100) (hc : w.cell? ⟨pb, 0, none⟩ = some (.slice a n cap)) (h : VersAt w a n R) :
    Calls Tryz.prog 132 #[.slice (some ⟨pb, 0, none⟩) 1 1] w (VAnw n R w) := by
  have hp : ∀ i, i < 1 → w.cell? ⟨pb, 0 + i, none⟩ = some (.slice a n cap) ∧ VersAt w a n R := by
    intro i hi
    have e : i = 0 := by omega
    subst e
    exact ⟨hc, h⟩
  refine (joined_anyw 1 (fun _ => a) (fun _ => n) (fun _ => cap) (fun _ => R) pb 0 1 w (fun i hi => hn) (Go.block_lt_of_cell hc) hp (by omega)).mono ?_
  rintro e w' ⟨a', cap', he, hb, ho, hcap⟩
  have el : (jvw (fun _ => n) (fun _ => R) 1).length = n := by simp [jvw, vL_lenw]
  rw [el] at he ho hcap
  refine ⟨a', cap', he, hb, ho.congr (fun i hi => ?_), hcap⟩
  simp only [jvw, List.nil_append]
  exact vL_getDw hi
theorem row_le {w : World} {base n c s : Nat} {e : TypeId} {a : Option Addr} {xs : List Value} (h : w.ownsRow base e s (.slice a n c) n xs) : n ≤ c := by
  rcases h.2 with ⟨e1, e2⟩ | ⟨g, cap, cur, e1, _, _, h2, _⟩
  · omega
  · injection e1 with _ _ e3
    omega
set_option maxHeartbeats 4000000 in
theorem l5PurgeW_any (n : Nat) (R : Nat → Vr) (a : Option Addr) (cap : Nat) (f : Int) (w : World) (hc0 : chF n R = 0) (h : VersAt w a n R) :
    Calls Tryz.prog 87 #[.slice a n cap, .int .i64 f] w (VAnw (puN n R f) R w) := by
  have hn := (chF_good hc0).1
  have HC0 : Hid (chF n R = 0) := hc0
  have HA : Hid (VersAt w a n R) := h
  clear h hc0
  have HO0 : Hid ((w.alloc (.cells #[] 136)).ownsRow w.heap.size 136 4 (.slice (some ⟨w.heap.size, 0, none⟩) 0 0) 0 []) := World.ownsRow_made w #[] 0 (Nat.le_refl _) (by unfold maxLen; omega) rfl
  go_enter Tryz.func87, Tryz.ntmps87
  go_wp2_with fail
  go_loopw [5, 6] (fun v i wr => ∃ k : Nat, k ≤ n ∧ i = .int .i64 k ∧ Hid (pS n R f 0 = psn R f 0 (n - k) k) ∧ Hid (Below w.heap.size w wr) ∧ Hid (∀ j, j < k → kd (R j) f 0 = 0) ∧ ∃ ra rc, v = .slice ra k rc ∧ Hid (wr.ownsRow w.heap.size 136 4 (.slice ra k rc) k (vb (vL R k)))) (fun _ i _ => n - (intOf i).toNat)
  case atStart => exact ⟨0, Nat.zero_le _, rfl, rfl, below_new _ _, fun j hj => absurd hj (Nat.not_lt_zero _), _, _, rfl, HO0⟩
  case round =>
    obtain ⟨k, hk0, rfl, HE, HB, HKZ, ra, rc, rfl, HO⟩ := hrel
    by_cases hlt : k < n
    · have HE2 : Hid (pS n R f 0 = _) := HE.out.trans (psn_at hlt)
      obtain ⟨b, off, rfl, hl, hcc⟩ : ∃ b off, a = some ⟨b, off, none⟩ ∧ b < w.heap.size ∧ C4 wr b (off + k * 4) (R k) := by
        rcases HA.out with h | ⟨b, off, ha, hl, hc⟩
        · omega
        · exact ⟨b, off, ha, hl, (hc k hlt).block (HB.out.block _ hl)⟩
      have hlt' : (k : Int) < (n : Int) := by omega
      have hk1 : (0 : Int) ≤ (k : Int) := by omega
      have hkd := kd_nobody (f := f) HC0.out hlt
      have HOA : Hid (∀ o : Obj, (wr.alloc o).ownsRow w.heap.size 136 4 (.slice ra k rc) (vL R k).length (vb (vL R k))) := fun o => by rw [vL_len]; exact HO.out.alloc o
      have HVN : Hid (VersAt (wr.alloc (.cells #[.int .i64 (R k).t, .int .i64 (R k).a, .bool (R k).g, .int .i64 (R k).v] 136)) (some ⟨wr.heap.size, 0, none⟩) 1 (fun _ => R k)) := .inr ⟨wr.heap.size, 0, rfl, by simp, fun i hi => by
        obtain rfl : i = 0 := by omega
        simp [C4]⟩
      have HLE : Hid ((vL R k).length + 1 ≤ 100000) := by show (vL R k).length + 1 ≤ 100000; rw [vL_len]; omega
      have HSZ : Hid (∀ o : Obj, w.heap.size ≤ (wr.alloc o).heap.size) := fun o => by rw [World.size_alloc]; have := HB.out.size; omega
      obtain ⟨x0, x1, x2, x3⟩ := hcc
      go_wp2_with (at_builtin; refine wpList_appV _ rfl (.tmp 15) (.tmp 20) rfl w.heap.size _ (vL R k) rfl (HOA.out _) (some ⟨wr.heap.size, 0, none⟩) 1 1 (fun _ => R k) rfl HVN.out HLE.out (HSZ.out _) ?_)
      intro v1 w1 ho1 hg1
      have e1 : vL R k ++ vL (fun _ => R k) 1 = vL R (k + 1) := by simp [vL, List.range_succ]
      have e2 : (vL R (k + 1)).length = k + 1 := vL_len _ _
      rw [← List.length_append, e1, e2] at ho1
      obtain ⟨rb, rd, rfl, hrd⟩ := row_slice ho1
      have HB1 : Hid (Below w.heap.size w w1) := ((HB.out.alloc (by have := HB.out.size; omega) _).grown hg1 (HSZ.out _) (fun q hq => (HO.out.lt q hq).1))
      have HO1 : Hid (w1.ownsRow w.heap.size 136 4 (.slice rb (k + 1) rd) (k + 1) (vb (vL R (k + 1)))) := ho1
      have HW1 := (own4_of_row (vL_len R (k + 1)) ho1).congr (S := R) (fun i hi => vL_getD hi)
      obtain ⟨z0, z1, z2, z3⟩ : C4 w1 b (off + k * 4) (R k) := by
        rcases HA.out with h | ⟨b', off', ha, hl', hc⟩
        · omega
        · simp only [Option.some.injEq, Addr.mk.injEq] at ha
          obtain ⟨rfl, rfl, -⟩ := ha
          exact (hc k hlt).block (HB1.out.block _ hl')
      clear ho1 hg1 x0 x1 x2 x3 HOA HVN HLE HSZ HE e1 e2 HO
      by_cases hz : (R k).a ≠ 0 ∧ (R k).a ≤ f
      · have hne : ¬ kd (R k) f 0 = 0 := fun h9 => (hkd.1 h9) hz
        have hpS : pS n R f 0 = k := HE2.out.trans (if_neg hne)
        obtain ⟨hz1, hz2⟩ := hz
        have hz3 : ((R k).a != 0) = true := by simp [hz1]
        obtain ⟨ob, oo, rfl, hlo, hhi, hsz, hrow⟩ := own4_some HW1 (by omega)
        obtain ⟨y0, y1, y2, y3⟩ := hrow.1 k (by omega)
        have hrd1 : (k : Int) + 1 ≤ (rd : Int) := by omega
        have hwk : IntKind.i64.wrap (k : Int) = (k : Int) := by rw [IntKind.wrap_i64]; omega
        have hkr : (k : Int) ≤ (rd : Int) := by omega
        cases hgg : (R k).g
        · have hpu : puN n R f = k + 1 := by
            unfold puN
            rw [if_pos (told_iff.2 (by rw [hpS]; exact ⟨hlt, hgg⟩)), hpS]
          have HF : Hid (VAnw (puN n R f) R w (.returned (.slice (some ⟨ob, oo, none⟩) (k + 1) rd)) w1) := by rw [hpu]; exact ⟨_, _, rfl, HB1.out, HW1, hrd⟩
          rw [hgg] at y2
          clear hpu hpS HE2 HW1 hrow hgg HC0 hkd hne HA HO1
          generalize (R k).a = ka at *
          generalize (R k).t = kt at *
          generalize (R k).v = kv at *
          go_wp2_with fail
          go_ret
          exact HF.out
        · have hpu : puN n R f = k := by
            unfold puN
            rw [if_neg (fun h9 => by have h8 := (told_iff.1 h9).2; rw [hpS, hgg] at h8; cases h8), hpS]
          have HF : Hid (VAnw (puN n R f) R w (.returned (.slice (some ⟨ob, oo, none⟩) k rd)) w1) := by
            rw [hpu]
            exact ⟨_, _, rfl, HB1.out, ⟨Nat.le_refl _, .inr ⟨ob, oo, rfl, hlo, hhi, fun i hi => hrow.1 i (by omega), hrow.2⟩⟩, by omega⟩
          rw [hgg] at y2
          clear hpu hpS HE2 HW1 hrow hgg HC0 hkd hne HA HO1
          generalize (R k).a = ka at *
          generalize (R k).t = kt at *
          generalize (R k).v = kv at *
          go_wp2_with fail
          go_ret
          exact HF.out
      · have hk00 : kd (R k) f 0 = 0 := hkd.2 hz
        have HE : Hid (pS n R f 0 = psn R f 0 (n - (k + 1)) (k + 1)) := HE2.out.trans (if_pos hk00)
        have HKZ1 : Hid (∀ j, j < k + 1 → kd (R j) f 0 = 0) := fun j hj => by
          by_cases e : j = k
          · subst e; exact hk00
          · exact HKZ.out j (by omega)
        by_cases ha : (R k).a = 0
        · rw [ha] at z1
          clear hz hkd hk00 HW1 HE2 z0 z2 z3 ha
          go_wp2_with fail
          go_roundw
          case rel => exact ⟨k + 1, hlt, by go_num, HE, HB1, HKZ1, _, _, rfl, HO1⟩
          case measure => simp [intOf]; omega
        · have ha1 : ((R k).a != 0) = true := by simp [ha]
          have ha2 : decide ((R k).a ≤ f) = false := by simp; exact Int.not_le.1 fun h9 => hz ⟨ha, h9⟩
          clear hz hkd hk00 HW1 HE2 z0 z2 z3
          generalize (R k).a = ka at *
          go_wp2_with fail
          go_roundw
          case rel => exact ⟨k + 1, hlt, by go_num, HE, HB1, HKZ1, _, _, rfl, HO1⟩
          case measure => simp [intOf]; omega
    · have hkn : k = n := by omega
      have hpS : pS n R f 0 = n := by
        refine HE.out.trans ?_
        rw [show n - k = 0 by omega, psn, hkn]
      have hpu : puN n R f = k := by
        unfold puN
        rw [if_neg (fun h9 => by have h8 := (told_iff.1 h9).1; omega), hpS, hkn]
      have hnl : ¬ ((k : Int) < (n : Int)) := by omega
      have HW1 := (own4_of_row (vL_len R k) HO.out).congr (S := R) (fun i hi => vL_getD hi)
      have HF : Hid (VAnw (puN n R f) R w (.returned (.slice ra k rc)) wr) := by rw [hpu]; exact ⟨_, _, rfl, HB.out, HW1, row_le HO.out⟩
      rcases Nat.eq_zero_or_pos k with hk9 | hpos
      · subst hk9
        clear HW1 HO HE hpu hpS HKZ HA HC0 hkn hlt hk0
        go_wp2_with fail
        go_ret
        exact HF.out
      · obtain ⟨j, rfl⟩ : ∃ j, k = j + 1 := ⟨k - 1, by omega⟩
        obtain ⟨ob, oo, rfl, hlo, hhi, hsz, hrow⟩ := own4_some HW1 (by omega)
        obtain ⟨y0, y1, y2, y3⟩ := hrow.1 j (by omega)
        have hwk : IntKind.i64.wrap (j : Int) = (j : Int) := by rw [IntKind.wrap_i64]; omega
        have hj0 : (0 : Int) < (j : Int) + 1 := by omega
        have hkz := (kd_nobody (f := f) HC0.out (i := j) (by omega)).1 (HKZ.out j (by omega))
        clear HW1 HO HE hpu hpS HKZ HA HC0 hrow y0 y3 hkn hlt
        cases hgg : (R j).g
        · rw [hgg] at y2
          clear hgg hkz
          go_wp2_with fail
          go_ret
          exact HF.out
        · rw [hgg] at y2
          clear hgg
          by_cases ha : (R j).a = 0
          · rw [ha] at y1
            clear hkz ha
            go_wp2_with fail
            go_ret
            exact HF.out
          · have ha1 : ((R j).a != 0) = true := by simp [ha]
            have ha2 : decide ((R j).a ≤ f) = false := by simp; exact Int.not_le.1 fun h9 => hkz ⟨ha, h9⟩
            clear hkz
            generalize (R j).a = ka at *
            go_wp2_with fail
            go_ret
            exact HF.out
def puC (n : Nat) (R : Nat → Vr) (f : Int) : Int := if chF n R = 0 then (if inB f 0 1000000 = true then 0 else 3) else chF n R
def puM (n : Nat) (R : Nat → Vr) (f : Int) : Nat := if puC n R f = 0 then puN n R f else 0
theorem puN_le (n : Nat) (R : Nat → Vr) (f : Int) : puN n R f ≤ n := by
  have := pS_le n R f 0
  unfold puN
  split
  · rename_i h; have := (told_iff.1 h).1; omega
  · exact this
theorem VersAt.some_less {w : World} {a : Option Addr} {n m : Nat} {R : Nat → Vr} (h : VersAt w a n R) (hm : m ≤ n) : VersAt w a m R := by
  rcases h with h | ⟨b, off, ha, hl, hc⟩
  · exact .inl (by omega)
  · exact .inr ⟨b, off, ha, hl, fun i hi => hc i (by omega)⟩
set_option maxHeartbeats 4000000 in
theorem implPu_any (n : Nat) (R : Nat → Vr) (b off : Nat) (f : Int) (w : World) (hn : n ≤ 9223372036854775807) (h : VersAt w (some ⟨b, off, none⟩) n R) :
    Calls Tryz.prog 90 #[.slice (some ⟨b, off, none⟩) n n, .int .i64 f] w (CRes (puC n R f) (puM n R f) R w) := by
  have HA : Hid (VersAt w (some ⟨b, off, none⟩) n R) := h
  have HV : Hid ((puC n R f = if chF n R = 0 then (if inB f 0 1000000 = true then 0 else 3) else chF n R) ∧ (puM n R f = if puC n R f = 0 then puN n R f else 0)) := ⟨rfl, rfl⟩
  clear h
  generalize puC n R f = C at *
  generalize puM n R f = M at *
  go_enter Tryz.func90, Tryz.ntmps90
  go_wp2_with fail
  refine (implChF_any n R _ n _ hn (HA.out.below (below_new _ _))).mono ?_
  rintro e w1 ⟨rfl, hb1⟩
  have BX := (BoxR.new w (.int .i64 0) (.slice none 0 0) 123).below hb1
  have HB1 : Hid (Below w.heap.size w w1) := below_then (below_new _ _) hb1
  have hs1 : w.heap.size < w1.heap.size := by have := hb1.size; simp at this; omega
  clear hb1
  have HEB : Hid (∀ u0 u1 : Value, _) := cres_end (m := 0) (a := none) (S := R) HB1.out (Nat.lt_succ_self _) own4_none
  by_cases hc : chF n R = 0
  · rw [hc]
    have HA1 : Hid (VersAt w1 (some ⟨b, off, none⟩) n R) := HA.out.below HB1.out
    have hn12 := (chF_good hc).1
    by_cases hf : inB f 0 1000000 = true
    · have hC : C = 0 := by rw [HV.out.1, if_pos hc, if_pos hf]
      have hM : M = puN n R f := by rw [HV.out.2, if_pos hC]
      subst hC
      go_wp2_with fail
      refine (isAt_any _ _).mono ?_
      rintro e wt ⟨rfl, hwt⟩
      have hwt' := hwt.symm
      clear hwt
      subst hwt'
      rw [hf]
      go_wp2_with fail
      refine (placeSeen_any n R _ n f 0 _ hn12 (HA1.out.below (below_new _ _))).mono ?_
      rintro e w2 ⟨rfl, hb2⟩
      have BV2 := (Box2.new w1 (.int .i64 f) (.int .i64 0) 59).below hb2
      have hb2' := below_then (below_new _ _) hb2
      have HXW : Hid (∀ wz, Below w2.heap.size w2 wz → BoxR wz w.heap.size (.int .i64 0) (.slice none 0 0) ∧ Below w.heap.size w wz ∧ VersAt wz (some ⟨b, off, none⟩) n R ∧ w.heap.size < wz.heap.size) := fun wz hz => by
        have h9 := below_then hb2' hz
        exact ⟨BX.below h9, below_then HB1.out h9, HA1.out.below h9, Nat.lt_of_lt_of_le hs1 h9.size⟩
      have HA2 : Hid (VersAt w2 (some ⟨b, off, none⟩) n R) := HA1.out.below hb2'
      clear hb2 hb2' HEB BX HA HA1 HV
      generalize w1.heap.size = B at *
      obtain ⟨v0, v1⟩ := BV2
      by_cases hp : pS n R f 0 < n
      · obtain ⟨b', off', e9, hl, x0, x1, x2, x3⟩ := HA2.out.nth hp
        simp only [Option.some.injEq, Addr.mk.injEq] at e9
        obtain ⟨rfl, rfl, -⟩ := e9
        have hk0 := kd_told hp
        have hpu : puN n R f = if (R (pS n R f 0)).g = false then pS n R f 0 + 1 else pS n R f 0 := by
          unfold puN
          by_cases h9 : (R (pS n R f 0)).g = false
          · rw [if_pos (told_iff.2 ⟨hp, h9⟩), if_pos h9]
          · rw [if_neg (fun h8 => h9 (told_iff.1 h8).2), if_neg h9]
        clear HA2 hc
        generalize pS n R f 0 = p at *
        generalize R p = r at *
        have hp1 : (p : Int) < (n : Int) := by omega
        have hp3 : (0 : Int) ≤ (p : Int) := by omega
        cases hg : r.g
        · have hk : kd r f 0 = 2 := by rw [hk0]; simp [hg]
          have hM2 : p + 1 = M := by rw [hM, hpu, hg]; rfl
          subst hM2
          clear hM hpu hk0 hg
          go_wp2_with fail
          have hb0 : Below w2.heap.size w2 w2.drew := (Below.refl _ _).drew
          go_region_held3 (fun w' => Below w2.heap.size w2 w' ∧ w'.cell? ⟨b, off + p * 4, none⟩ = some (.int .i64 r.t) ∧ w'.cell? ⟨b, off + p * 4 + 1, none⟩ = some (.int .i64 r.a) ∧ w'.cell? ⟨b, off + p * 4 + 2, none⟩ = some (.bool r.g) ∧ w'.cell? ⟨b, off + p * 4 + 3, none⟩ = some (.int .i64 r.v) ∧ w'.cell? ⟨B, 0, none⟩ = some (.int .i64 f) ∧ w'.cell? ⟨B, 1, none⟩ = some (.int .i64 0)) (go_keep)
            (first | (go_at_call 127; refine (kindIn_any r f 0 _).mono ?_; rintro e wq ⟨rfl, hbq⟩; rw [hk]; have hU := below_then (w := w2) (by simp [*]) hbq; have hU0 := cell_below (B := b) (o := off + p * 4) (v := .int .i64 r.t) (by simp [*]) hbq; have hU1 := cell_below (B := b) (o := off + p * 4 + 1) (v := .int .i64 r.a) (by simp [*]) hbq; have hU2 := cell_below (B := b) (o := off + p * 4 + 2) (v := .bool r.g) (by simp [*]) hbq; have hU3 := cell_below (B := b) (o := off + p * 4 + 3) (v := .int .i64 r.v) (by simp [*]) hbq; have hU4 := cell_below (B := B) (o := 0) (v := .int .i64 f) (by simp [*]) hbq; have hU5 := cell_below (B := B) (o := 1) (v := .int .i64 0) (by simp [*]) hbq))
          obtain ⟨BX3, HB3, HV0, hs3⟩ := HXW.out wq (by assumption)
          have HV3 := HV0.some_less (m := (p + 1)) (by omega)
          have hm1 : (0 : Int) ≤ (p : Int) + 1 := by omega
          have hm2 : (p : Int) + 1 ≤ (n : Int) := by omega
          have hm3 : (p : Int) ≤ (n : Int) := by omega
          go_wp2_with fail
          have hjo : jv (fun _ => (p + 1)) (fun _ => R) 1 = vL R (p + 1) := by simp [jv]
          have hjp : ∀ i, i < 1 → (wq.alloc (.cells #[.slice (some ⟨b, off, none⟩) (p + 1) n] 103)).cell? ⟨wq.heap.size, 0 + i, none⟩ = some (.slice (some ⟨b, off, none⟩) (p + 1) n) ∧ VersAt (wq.alloc (.cells #[.slice (some ⟨b, off, none⟩) (p + 1) n] 103)) (some ⟨b, off, none⟩) (p + 1) R := fun i hi => by
            obtain rfl : i = 0 := by omega
            exact ⟨by simp [go_sem], VersAt.below HV3 (below_new _ _)⟩
          have hj := joined_any 1 (fun _ => some ⟨b, off, none⟩) (fun _ => (p + 1)) (fun _ => n) (fun _ => R) wq.heap.size 0 1 _ (fun i hi => by show (p + 1) ≤ 100; omega) (by simp) hjp (by omega)
          rw [hjo, vL_len] at hj
          refine hj.mono ?_
          rintro e w5 ⟨ra, rcc, rfl, hb5, ho5⟩
          replace ho5 := ho5.congr (S := R) (fun i hi => vL_getD hi)
          have hs5 : w.heap.size < (wq.alloc (.cells #[.slice (some ⟨b, off, none⟩) (p + 1) n] 103)).heap.size := by rw [World.size_alloc]; omega
          have hb6 := below_then (below_new _ _) hb5
          obtain ⟨q0, q1, qf⟩ := BX3.below hb6
          have HE : Hid (∀ u0 u1 : Value, _) := cres_end (below_then HB3 hb6) hs5 ho5
          clear hb5 ho5 hb6 hj hjp hjo hs5
          go_wp2_with fail
          refine bodyPost_ret (v := .agg #[.int .i64 0, .slice ra (p + 1) rcc]) (by simp [results, Tryz.results90, go_sem, *]) rfl ⟨ra, rcc, rfl, (HE.out _ _).1, (HE.out _ _).2⟩
        · have hk : kd r f 0 = 1 := by rw [hk0]; simp [hg]
          have hM2 : p = M := by rw [hM, hpu, hg]; rfl
          subst hM2
          clear hM hpu hk0 hg
          go_wp2_with fail
          have hb0 : Below w2.heap.size w2 w2.drew := (Below.refl _ _).drew
          go_region_held3 (fun w' => Below w2.heap.size w2 w' ∧ w'.cell? ⟨b, off + p * 4, none⟩ = some (.int .i64 r.t) ∧ w'.cell? ⟨b, off + p * 4 + 1, none⟩ = some (.int .i64 r.a) ∧ w'.cell? ⟨b, off + p * 4 + 2, none⟩ = some (.bool r.g) ∧ w'.cell? ⟨b, off + p * 4 + 3, none⟩ = some (.int .i64 r.v) ∧ w'.cell? ⟨B, 0, none⟩ = some (.int .i64 f) ∧ w'.cell? ⟨B, 1, none⟩ = some (.int .i64 0)) (go_keep)
            (first | (go_at_call 127; refine (kindIn_any r f 0 _).mono ?_; rintro e wq ⟨rfl, hbq⟩; rw [hk]; have hU := below_then (w := w2) (by simp [*]) hbq; have hU0 := cell_below (B := b) (o := off + p * 4) (v := .int .i64 r.t) (by simp [*]) hbq; have hU1 := cell_below (B := b) (o := off + p * 4 + 1) (v := .int .i64 r.a) (by simp [*]) hbq; have hU2 := cell_below (B := b) (o := off + p * 4 + 2) (v := .bool r.g) (by simp [*]) hbq; have hU3 := cell_below (B := b) (o := off + p * 4 + 3) (v := .int .i64 r.v) (by simp [*]) hbq; have hU4 := cell_below (B := B) (o := 0) (v := .int .i64 f) (by simp [*]) hbq; have hU5 := cell_below (B := B) (o := 1) (v := .int .i64 0) (by simp [*]) hbq))
          obtain ⟨BX3, HB3, HV0, hs3⟩ := HXW.out wq (by assumption)
          have HV3 := HV0.some_less (m := p) (by omega)
          have hm1 : (0 : Int) ≤ (p : Int) + 1 := by omega
          have hm2 : (p : Int) + 1 ≤ (n : Int) := by omega
          have hm3 : (p : Int) ≤ (n : Int) := by omega
          go_wp2_with fail
          have hjo : jv (fun _ => p) (fun _ => R) 1 = vL R p := by simp [jv]
          have hjp : ∀ i, i < 1 → (wq.alloc (.cells #[.slice (some ⟨b, off, none⟩) p n] 103)).cell? ⟨wq.heap.size, 0 + i, none⟩ = some (.slice (some ⟨b, off, none⟩) p n) ∧ VersAt (wq.alloc (.cells #[.slice (some ⟨b, off, none⟩) p n] 103)) (some ⟨b, off, none⟩) p R := fun i hi => by
            obtain rfl : i = 0 := by omega
            exact ⟨by simp [go_sem], VersAt.below HV3 (below_new _ _)⟩
          have hj := joined_any 1 (fun _ => some ⟨b, off, none⟩) (fun _ => p) (fun _ => n) (fun _ => R) wq.heap.size 0 1 _ (fun i hi => by show p ≤ 100; omega) (by simp) hjp (by omega)
          rw [hjo, vL_len] at hj
          refine hj.mono ?_
          rintro e w5 ⟨ra, rcc, rfl, hb5, ho5⟩
          replace ho5 := ho5.congr (S := R) (fun i hi => vL_getD hi)
          have hs5 : w.heap.size < (wq.alloc (.cells #[.slice (some ⟨b, off, none⟩) p n] 103)).heap.size := by rw [World.size_alloc]; omega
          have hb6 := below_then (below_new _ _) hb5
          obtain ⟨q0, q1, qf⟩ := BX3.below hb6
          have HE : Hid (∀ u0 u1 : Value, _) := cres_end (below_then HB3 hb6) hs5 ho5
          clear hb5 ho5 hb6 hj hjp hjo hs5
          go_wp2_with fail
          refine bodyPost_ret (v := .agg #[.int .i64 0, .slice ra p rcc]) (by simp [results, Tryz.results90, go_sem, *]) rfl ⟨ra, rcc, rfl, (HE.out _ _).1, (HE.out _ _).2⟩
      · have hpn : pS n R f 0 = n := by have := pS_le n R f 0; omega
        have hM2 : n = M := by
          rw [hM]
          unfold puN
          rw [if_neg (fun h9 => hp (told_iff.1 h9).1), hpn]
        subst hM2
        rw [hpn]
        clear hM hp hpn hc HA2
        go_wp2_with fail
        refine wp_region_any (by kernel_rfl) ?_
        change wpAny _ _ _ _ _ _ _ (World.drew _)
        refine wpAny_take (i := 0) (v := .int .i64 (n : Int)) rfl (by kernel_rfl) (by kernel_rfl) (by kernel_rfl) (fun _ _ _ h => h) (Or.inl ⟨by kernel_rfl, by intro w; go_simp⟩) ?_
        refine wpAny_take (i := 1) (v := .slice (some ⟨b, off, none⟩) n n) rfl (by kernel_rfl) (by kernel_rfl) (by kernel_rfl) (fun _ _ _ h => h) (Or.inl ⟨by kernel_rfl, by intro w; go_simp⟩) ?_
        refine wpAny_take (i := 2) (v := .int .i64 (n : Int)) rfl (by kernel_rfl) (by kernel_rfl) (by kernel_rfl) (fun _ _ _ h => h) (Or.inl ⟨by kernel_rfl, by intro w; go_simp⟩) ?_
        refine wpAny_take (i := 3) (v := .bool false) rfl (by kernel_rfl) (by kernel_rfl) (by kernel_rfl) (fun _ _ _ h => h) (Or.inl ⟨by kernel_rfl, by intro w; go_simp⟩) ?_
        refine wpAny_take (i := 4) (v := .bool false) rfl (by kernel_rfl) (by kernel_rfl) (by kernel_rfl) (fun _ _ _ h => h) (Or.inl ⟨by kernel_rfl, by intro w; go_simp⟩) ?_
        refine any_skip 5 (some 28) (by kernel_rfl) (by kernel_rfl) (by kernel_rfl) (by kernel_rfl) (by kernel_rfl) (fun _ _ _ h => h) ?_
        refine any_skip 6 (some 29) (by kernel_rfl) (by kernel_rfl) (by kernel_rfl) (by kernel_rfl) (by kernel_rfl) (fun _ _ _ h => h) ?_
        refine any_skip 7 (some 30) (by kernel_rfl) (by kernel_rfl) (by kernel_rfl) (by kernel_rfl) (by kernel_rfl) (fun _ _ _ h => h) ?_
        refine any_skip 8 (some 31) (by kernel_rfl) (by kernel_rfl) (by kernel_rfl) (by kernel_rfl) (by kernel_rfl) (fun _ _ _ h => h) ?_
        refine any_skip 9 (some 32) (by kernel_rfl) (by kernel_rfl) (by kernel_rfl) (by kernel_rfl) (by kernel_rfl) (fun _ _ _ h => h) ?_
        refine any_skip 10 (some 33) (by kernel_rfl) (by kernel_rfl) (by kernel_rfl) (by kernel_rfl) (by kernel_rfl) (fun _ _ _ h => h) ?_
        refine any_skip 11 (some 34) (by kernel_rfl) (by kernel_rfl) (by kernel_rfl) (by kernel_rfl) (by kernel_rfl) (fun _ _ _ h => h) ?_
        refine wpAny_take (i := 12) (v := .bool false) rfl (by kernel_rfl) (by kernel_rfl) (by kernel_rfl) (fun _ _ _ h => h) (Or.inl ⟨by kernel_rfl, by intro w; go_simp⟩) ?_
        refine wpAny_done (by kernel_rfl) ?_ _
        go_simp
        obtain ⟨BX3, HB3, HV3, hs3⟩ := HXW.out w2.drew ((Below.refl _ _).drew)
        have hm3 : (0 : Int) ≤ (n : Int) := by omega
        go_wp2_with fail
        have hjo : jv (fun _ => n) (fun _ => R) 1 = vL R n := by simp [jv]
        have hjp : ∀ i, i < 1 → (w2.drew.alloc (.cells #[.slice (some ⟨b, off, none⟩) n n] 103)).cell? ⟨w2.drew.heap.size, 0 + i, none⟩ = some (.slice (some ⟨b, off, none⟩) n n) ∧ VersAt (w2.drew.alloc (.cells #[.slice (some ⟨b, off, none⟩) n n] 103)) (some ⟨b, off, none⟩) n R := fun i hi => by
          obtain rfl : i = 0 := by omega
          exact ⟨by simp [go_sem], VersAt.below HV3 (below_new _ _)⟩
        have hj := joined_any 1 (fun _ => some ⟨b, off, none⟩) (fun _ => n) (fun _ => n) (fun _ => R) w2.drew.heap.size 0 1 _ (fun i hi => by show n ≤ 100; omega) (by simp) hjp (by omega)
        rw [hjo, vL_len] at hj
        refine hj.mono ?_
        rintro e w5 ⟨ra, rcc, rfl, hb5, ho5⟩
        replace ho5 := ho5.congr (S := R) (fun i hi => vL_getD hi)
        have hs5 : w.heap.size < (w2.drew.alloc (.cells #[.slice (some ⟨b, off, none⟩) n n] 103)).heap.size := by rw [World.size_alloc]; omega
        have hb6 := below_then (below_new _ _) hb5
        obtain ⟨q0, q1, qf⟩ := BX3.below hb6
        have HE : Hid (∀ u0 u1 : Value, _) := cres_end (below_then HB3 hb6) hs5 ho5
        clear hb5 ho5 hb6 hj hjp hjo hs5
        go_wp2_with fail
        refine bodyPost_ret (v := .agg #[.int .i64 0, .slice ra n rcc]) (by simp [results, Tryz.results90, go_sem, *]) rfl ⟨ra, rcc, rfl, (HE.out _ _).1, (HE.out _ _).2⟩
    · have hf' : inB f 0 1000000 = false := by simpa using hf
      have hC : C = 3 := by rw [HV.out.1, if_pos hc, if_neg hf]
      have hM : M = 0 := by rw [HV.out.2, if_neg (by omega)]
      subst hC hM
      go_wp2_with fail
      refine (isAt_any _ _).mono ?_
      rintro e wt ⟨rfl, hwt⟩
      have hwt' := hwt.symm
      clear hwt
      subst hwt'
      rw [hf']
      obtain ⟨q0, q1, qf⟩ := BX
      go_wp2_with fail
      refine bodyPost_ret (v := .agg #[.int .i64 3, .slice none 0 0]) (by simp [results, Tryz.results90, go_sem, *]) rfl ⟨none, 0, rfl, (HEB.out _ _).1, (HEB.out _ _).2⟩
  · have hC : C = chF n R := by rw [HV.out.1, if_neg hc]
    have hM : M = 0 := by rw [HV.out.2, if_neg (by omega)]
    subst hM
    rw [← hC]
    rw [← hC] at hc
    clear HV hC
    have hc1 : (C != 0) = true := by simp [hc]
    obtain ⟨q0, q1, qf⟩ := BX
    go_wp2_with fail
    refine bodyPost_ret (v := .agg #[.int .i64 C, .slice none 0 0]) (by simp [results, Tryz.results90, go_sem, *]) rfl ⟨none, 0, rfl, (HEB.out _ _).1, (HEB.out _ _).2⟩
set_option maxHeartbeats 4000000 in
theorem implPuC_any (n : Nat) (R : Nat → Vr) (b off cc : Nat) (hcc : n ≤ cc) (f : Int) (w : World) (hn : n ≤ 9223372036854775807) (h : VersAt w (some ⟨b, off, none⟩) n R) :
    Calls Tryz.prog 90 #[.slice (some ⟨b, off, none⟩) n cc, .int .i64 f] w (CRes (puC n R f) (puM n R f) R w) := by
  have HA : Hid (VersAt w (some ⟨b, off, none⟩) n R) := h
  have HV : Hid ((puC n R f = if chF n R = 0 then (if inB f 0 1000000 = true then 0 else 3) else chF n R) ∧ (puM n R f = if puC n R f = 0 then puN n R f else 0)) := ⟨rfl, rfl⟩
  clear h
  generalize puC n R f = C at *
  generalize puM n R f = M at *
  go_enter Tryz.func90, Tryz.ntmps90
  go_wp2_with fail
  refine (implChF_any n R _ cc _ hn (HA.out.below (below_new _ _))).mono ?_
  rintro e w1 ⟨rfl, hb1⟩
  have BX := (BoxR.new w (.int .i64 0) (.slice none 0 0) 123).below hb1
  have HB1 : Hid (Below w.heap.size w w1) := below_then (below_new _ _) hb1
  have hs1 : w.heap.size < w1.heap.size := by have := hb1.size; simp at this; omega
  clear hb1
  have HEB : Hid (∀ u0 u1 : Value, _) := cres_end (m := 0) (a := none) (S := R) HB1.out (Nat.lt_succ_self _) own4_none
  by_cases hc : chF n R = 0
  · rw [hc]
    have HA1 : Hid (VersAt w1 (some ⟨b, off, none⟩) n R) := HA.out.below HB1.out
    have hn12 := (chF_good hc).1
    by_cases hf : inB f 0 1000000 = true
    · have hC : C = 0 := by rw [HV.out.1, if_pos hc, if_pos hf]
      have hM : M = puN n R f := by rw [HV.out.2, if_pos hC]
      subst hC
      go_wp2_with fail
      refine (isAt_any _ _).mono ?_
      rintro e wt ⟨rfl, hwt⟩
      have hwt' := hwt.symm
      clear hwt
      subst hwt'
      rw [hf]
      go_wp2_with fail
      refine (placeSeen_any n R _ cc f 0 _ hn12 (HA1.out.below (below_new _ _))).mono ?_
      rintro e w2 ⟨rfl, hb2⟩
      have BV2 := (Box2.new w1 (.int .i64 f) (.int .i64 0) 59).below hb2
      have hb2' := below_then (below_new _ _) hb2
      have HXW : Hid (∀ wz, Below w2.heap.size w2 wz → BoxR wz w.heap.size (.int .i64 0) (.slice none 0 0) ∧ Below w.heap.size w wz ∧ VersAt wz (some ⟨b, off, none⟩) n R ∧ w.heap.size < wz.heap.size) := fun wz hz => by
        have h9 := below_then hb2' hz
        exact ⟨BX.below h9, below_then HB1.out h9, HA1.out.below h9, Nat.lt_of_lt_of_le hs1 h9.size⟩
      have HA2 : Hid (VersAt w2 (some ⟨b, off, none⟩) n R) := HA1.out.below hb2'
      clear hb2 hb2' HEB BX HA HA1 HV
      generalize w1.heap.size = B at *
      obtain ⟨v0, v1⟩ := BV2
      by_cases hp : pS n R f 0 < n
      · obtain ⟨b', off', e9, hl, x0, x1, x2, x3⟩ := HA2.out.nth hp
        simp only [Option.some.injEq, Addr.mk.injEq] at e9
        obtain ⟨rfl, rfl, -⟩ := e9
        have hk0 := kd_told hp
        have hpu : puN n R f = if (R (pS n R f 0)).g = false then pS n R f 0 + 1 else pS n R f 0 := by
          unfold puN
          by_cases h9 : (R (pS n R f 0)).g = false
          · rw [if_pos (told_iff.2 ⟨hp, h9⟩), if_pos h9]
          · rw [if_neg (fun h8 => h9 (told_iff.1 h8).2), if_neg h9]
        clear HA2 hc
        generalize pS n R f 0 = p at *
        generalize R p = r at *
        have hp1 : (p : Int) < (n : Int) := by omega
        have hp3 : (0 : Int) ≤ (p : Int) := by omega
        cases hg : r.g
        · have hk : kd r f 0 = 2 := by rw [hk0]; simp [hg]
          have hM2 : p + 1 = M := by rw [hM, hpu, hg]; rfl
          subst hM2
          clear hM hpu hk0 hg
          go_wp2_with fail
          have hb0 : Below w2.heap.size w2 w2.drew := (Below.refl _ _).drew
          go_region_held3 (fun w' => Below w2.heap.size w2 w' ∧ w'.cell? ⟨b, off + p * 4, none⟩ = some (.int .i64 r.t) ∧ w'.cell? ⟨b, off + p * 4 + 1, none⟩ = some (.int .i64 r.a) ∧ w'.cell? ⟨b, off + p * 4 + 2, none⟩ = some (.bool r.g) ∧ w'.cell? ⟨b, off + p * 4 + 3, none⟩ = some (.int .i64 r.v) ∧ w'.cell? ⟨B, 0, none⟩ = some (.int .i64 f) ∧ w'.cell? ⟨B, 1, none⟩ = some (.int .i64 0)) (go_keep)
            (first | (go_at_call 127; refine (kindIn_any r f 0 _).mono ?_; rintro e wq ⟨rfl, hbq⟩; rw [hk]; have hU := below_then (w := w2) (by simp [*]) hbq; have hU0 := cell_below (B := b) (o := off + p * 4) (v := .int .i64 r.t) (by simp [*]) hbq; have hU1 := cell_below (B := b) (o := off + p * 4 + 1) (v := .int .i64 r.a) (by simp [*]) hbq; have hU2 := cell_below (B := b) (o := off + p * 4 + 2) (v := .bool r.g) (by simp [*]) hbq; have hU3 := cell_below (B := b) (o := off + p * 4 + 3) (v := .int .i64 r.v) (by simp [*]) hbq; have hU4 := cell_below (B := B) (o := 0) (v := .int .i64 f) (by simp [*]) hbq; have hU5 := cell_below (B := B) (o := 1) (v := .int .i64 0) (by simp [*]) hbq))
          obtain ⟨BX3, HB3, HV0, hs3⟩ := HXW.out wq (by assumption)
          have HV3 := HV0.some_less (m := (p + 1)) (by omega)
          have hm1 : (0 : Int) ≤ (p : Int) + 1 := by omega
          have hm2 : (p : Int) + 1 ≤ (n : Int) := by omega
          have hm3 : (p : Int) ≤ (n : Int) := by omega
          have hm4 : (p : Int) + 1 ≤ (cc : Int) := by omega
          have hm5 : (p : Int) ≤ (cc : Int) := by omega
          go_wp2_with fail
          have hjo : jv (fun _ => (p + 1)) (fun _ => R) 1 = vL R (p + 1) := by simp [jv]
          have hjp : ∀ i, i < 1 → (wq.alloc (.cells #[.slice (some ⟨b, off, none⟩) (p + 1) cc] 103)).cell? ⟨wq.heap.size, 0 + i, none⟩ = some (.slice (some ⟨b, off, none⟩) (p + 1) cc) ∧ VersAt (wq.alloc (.cells #[.slice (some ⟨b, off, none⟩) (p + 1) cc] 103)) (some ⟨b, off, none⟩) (p + 1) R := fun i hi => by
            obtain rfl : i = 0 := by omega
            exact ⟨by simp [go_sem], VersAt.below HV3 (below_new _ _)⟩
          have hj := joined_any 1 (fun _ => some ⟨b, off, none⟩) (fun _ => (p + 1)) (fun _ => cc) (fun _ => R) wq.heap.size 0 1 _ (fun i hi => by show (p + 1) ≤ 100; omega) (by simp) hjp (by omega)
          rw [hjo, vL_len] at hj
          refine hj.mono ?_
          rintro e w5 ⟨ra, rcc, rfl, hb5, ho5⟩
          replace ho5 := ho5.congr (S := R) (fun i hi => vL_getD hi)
          have hs5 : w.heap.size < (wq.alloc (.cells #[.slice (some ⟨b, off, none⟩) (p + 1) cc] 103)).heap.size := by rw [World.size_alloc]; omega
          have hb6 := below_then (below_new _ _) hb5
          obtain ⟨q0, q1, qf⟩ := BX3.below hb6
          have HE : Hid (∀ u0 u1 : Value, _) := cres_end (below_then HB3 hb6) hs5 ho5
          clear hb5 ho5 hb6 hj hjp hjo hs5
          go_wp2_with fail
          refine bodyPost_ret (v := .agg #[.int .i64 0, .slice ra (p + 1) rcc]) (by simp [results, Tryz.results90, go_sem, *]) rfl ⟨ra, rcc, rfl, (HE.out _ _).1, (HE.out _ _).2⟩
        · have hk : kd r f 0 = 1 := by rw [hk0]; simp [hg]
          have hM2 : p = M := by rw [hM, hpu, hg]; rfl
          subst hM2
          clear hM hpu hk0 hg
          go_wp2_with fail
          have hb0 : Below w2.heap.size w2 w2.drew := (Below.refl _ _).drew
          go_region_held3 (fun w' => Below w2.heap.size w2 w' ∧ w'.cell? ⟨b, off + p * 4, none⟩ = some (.int .i64 r.t) ∧ w'.cell? ⟨b, off + p * 4 + 1, none⟩ = some (.int .i64 r.a) ∧ w'.cell? ⟨b, off + p * 4 + 2, none⟩ = some (.bool r.g) ∧ w'.cell? ⟨b, off + p * 4 + 3, none⟩ = some (.int .i64 r.v) ∧ w'.cell? ⟨B, 0, none⟩ = some (.int .i64 f) ∧ w'.cell? ⟨B, 1, none⟩ = some (.int .i64 0)) (go_keep)
            (first | (go_at_call 127; refine (kindIn_any r f 0 _).mono ?_; rintro e wq ⟨rfl, hbq⟩; rw [hk]; have hU := below_then (w := w2) (by simp [*]) hbq; have hU0 := cell_below (B := b) (o := off + p * 4) (v := .int .i64 r.t) (by simp [*]) hbq; have hU1 := cell_below (B := b) (o := off + p * 4 + 1) (v := .int .i64 r.a) (by simp [*]) hbq; have hU2 := cell_below (B := b) (o := off + p * 4 + 2) (v := .bool r.g) (by simp [*]) hbq; have hU3 := cell_below (B := b) (o := off + p * 4 + 3) (v := .int .i64 r.v) (by simp [*]) hbq; have hU4 := cell_below (B := B) (o := 0) (v := .int .i64 f) (by simp [*]) hbq; have hU5 := cell_below (B := B) (o := 1) (v := .int .i64 0) (by simp [*]) hbq))
          obtain ⟨BX3, HB3, HV0, hs3⟩ := HXW.out wq (by assumption)
          have HV3 := HV0.some_less (m := p) (by omega)
          have hm1 : (0 : Int) ≤ (p : Int) + 1 := by omega
          have hm2 : (p : Int) + 1 ≤ (n : Int) := by omega
          have hm3 : (p : Int) ≤ (n : Int) := by omega
          have hm4 : (p : Int) + 1 ≤ (cc : Int) := by omega
          have hm5 : (p : Int) ≤ (cc : Int) := by omega
          go_wp2_with fail
          have hjo : jv (fun _ => p) (fun _ => R) 1 = vL R p := by simp [jv]
          have hjp : ∀ i, i < 1 → (wq.alloc (.cells #[.slice (some ⟨b, off, none⟩) p cc] 103)).cell? ⟨wq.heap.size, 0 + i, none⟩ = some (.slice (some ⟨b, off, none⟩) p cc) ∧ VersAt (wq.alloc (.cells #[.slice (some ⟨b, off, none⟩) p cc] 103)) (some ⟨b, off, none⟩) p R := fun i hi => by
            obtain rfl : i = 0 := by omega
            exact ⟨by simp [go_sem], VersAt.below HV3 (below_new _ _)⟩
          have hj := joined_any 1 (fun _ => some ⟨b, off, none⟩) (fun _ => p) (fun _ => cc) (fun _ => R) wq.heap.size 0 1 _ (fun i hi => by show p ≤ 100; omega) (by simp) hjp (by omega)
          rw [hjo, vL_len] at hj
          refine hj.mono ?_
          rintro e w5 ⟨ra, rcc, rfl, hb5, ho5⟩
          replace ho5 := ho5.congr (S := R) (fun i hi => vL_getD hi)
          have hs5 : w.heap.size < (wq.alloc (.cells #[.slice (some ⟨b, off, none⟩) p cc] 103)).heap.size := by rw [World.size_alloc]; omega
          have hb6 := below_then (below_new _ _) hb5
          obtain ⟨q0, q1, qf⟩ := BX3.below hb6
          have HE : Hid (∀ u0 u1 : Value, _) := cres_end (below_then HB3 hb6) hs5 ho5
          clear hb5 ho5 hb6 hj hjp hjo hs5
          go_wp2_with fail
          refine bodyPost_ret (v := .agg #[.int .i64 0, .slice ra p rcc]) (by simp [results, Tryz.results90, go_sem, *]) rfl ⟨ra, rcc, rfl, (HE.out _ _).1, (HE.out _ _).2⟩
      · have hpn : pS n R f 0 = n := by have := pS_le n R f 0; omega
        have hM2 : n = M := by
          rw [hM]
          unfold puN
          rw [if_neg (fun h9 => hp (told_iff.1 h9).1), hpn]
        subst hM2
        rw [hpn]
        clear hM hp hpn hc HA2
        go_wp2_with fail
        refine wp_region_any (by kernel_rfl) ?_
        change wpAny _ _ _ _ _ _ _ (World.drew _)
        refine wpAny_take (i := 0) (v := .int .i64 (n : Int)) rfl (by kernel_rfl) (by kernel_rfl) (by kernel_rfl) (fun _ _ _ h => h) (Or.inl ⟨by kernel_rfl, by intro w; go_simp⟩) ?_
        refine wpAny_take (i := 1) (v := .slice (some ⟨b, off, none⟩) n cc) rfl (by kernel_rfl) (by kernel_rfl) (by kernel_rfl) (fun _ _ _ h => h) (Or.inl ⟨by kernel_rfl, by intro w; go_simp⟩) ?_
        refine wpAny_take (i := 2) (v := .int .i64 (n : Int)) rfl (by kernel_rfl) (by kernel_rfl) (by kernel_rfl) (fun _ _ _ h => h) (Or.inl ⟨by kernel_rfl, by intro w; go_simp⟩) ?_
        refine wpAny_take (i := 3) (v := .bool false) rfl (by kernel_rfl) (by kernel_rfl) (by kernel_rfl) (fun _ _ _ h => h) (Or.inl ⟨by kernel_rfl, by intro w; go_simp⟩) ?_
        refine wpAny_take (i := 4) (v := .bool false) rfl (by kernel_rfl) (by kernel_rfl) (by kernel_rfl) (fun _ _ _ h => h) (Or.inl ⟨by kernel_rfl, by intro w; go_simp⟩) ?_
        refine any_skip 5 (some 28) (by kernel_rfl) (by kernel_rfl) (by kernel_rfl) (by kernel_rfl) (by kernel_rfl) (fun _ _ _ h => h) ?_
        refine any_skip 6 (some 29) (by kernel_rfl) (by kernel_rfl) (by kernel_rfl) (by kernel_rfl) (by kernel_rfl) (fun _ _ _ h => h) ?_
        refine any_skip 7 (some 30) (by kernel_rfl) (by kernel_rfl) (by kernel_rfl) (by kernel_rfl) (by kernel_rfl) (fun _ _ _ h => h) ?_
        refine any_skip 8 (some 31) (by kernel_rfl) (by kernel_rfl) (by kernel_rfl) (by kernel_rfl) (by kernel_rfl) (fun _ _ _ h => h) ?_
        refine any_skip 9 (some 32) (by kernel_rfl) (by kernel_rfl) (by kernel_rfl) (by kernel_rfl) (by kernel_rfl) (fun _ _ _ h => h) ?_
        refine any_skip 10 (some 33) (by kernel_rfl) (by kernel_rfl) (by kernel_rfl) (by kernel_rfl) (by kernel_rfl) (fun _ _ _ h => h) ?_
        refine any_skip 11 (some 34) (by kernel_rfl) (by kernel_rfl) (by kernel_rfl) (by kernel_rfl) (by kernel_rfl) (fun _ _ _ h => h) ?_
        refine wpAny_take (i := 12) (v := .bool false) rfl (by kernel_rfl) (by kernel_rfl) (by kernel_rfl) (fun _ _ _ h => h) (Or.inl ⟨by kernel_rfl, by intro w; go_simp⟩) ?_
        refine wpAny_done (by kernel_rfl) ?_ _
        go_simp
        obtain ⟨BX3, HB3, HV3, hs3⟩ := HXW.out w2.drew ((Below.refl _ _).drew)
        have hm3 : (0 : Int) ≤ (n : Int) := by omega
        have hm4 : (n : Int) ≤ (cc : Int) := by omega
        go_wp2_with fail
        have hjo : jv (fun _ => n) (fun _ => R) 1 = vL R n := by simp [jv]
        have hjp : ∀ i, i < 1 → (w2.drew.alloc (.cells #[.slice (some ⟨b, off, none⟩) n cc] 103)).cell? ⟨w2.drew.heap.size, 0 + i, none⟩ = some (.slice (some ⟨b, off, none⟩) n cc) ∧ VersAt (w2.drew.alloc (.cells #[.slice (some ⟨b, off, none⟩) n cc] 103)) (some ⟨b, off, none⟩) n R := fun i hi => by
          obtain rfl : i = 0 := by omega
          exact ⟨by simp [go_sem], VersAt.below HV3 (below_new _ _)⟩
        have hj := joined_any 1 (fun _ => some ⟨b, off, none⟩) (fun _ => n) (fun _ => cc) (fun _ => R) w2.drew.heap.size 0 1 _ (fun i hi => by show n ≤ 100; omega) (by simp) hjp (by omega)
        rw [hjo, vL_len] at hj
        refine hj.mono ?_
        rintro e w5 ⟨ra, rcc, rfl, hb5, ho5⟩
        replace ho5 := ho5.congr (S := R) (fun i hi => vL_getD hi)
        have hs5 : w.heap.size < (w2.drew.alloc (.cells #[.slice (some ⟨b, off, none⟩) n cc] 103)).heap.size := by rw [World.size_alloc]; omega
        have hb6 := below_then (below_new _ _) hb5
        obtain ⟨q0, q1, qf⟩ := BX3.below hb6
        have HE : Hid (∀ u0 u1 : Value, _) := cres_end (below_then HB3 hb6) hs5 ho5
        clear hb5 ho5 hb6 hj hjp hjo hs5
        go_wp2_with fail
        refine bodyPost_ret (v := .agg #[.int .i64 0, .slice ra n rcc]) (by simp [results, Tryz.results90, go_sem, *]) rfl ⟨ra, rcc, rfl, (HE.out _ _).1, (HE.out _ _).2⟩
    · have hf' : inB f 0 1000000 = false := by simpa using hf
      have hC : C = 3 := by rw [HV.out.1, if_pos hc, if_neg hf]
      have hM : M = 0 := by rw [HV.out.2, if_neg (by omega)]
      subst hC hM
      go_wp2_with fail
      refine (isAt_any _ _).mono ?_
      rintro e wt ⟨rfl, hwt⟩
      have hwt' := hwt.symm
      clear hwt
      subst hwt'
      rw [hf']
      obtain ⟨q0, q1, qf⟩ := BX
      go_wp2_with fail
      refine bodyPost_ret (v := .agg #[.int .i64 3, .slice none 0 0]) (by simp [results, Tryz.results90, go_sem, *]) rfl ⟨none, 0, rfl, (HEB.out _ _).1, (HEB.out _ _).2⟩
  · have hC : C = chF n R := by rw [HV.out.1, if_neg hc]
    have hM : M = 0 := by rw [HV.out.2, if_neg (by omega)]
    subst hM
    rw [← hC]
    rw [← hC] at hc
    clear HV hC
    have hc1 : (C != 0) = true := by simp [hc]
    obtain ⟨q0, q1, qf⟩ := BX
    go_wp2_with fail
    refine bodyPost_ret (v := .agg #[.int .i64 C, .slice none 0 0]) (by simp [results, Tryz.results90, go_sem, *]) rfl ⟨none, 0, rfl, (HEB.out _ _).1, (HEB.out _ _).2⟩
/-- An answer that can be sliced again. -/
def ShA (a : Option Addr) (m cap : Nat) : Prop := m ≤ cap ∧ (a = none ∧ m = 0 ∧ cap = 0 ∨ ∃ b off, a = some ⟨b, off, none⟩)
theorem sha_of_row {w : World} {base n : Nat} {v : Value} {xs : List Value} (h : w.ownsRow base 136 4 v n xs) : ∃ a cap, v = .slice a n cap ∧ ShA a n cap := by
  rcases h.2 with ⟨rfl, h0⟩ | ⟨g, cap, cur, rfl, _, _, h9, _⟩
  · exact ⟨none, 0, by rw [h0], by omega, .inl ⟨rfl, h0, rfl⟩⟩
  · exact ⟨_, cap, rfl, by omega, .inr ⟨_, _, rfl⟩⟩
def VAnsC (m : Nat) (S : Nat → Vr) (w : World) (e : Ending) (w' : World) : Prop := ∃ a cap, e = .returned (.slice a m cap) ∧ ShA a m cap ∧ Below w.heap.size w w' ∧ Own4 w' w.heap.size w'.heap.size a m S
theorem VAnsC.of {w w' : World} {v : Value} {xs : List Vr} {base : Nat} (hb : Below w.heap.size w w') (hl : w.heap.size ≤ base) (h : w'.ownsRow base 136 4 v xs.length (vb xs)) : VAnsC xs.length (fun i => xs.getD i zV) w (.returned v) w' := by
  obtain ⟨a, cap, rfl, hs⟩ := sha_of_row h
  exact ⟨a, cap, rfl, hs, hb, (own4_of_row rfl h).wide hl (Nat.le_refl _) (Nat.le_refl _)⟩
def CResC (c : Int) (m : Nat) (S : Nat → Vr) (w : World) (e : Ending) (w' : World) : Prop := ∃ a cap, e = .returned (.agg #[.int .i64 c, .slice a m cap]) ∧ ShA a m cap ∧ Below w.heap.size w w' ∧ Own4 w' w.heap.size w'.heap.size a m S
set_option maxHeartbeats 2000000 in
theorem joinedC_any (m : Nat) (A : Nat → Option Addr) (N C : Nat → Nat) (Z : Nat → Nat → Vr) (pb po pc : Nat) (w : World) (hs : ∀ i, i < m → N i ≤ 100) (hpb : pb < w.heap.size)
    (hp : ∀ i, i < m → w.cell? ⟨pb, po + i, none⟩ = some (.slice (A i) (N i) (C i)) ∧ VersAt w (A i) (N i) (Z i)) (hm : m ≤ 3) :
    Calls Tryz.prog 132 #[.slice (some ⟨pb, po, none⟩) m pc] w (VAnsC (jv N Z m).length (fun i => (jv N Z m).getD i zV) w) := by
  have HP : Hid (∀ i, i < m → w.cell? ⟨pb, po + i, none⟩ = some (.slice (A i) (N i) (C i)) ∧ VersAt w (A i) (N i) (Z i)) := hp
  clear hp
  go_enter Tryz.func132, Tryz.ntmps132
  go_wp2_with fail
  go_loopw [3, 5, 8] (fun v _ i wr => ∃ k : Nat, k ≤ m ∧ i = .int .i64 k ∧ Hid (Below w.heap.size w wr) ∧ Hid (wr.ownsRow w.heap.size 136 4 v (jv N Z k).length (vb (jv N Z k)))) (fun _ _ i _ => m - (intOf i).toNat)
  case atStart => exact ⟨0, by omega, rfl, Below.refl _ _, World.ownsRow_nil _ _ _ _⟩
  case round =>
    obtain ⟨k, hk, rfl, HB, HO⟩ := hrel
    by_cases hlt : k < m
    · have hlt' : (k : Int) < (m : Int) := by omega
      have hk1 : (0 : Int) ≤ (k : Int) := by omega
      have hc := cell_below (HP.out k hlt).1 HB.out
      have HBA : Hid (VersAt wr (A k) (N k) (Z k)) := (HP.out k hlt).2.below HB.out
      have HLE : Hid ((jv N Z k).length + N k ≤ 100000) := by
        have h1 := jv_len N Z k (fun i hi => hs i (by omega))
        have h2 := hs k hlt
        show (jv N Z k).length + N k ≤ 100000
        omega
      go_wp2_with (at_builtin; refine wpList_appV _ rfl (.tmp 12) (.tmp 13) rfl w.heap.size _ (jv N Z k) rfl HO.out (A k) (N k) (C k) (Z k) rfl HBA.out HLE.out HB.out.size ?_)
      intro v1 w1 ho1 hg1
      have HO1 : Hid (w1.ownsRow w.heap.size 136 4 v1 (jv N Z (k + 1)).length (vb (jv N Z (k + 1)))) := by
        show w1.ownsRow w.heap.size 136 4 v1 (jv N Z k ++ vL (Z k) (N k)).length (vb (jv N Z k ++ vL (Z k) (N k)))
        rw [List.length_append]
        exact ho1
      have HB1 : Hid (Below w.heap.size w w1) := HB.out.grown hg1 HB.out.size (fun q hq => (HO.out.lt q hq).1)
      clear ho1 hg1
      go_wp2_with fail
      go_roundw
      case rel => exact ⟨k + 1, hlt, by go_num, HB1, HO1⟩
      case measure => simp [intOf]; omega
    · have hkn : k = m := by omega
      subst hkn
      have HF := VAnsC.of HB.out (Nat.le_refl _) HO.out
      go_wp2_with fail
      go_ret
      exact HF
set_option maxHeartbeats 4000000 in
theorem implPuD_any (n : Nat) (R : Nat → Vr) (b off cc : Nat) (hcc : n ≤ cc) (f : Int) (w : World) (hn : n ≤ 9223372036854775807) (h : VersAt w (some ⟨b, off, none⟩) n R) :
    Calls Tryz.prog 90 #[.slice (some ⟨b, off, none⟩) n cc, .int .i64 f] w (CResC (puC n R f) (puM n R f) R w) := by
  have HA : Hid (VersAt w (some ⟨b, off, none⟩) n R) := h
  have HV : Hid ((puC n R f = if chF n R = 0 then (if inB f 0 1000000 = true then 0 else 3) else chF n R) ∧ (puM n R f = if puC n R f = 0 then puN n R f else 0)) := ⟨rfl, rfl⟩
  clear h
  generalize puC n R f = C at *
  generalize puM n R f = M at *
  go_enter Tryz.func90, Tryz.ntmps90
  go_wp2_with fail
  refine (implChF_any n R _ cc _ hn (HA.out.below (below_new _ _))).mono ?_
  rintro e w1 ⟨rfl, hb1⟩
  have BX := (BoxR.new w (.int .i64 0) (.slice none 0 0) 123).below hb1
  have HB1 : Hid (Below w.heap.size w w1) := below_then (below_new _ _) hb1
  have hs1 : w.heap.size < w1.heap.size := by have := hb1.size; simp at this; omega
  clear hb1
  have HEB : Hid (∀ u0 u1 : Value, _) := cres_end (m := 0) (a := none) (S := R) HB1.out (Nat.lt_succ_self _) own4_none
  by_cases hc : chF n R = 0
  · rw [hc]
    have HA1 : Hid (VersAt w1 (some ⟨b, off, none⟩) n R) := HA.out.below HB1.out
    have hn12 := (chF_good hc).1
    by_cases hf : inB f 0 1000000 = true
    · have hC : C = 0 := by rw [HV.out.1, if_pos hc, if_pos hf]
      have hM : M = puN n R f := by rw [HV.out.2, if_pos hC]
      subst hC
      go_wp2_with fail
      refine (isAt_any _ _).mono ?_
      rintro e wt ⟨rfl, hwt⟩
      have hwt' := hwt.symm
      clear hwt
      subst hwt'
      rw [hf]
      go_wp2_with fail
      refine (placeSeen_any n R _ cc f 0 _ hn12 (HA1.out.below (below_new _ _))).mono ?_
      rintro e w2 ⟨rfl, hb2⟩
      have BV2 := (Box2.new w1 (.int .i64 f) (.int .i64 0) 59).below hb2
      have hb2' := below_then (below_new _ _) hb2
      have HXW : Hid (∀ wz, Below w2.heap.size w2 wz → BoxR wz w.heap.size (.int .i64 0) (.slice none 0 0) ∧ Below w.heap.size w wz ∧ VersAt wz (some ⟨b, off, none⟩) n R ∧ w.heap.size < wz.heap.size) := fun wz hz => by
        have h9 := below_then hb2' hz
        exact ⟨BX.below h9, below_then HB1.out h9, HA1.out.below h9, Nat.lt_of_lt_of_le hs1 h9.size⟩
      have HA2 : Hid (VersAt w2 (some ⟨b, off, none⟩) n R) := HA1.out.below hb2'
      clear hb2 hb2' HEB BX HA HA1 HV
      generalize w1.heap.size = B at *
      obtain ⟨v0, v1⟩ := BV2
      by_cases hp : pS n R f 0 < n
      · obtain ⟨b', off', e9, hl, x0, x1, x2, x3⟩ := HA2.out.nth hp
        simp only [Option.some.injEq, Addr.mk.injEq] at e9
        obtain ⟨rfl, rfl, -⟩ := e9
        have hk0 := kd_told hp
        have hpu : puN n R f = if (R (pS n R f 0)).g = false then pS n R f 0 + 1 else pS n R f 0 := by
          unfold puN
          by_cases h9 : (R (pS n R f 0)).g = false
          · rw [if_pos (told_iff.2 ⟨hp, h9⟩), if_pos h9]
          · rw [if_neg (fun h8 => h9 (told_iff.1 h8).2), if_neg h9]
        clear HA2 hc
        generalize pS n R f 0 = p at *
        generalize R p = r at *
        have hp1 : (p : Int) < (n : Int) := by omega
        have hp3 : (0 : Int) ≤ (p : Int) := by omega
        cases hg : r.g
        · have hk : kd r f 0 = 2 := by rw [hk0]; simp [hg]
          have hM2 : p + 1 = M := by rw [hM, hpu, hg]; rfl
          subst hM2
          clear hM hpu hk0 hg
          go_wp2_with fail
          have hb0 : Below w2.heap.size w2 w2.drew := (Below.refl _ _).drew
          go_region_held3 (fun w' => Below w2.heap.size w2 w' ∧ w'.cell? ⟨b, off + p * 4, none⟩ = some (.int .i64 r.t) ∧ w'.cell? ⟨b, off + p * 4 + 1, none⟩ = some (.int .i64 r.a) ∧ w'.cell? ⟨b, off + p * 4 + 2, none⟩ = some (.bool r.g) ∧ w'.cell? ⟨b, off + p * 4 + 3, none⟩ = some (.int .i64 r.v) ∧ w'.cell? ⟨B, 0, none⟩ = some (.int .i64 f) ∧ w'.cell? ⟨B, 1, none⟩ = some (.int .i64 0)) (go_keep)
            (first | (go_at_call 127; refine (kindIn_any r f 0 _).mono ?_; rintro e wq ⟨rfl, hbq⟩; rw [hk]; have hU := below_then (w := w2) (by simp [*]) hbq; have hU0 := cell_below (B := b) (o := off + p * 4) (v := .int .i64 r.t) (by simp [*]) hbq; have hU1 := cell_below (B := b) (o := off + p * 4 + 1) (v := .int .i64 r.a) (by simp [*]) hbq; have hU2 := cell_below (B := b) (o := off + p * 4 + 2) (v := .bool r.g) (by simp [*]) hbq; have hU3 := cell_below (B := b) (o := off + p * 4 + 3) (v := .int .i64 r.v) (by simp [*]) hbq; have hU4 := cell_below (B := B) (o := 0) (v := .int .i64 f) (by simp [*]) hbq; have hU5 := cell_below (B := B) (o := 1) (v := .int .i64 0) (by simp [*]) hbq))
          obtain ⟨BX3, HB3, HV0, hs3⟩ := HXW.out wq (by assumption)
          have HV3 := HV0.some_less (m := (p + 1)) (by omega)
          have hm1 : (0 : Int) ≤ (p : Int) + 1 := by omega
          have hm2 : (p : Int) + 1 ≤ (n : Int) := by omega
          have hm3 : (p : Int) ≤ (n : Int) := by omega
          have hm4 : (p : Int) + 1 ≤ (cc : Int) := by omega
          have hm5 : (p : Int) ≤ (cc : Int) := by omega
          go_wp2_with fail
          have hjo : jv (fun _ => (p + 1)) (fun _ => R) 1 = vL R (p + 1) := by simp [jv]
          have hjp : ∀ i, i < 1 → (wq.alloc (.cells #[.slice (some ⟨b, off, none⟩) (p + 1) cc] 103)).cell? ⟨wq.heap.size, 0 + i, none⟩ = some (.slice (some ⟨b, off, none⟩) (p + 1) cc) ∧ VersAt (wq.alloc (.cells #[.slice (some ⟨b, off, none⟩) (p + 1) cc] 103)) (some ⟨b, off, none⟩) (p + 1) R := fun i hi => by
            obtain rfl : i = 0 := by omega
            exact ⟨by simp [go_sem], VersAt.below HV3 (below_new _ _)⟩
          have hj := joinedC_any 1 (fun _ => some ⟨b, off, none⟩) (fun _ => (p + 1)) (fun _ => cc) (fun _ => R) wq.heap.size 0 1 _ (fun i hi => by show (p + 1) ≤ 100; omega) (by simp) hjp (by omega)
          rw [hjo, vL_len] at hj
          refine hj.mono ?_
          rintro e w5 ⟨ra, rcc, rfl, hsh, hb5, ho5⟩
          replace ho5 := ho5.congr (S := R) (fun i hi => vL_getD hi)
          have hs5 : w.heap.size < (wq.alloc (.cells #[.slice (some ⟨b, off, none⟩) (p + 1) cc] 103)).heap.size := by rw [World.size_alloc]; omega
          have hb6 := below_then (below_new _ _) hb5
          obtain ⟨q0, q1, qf⟩ := BX3.below hb6
          have HE : Hid (∀ u0 u1 : Value, _) := cres_end (below_then HB3 hb6) hs5 ho5
          have HSH : Hid (ShA ra _ rcc) := hsh
          clear hsh hb5 ho5 hb6 hj hjp hjo hs5
          go_wp2_with fail
          refine bodyPost_ret (v := .agg #[.int .i64 0, .slice ra (p + 1) rcc]) (by simp [results, Tryz.results90, go_sem, *]) rfl ⟨ra, rcc, rfl, HSH.out, (HE.out _ _).1, (HE.out _ _).2⟩
        · have hk : kd r f 0 = 1 := by rw [hk0]; simp [hg]
          have hM2 : p = M := by rw [hM, hpu, hg]; rfl
          subst hM2
          clear hM hpu hk0 hg
          go_wp2_with fail
          have hb0 : Below w2.heap.size w2 w2.drew := (Below.refl _ _).drew
          go_region_held3 (fun w' => Below w2.heap.size w2 w' ∧ w'.cell? ⟨b, off + p * 4, none⟩ = some (.int .i64 r.t) ∧ w'.cell? ⟨b, off + p * 4 + 1, none⟩ = some (.int .i64 r.a) ∧ w'.cell? ⟨b, off + p * 4 + 2, none⟩ = some (.bool r.g) ∧ w'.cell? ⟨b, off + p * 4 + 3, none⟩ = some (.int .i64 r.v) ∧ w'.cell? ⟨B, 0, none⟩ = some (.int .i64 f) ∧ w'.cell? ⟨B, 1, none⟩ = some (.int .i64 0)) (go_keep)
            (first | (go_at_call 127; refine (kindIn_any r f 0 _).mono ?_; rintro e wq ⟨rfl, hbq⟩; rw [hk]; have hU := below_then (w := w2) (by simp [*]) hbq; have hU0 := cell_below (B := b) (o := off + p * 4) (v := .int .i64 r.t) (by simp [*]) hbq; have hU1 := cell_below (B := b) (o := off + p * 4 + 1) (v := .int .i64 r.a) (by simp [*]) hbq; have hU2 := cell_below (B := b) (o := off + p * 4 + 2) (v := .bool r.g) (by simp [*]) hbq; have hU3 := cell_below (B := b) (o := off + p * 4 + 3) (v := .int .i64 r.v) (by simp [*]) hbq; have hU4 := cell_below (B := B) (o := 0) (v := .int .i64 f) (by simp [*]) hbq; have hU5 := cell_below (B := B) (o := 1) (v := .int .i64 0) (by simp [*]) hbq))
          obtain ⟨BX3, HB3, HV0, hs3⟩ := HXW.out wq (by assumption)
          have HV3 := HV0.some_less (m := p) (by omega)
          have hm1 : (0 : Int) ≤ (p : Int) + 1 := by omega
          have hm2 : (p : Int) + 1 ≤ (n : Int) := by omega
          have hm3 : (p : Int) ≤ (n : Int) := by omega
          have hm4 : (p : Int) + 1 ≤ (cc : Int) := by omega
          have hm5 : (p : Int) ≤ (cc : Int) := by omega
          go_wp2_with fail
          have hjo : jv (fun _ => p) (fun _ => R) 1 = vL R p := by simp [jv]
          have hjp : ∀ i, i < 1 → (wq.alloc (.cells #[.slice (some ⟨b, off, none⟩) p cc] 103)).cell? ⟨wq.heap.size, 0 + i, none⟩ = some (.slice (some ⟨b, off, none⟩) p cc) ∧ VersAt (wq.alloc (.cells #[.slice (some ⟨b, off, none⟩) p cc] 103)) (some ⟨b, off, none⟩) p R := fun i hi => by
            obtain rfl : i = 0 := by omega
            exact ⟨by simp [go_sem], VersAt.below HV3 (below_new _ _)⟩
          have hj := joinedC_any 1 (fun _ => some ⟨b, off, none⟩) (fun _ => p) (fun _ => cc) (fun _ => R) wq.heap.size 0 1 _ (fun i hi => by show p ≤ 100; omega) (by simp) hjp (by omega)
          rw [hjo, vL_len] at hj
          refine hj.mono ?_
          rintro e w5 ⟨ra, rcc, rfl, hsh, hb5, ho5⟩
          replace ho5 := ho5.congr (S := R) (fun i hi => vL_getD hi)
          have hs5 : w.heap.size < (wq.alloc (.cells #[.slice (some ⟨b, off, none⟩) p cc] 103)).heap.size := by rw [World.size_alloc]; omega
          have hb6 := below_then (below_new _ _) hb5
          obtain ⟨q0, q1, qf⟩ := BX3.below hb6
          have HE : Hid (∀ u0 u1 : Value, _) := cres_end (below_then HB3 hb6) hs5 ho5
          have HSH : Hid (ShA ra _ rcc) := hsh
          clear hsh hb5 ho5 hb6 hj hjp hjo hs5
          go_wp2_with fail
          refine bodyPost_ret (v := .agg #[.int .i64 0, .slice ra p rcc]) (by simp [results, Tryz.results90, go_sem, *]) rfl ⟨ra, rcc, rfl, HSH.out, (HE.out _ _).1, (HE.out _ _).2⟩
      · have hpn : pS n R f 0 = n := by have := pS_le n R f 0; omega
        have hM2 : n = M := by
          rw [hM]
          unfold puN
          rw [if_neg (fun h9 => hp (told_iff.1 h9).1), hpn]
        subst hM2
        rw [hpn]
        clear hM hp hpn hc HA2
        go_wp2_with fail
        refine wp_region_any (by kernel_rfl) ?_
        change wpAny _ _ _ _ _ _ _ (World.drew _)
        refine wpAny_take (i := 0) (v := .int .i64 (n : Int)) rfl (by kernel_rfl) (by kernel_rfl) (by kernel_rfl) (fun _ _ _ h => h) (Or.inl ⟨by kernel_rfl, by intro w; go_simp⟩) ?_
        refine wpAny_take (i := 1) (v := .slice (some ⟨b, off, none⟩) n cc) rfl (by kernel_rfl) (by kernel_rfl) (by kernel_rfl) (fun _ _ _ h => h) (Or.inl ⟨by kernel_rfl, by intro w; go_simp⟩) ?_
        refine wpAny_take (i := 2) (v := .int .i64 (n : Int)) rfl (by kernel_rfl) (by kernel_rfl) (by kernel_rfl) (fun _ _ _ h => h) (Or.inl ⟨by kernel_rfl, by intro w; go_simp⟩) ?_
        refine wpAny_take (i := 3) (v := .bool false) rfl (by kernel_rfl) (by kernel_rfl) (by kernel_rfl) (fun _ _ _ h => h) (Or.inl ⟨by kernel_rfl, by intro w; go_simp⟩) ?_
        refine wpAny_take (i := 4) (v := .bool false) rfl (by kernel_rfl) (by kernel_rfl) (by kernel_rfl) (fun _ _ _ h => h) (Or.inl ⟨by kernel_rfl, by intro w; go_simp⟩) ?_
        refine any_skip 5 (some 28) (by kernel_rfl) (by kernel_rfl) (by kernel_rfl) (by kernel_rfl) (by kernel_rfl) (fun _ _ _ h => h) ?_
        refine any_skip 6 (some 29) (by kernel_rfl) (by kernel_rfl) (by kernel_rfl) (by kernel_rfl) (by kernel_rfl) (fun _ _ _ h => h) ?_
        refine any_skip 7 (some 30) (by kernel_rfl) (by kernel_rfl) (by kernel_rfl) (by kernel_rfl) (by kernel_rfl) (fun _ _ _ h => h) ?_
        refine any_skip 8 (some 31) (by kernel_rfl) (by kernel_rfl) (by kernel_rfl) (by kernel_rfl) (by kernel_rfl) (fun _ _ _ h => h) ?_
        refine any_skip 9 (some 32) (by kernel_rfl) (by kernel_rfl) (by kernel_rfl) (by kernel_rfl) (by kernel_rfl) (fun _ _ _ h => h) ?_
        refine any_skip 10 (some 33) (by kernel_rfl) (by kernel_rfl) (by kernel_rfl) (by kernel_rfl) (by kernel_rfl) (fun _ _ _ h => h) ?_
        refine any_skip 11 (some 34) (by kernel_rfl) (by kernel_rfl) (by kernel_rfl) (by kernel_rfl) (by kernel_rfl) (fun _ _ _ h => h) ?_
        refine wpAny_take (i := 12) (v := .bool false) rfl (by kernel_rfl) (by kernel_rfl) (by kernel_rfl) (fun _ _ _ h => h) (Or.inl ⟨by kernel_rfl, by intro w; go_simp⟩) ?_
        refine wpAny_done (by kernel_rfl) ?_ _
        go_simp
        obtain ⟨BX3, HB3, HV3, hs3⟩ := HXW.out w2.drew ((Below.refl _ _).drew)
        have hm3 : (0 : Int) ≤ (n : Int) := by omega
        have hm4 : (n : Int) ≤ (cc : Int) := by omega
        go_wp2_with fail
        have hjo : jv (fun _ => n) (fun _ => R) 1 = vL R n := by simp [jv]
        have hjp : ∀ i, i < 1 → (w2.drew.alloc (.cells #[.slice (some ⟨b, off, none⟩) n cc] 103)).cell? ⟨w2.drew.heap.size, 0 + i, none⟩ = some (.slice (some ⟨b, off, none⟩) n cc) ∧ VersAt (w2.drew.alloc (.cells #[.slice (some ⟨b, off, none⟩) n cc] 103)) (some ⟨b, off, none⟩) n R := fun i hi => by
          obtain rfl : i = 0 := by omega
          exact ⟨by simp [go_sem], VersAt.below HV3 (below_new _ _)⟩
        have hj := joinedC_any 1 (fun _ => some ⟨b, off, none⟩) (fun _ => n) (fun _ => cc) (fun _ => R) w2.drew.heap.size 0 1 _ (fun i hi => by show n ≤ 100; omega) (by simp) hjp (by omega)
        rw [hjo, vL_len] at hj
        refine hj.mono ?_
        rintro e w5 ⟨ra, rcc, rfl, hsh, hb5, ho5⟩
        replace ho5 := ho5.congr (S := R) (fun i hi => vL_getD hi)
        have hs5 : w.heap.size < (w2.drew.alloc (.cells #[.slice (some ⟨b, off, none⟩) n cc] 103)).heap.size := by rw [World.size_alloc]; omega
        have hb6 := below_then (below_new _ _) hb5
        obtain ⟨q0, q1, qf⟩ := BX3.below hb6
        have HE : Hid (∀ u0 u1 : Value, _) := cres_end (below_then HB3 hb6) hs5 ho5
        have HSH : Hid (ShA ra _ rcc) := hsh
        clear hsh hb5 ho5 hb6 hj hjp hjo hs5
        go_wp2_with fail
        refine bodyPost_ret (v := .agg #[.int .i64 0, .slice ra n rcc]) (by simp [results, Tryz.results90, go_sem, *]) rfl ⟨ra, rcc, rfl, HSH.out, (HE.out _ _).1, (HE.out _ _).2⟩
    · have hf' : inB f 0 1000000 = false := by simpa using hf
      have hC : C = 3 := by rw [HV.out.1, if_pos hc, if_neg hf]
      have hM : M = 0 := by rw [HV.out.2, if_neg (by omega)]
      subst hC hM
      go_wp2_with fail
      refine (isAt_any _ _).mono ?_
      rintro e wt ⟨rfl, hwt⟩
      have hwt' := hwt.symm
      clear hwt
      subst hwt'
      rw [hf']
      obtain ⟨q0, q1, qf⟩ := BX
      go_wp2_with fail
      refine bodyPost_ret (v := .agg #[.int .i64 3, .slice none 0 0]) (by simp [results, Tryz.results90, go_sem, *]) rfl ⟨none, 0, rfl, ⟨Nat.le_refl _, .inl ⟨rfl, rfl, rfl⟩⟩, (HEB.out _ _).1, (HEB.out _ _).2⟩
  · have hC : C = chF n R := by rw [HV.out.1, if_neg hc]
    have hM : M = 0 := by rw [HV.out.2, if_neg (by omega)]
    subst hM
    rw [← hC]
    rw [← hC] at hc
    clear HV hC
    have hc1 : (C != 0) = true := by simp [hc]
    obtain ⟨q0, q1, qf⟩ := BX
    go_wp2_with fail
    refine bodyPost_ret (v := .agg #[.int .i64 C, .slice none 0 0]) (by simp [results, Tryz.results90, go_sem, *]) rfl ⟨none, 0, rfl, ⟨Nat.le_refl _, .inl ⟨rfl, rfl, rfl⟩⟩, (HEB.out _ _).1, (HEB.out _ _).2⟩
set_option maxHeartbeats 4000000 in
/-- Nothing is purged. -/
theorem implPu0_any (R : Nat → Vr) (f : Int) (w : World) (hf : inB f 0 1000000 = true) :
    Calls Tryz.prog 90 #[.slice none 0 0, .int .i64 f] w (CResC 0 0 R w) := by
  have hc : chF 0 R = 0 := rfl
  have hpn : pS 0 R f 0 = 0 := rfl
  have HVA : Hid (∀ u : World, VersAt u none 0 R) := fun u => .inl rfl
  go_enter Tryz.func90, Tryz.ntmps90
  go_wp2_with fail
  refine (implChF_any 0 R none 0 _ (by omega) (HVA.out _)).mono ?_
  rintro e w1 ⟨rfl, hb1⟩
  have BX := (BoxR.new w (.int .i64 0) (.slice none 0 0) 123).below hb1
  have HB1 : Hid (Below w.heap.size w w1) := below_then (below_new _ _) hb1
  have hs1 : w.heap.size < w1.heap.size := by have := hb1.size; simp at this; omega
  clear hb1
  rw [hc]
  clear hc
  go_wp2_with fail
  refine (isAt_any _ _).mono ?_
  rintro e wt ⟨rfl, hwt⟩
  have hwt' := hwt.symm
  clear hwt
  subst hwt'
  rw [hf]
  go_wp2_with fail
  refine (placeSeen_any 0 R none 0 f 0 _ (by omega) (HVA.out _)).mono ?_
  rintro e w2 ⟨rfl, hb2⟩
  have hb2' := below_then (below_new _ _) hb2
  have HXW : Hid (∀ wz, Below w2.heap.size w2 wz → BoxR wz w.heap.size (.int .i64 0) (.slice none 0 0) ∧ Below w.heap.size w wz ∧ w.heap.size < wz.heap.size) := fun wz hz => by
    have h9 := below_then hb2' hz
    exact ⟨BX.below h9, below_then HB1.out h9, Nat.lt_of_lt_of_le hs1 h9.size⟩
  rw [hpn]
  clear hpn hb2 hb2' BX HB1 hs1
  go_wp2_with fail
  refine wp_region_any (by kernel_rfl) ?_
  change wpAny _ _ _ _ _ _ _ (World.drew _)
  refine wpAny_take (i := 0) (v := .int .i64 0) rfl (by kernel_rfl) (by kernel_rfl) (by kernel_rfl) (fun _ _ _ h => h) (Or.inl ⟨by kernel_rfl, by intro w; go_simp⟩) ?_
  refine wpAny_take (i := 1) (v := .slice none 0 0) rfl (by kernel_rfl) (by kernel_rfl) (by kernel_rfl) (fun _ _ _ h => h) (Or.inl ⟨by kernel_rfl, by intro w; go_simp⟩) ?_
  refine wpAny_take (i := 2) (v := .int .i64 0) rfl (by kernel_rfl) (by kernel_rfl) (by kernel_rfl) (fun _ _ _ h => h) (Or.inl ⟨by kernel_rfl, by intro w; go_simp⟩) ?_
  refine wpAny_take (i := 3) (v := .bool false) rfl (by kernel_rfl) (by kernel_rfl) (by kernel_rfl) (fun _ _ _ h => h) (Or.inl ⟨by kernel_rfl, by intro w; go_simp⟩) ?_
  refine wpAny_take (i := 4) (v := .bool false) rfl (by kernel_rfl) (by kernel_rfl) (by kernel_rfl) (fun _ _ _ h => h) (Or.inl ⟨by kernel_rfl, by intro w; go_simp⟩) ?_
  refine any_skip 5 (some 28) (by kernel_rfl) (by kernel_rfl) (by kernel_rfl) (by kernel_rfl) (by kernel_rfl) (fun _ _ _ h => h) ?_
  refine any_skip 6 (some 29) (by kernel_rfl) (by kernel_rfl) (by kernel_rfl) (by kernel_rfl) (by kernel_rfl) (fun _ _ _ h => h) ?_
  refine any_skip 7 (some 30) (by kernel_rfl) (by kernel_rfl) (by kernel_rfl) (by kernel_rfl) (by kernel_rfl) (fun _ _ _ h => h) ?_
  refine any_skip 8 (some 31) (by kernel_rfl) (by kernel_rfl) (by kernel_rfl) (by kernel_rfl) (by kernel_rfl) (fun _ _ _ h => h) ?_
  refine any_skip 9 (some 32) (by kernel_rfl) (by kernel_rfl) (by kernel_rfl) (by kernel_rfl) (by kernel_rfl) (fun _ _ _ h => h) ?_
  refine any_skip 10 (some 33) (by kernel_rfl) (by kernel_rfl) (by kernel_rfl) (by kernel_rfl) (by kernel_rfl) (fun _ _ _ h => h) ?_
  refine any_skip 11 (some 34) (by kernel_rfl) (by kernel_rfl) (by kernel_rfl) (by kernel_rfl) (by kernel_rfl) (fun _ _ _ h => h) ?_
  refine wpAny_take (i := 12) (v := .bool false) rfl (by kernel_rfl) (by kernel_rfl) (by kernel_rfl) (fun _ _ _ h => h) (Or.inl ⟨by kernel_rfl, by intro w; go_simp⟩) ?_
  refine wpAny_done (by kernel_rfl) ?_ _
  go_simp
  obtain ⟨BX3, HB3, hs3⟩ := HXW.out w2.drew ((Below.refl _ _).drew)
  go_wp2_with fail
  have hjo : jv (fun _ => 0) (fun _ => R) 1 = vL R 0 := by simp [jv]
  have hjp : ∀ i, i < 1 → (w2.drew.alloc (.cells #[.slice none 0 0] 103)).cell? ⟨w2.drew.heap.size, 0 + i, none⟩ = some (.slice none 0 0) ∧ VersAt (w2.drew.alloc (.cells #[.slice none 0 0] 103)) none 0 R := fun i hi => by
    obtain rfl : i = 0 := by omega
    exact ⟨by simp [go_sem], .inl rfl⟩
  have hj := joinedC_any 1 (fun _ => none) (fun _ => 0) (fun _ => 0) (fun _ => R) w2.drew.heap.size 0 1 _ (fun i hi => by show 0 ≤ 100; omega) (by simp) hjp (by omega)
  rw [hjo, vL_len] at hj
  refine hj.mono ?_
  rintro e w5 ⟨ra, rcc, rfl, hsh, hb5, ho5⟩
  replace ho5 := ho5.congr (S := R) (fun i hi => vL_getD hi)
  have hs5 : w.heap.size < (w2.drew.alloc (.cells #[.slice none 0 0] 103)).heap.size := by rw [World.size_alloc]; omega
  have hb6 := below_then (below_new _ _) hb5
  obtain ⟨q0, q1, qf⟩ := BX3.below hb6
  have HE : Hid (∀ u0 u1 : Value, _) := cres_end (below_then HB3 hb6) hs5 ho5
  have HSH : Hid (ShA ra _ rcc) := hsh
  clear hsh hb5 ho5 hb6 hj hjp hjo hs5
  go_wp2_with fail
  refine bodyPost_ret (v := .agg #[.int .i64 0, .slice ra 0 rcc]) (by simp [results, Tryz.results90, go_sem, *]) rfl ⟨ra, rcc, rfl, HSH.out, (HE.out _ _).1, (HE.out _ _).2⟩
end Go.Proofs.YtnhlcadipkmhhaaGreat
