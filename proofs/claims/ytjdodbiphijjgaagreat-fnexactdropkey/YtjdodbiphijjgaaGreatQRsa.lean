/- Headers: rows and transactions as they lie in a row of their own, what they hold apart. -/
import Derived.Test.YtjdodbiphijjgaaGreatQGg
import Derived.Test.YtjdodbiphijjgaaGreatQVe
import Derived.Test.YtjdodbiphijjgaaGreatQWae
import Derived.Defers
import Derived.Recover
import Derived.WalkLawsBesides
import Derived.Test.YtjdodbiphijjgaaGreatQVg
import Derived.Laws.AppendOwn
import Derived.OwnWalk
import Derived.Test.YtjdodbiphijjgaaGreatQBase
import Derived.Test.YtjdodbiphijjgaaGreatQEe
import Derived.Deep.AppendLies
namespace Go.Proofs.YtjdodbiphijjgaaGreat
open Go.RowKit Go.Deep
set_option linter.unusedVariables false
set_option linter.unusedSimpArgs false
set_option maxRecDepth 20000
open Go.ChangeShapes Go.WideShapes Go.ChangeAt Go.RowKit Go.Deep Go.Joins

/-- The panic of a refusal. -/
def Rf (c : Int) : Ending := .panicked [{ v := .iface 185 (.int .i64 c), recovered := false }]
theorem refuse_any (c : Int) (w : World) : Calls Tryz.prog 119 #[.int .i64 c] w fun e w' => ((c = 0 ∧ e = .returned (.tuple #[])) ∨ (c ≠ 0 ∧ e = Rf c)) ∧ w' = w := by
  by_cases h : c = 0
  · have h1 : (c != 0) = false := by simp [h]
    go_enter Tryz.func119, Tryz.ntmps119
    go_wp2_with fail
    go_end0
    exact ⟨.inl ⟨h, rfl⟩, rfl⟩
  · have h1 : (c != 0) = true := by simp [h]
    go_enter Tryz.func119, Tryz.ntmps119
    go_wp2_with fail
    exact ⟨rfl, .inr ⟨h, rfl⟩, rfl⟩
theorem refD_bad (R : Nat) (c : Int) (w : World) (hf : ∀ i, w.frozen? ⟨R, i, none⟩ = false) {z0 z1 z2 z3 z4 z5 : Value} (h : Box6 w R z0 z1 z2 z3 z4 z5) :
    CallsD Tryz.prog 118 #[.pointer (some ⟨R, 0, none⟩)] (.panicking [{ v := .iface 185 (.int .i64 c), recovered := false }]) w fun e u' w' =>
      e = .returned (.tuple #[]) ∧ u' = .panicking [{ v := .iface 185 (.int .i64 c), recovered := true }] ∧ Writes R (R + 1) w w' ∧ w'.heap.size = w.heap.size ∧ Box6 w' R (.int .i64 c) (.int .i64 0) (.int .i64 0) (.int .i64 0) (.slice none 0 0) (.slice none 0 0) := by
  obtain ⟨h0, h1, h2, h3, h4, h5⟩ := h
  have hta : ∀ u : World, (Instr.typeAssert (.iface 185 (.int .i64 c)) 20 185 false).run Tryz.prog u = .ok (.int .i64 c) u := fun u => by rfl
  refine callsD_of_wpS Tryz.func118 rfl fun c₀ cs hu => ?_
  apply wpS_seq
  apply wpS_region
  simp [wpOpsS, go_sem, recoverD, hu, Tryz.ntmps118, Exit.thenS]
  apply wpS_seq
  apply wpS_region
  simp [wpOpsS, go_sem, Exit.thenS]
  refine wpS_cond (t := true) (by simp [Act.eval, Array.replicate]) ?_
  simp only [if_true]
  apply wpS_region
  simp [wpOpsS, go_sem, hta, hf, h0, h1, h2, h3, h4, h5, bodyPostS, results, Tryz.results118]
  refine ⟨?_, ?_⟩
  · repeat (first | with_reducible exact Writes.refl _ _ _ | with_reducible refine Writes.setCell ?_ (by first | omega | (simp <;> omega)) (by first | omega | (simp <;> omega)) _)
  · refine ⟨?_, ?_, ?_, ?_, ?_, ?_⟩ <;> simp [go_sem, h0, h1, h2, h3, h4, h5]
theorem refD_idle (R : Nat) (w : World) :
    CallsD Tryz.prog 118 #[.pointer (some ⟨R, 0, none⟩)] .returning w fun e u' w' => e = .returned (.tuple #[]) ∧ u' = .returning ∧ w' = w := by
  refine callsD_of_wpS Tryz.func118 rfl fun c₀ cs hu => ?_
  apply wpS_seq
  apply wpS_region
  simp [wpOpsS, go_sem, recoverD, hu, Tryz.ntmps118, Exit.thenS]
  apply wpS_seq
  apply wpS_region
  simp [wpOpsS, go_sem, Exit.thenS]
  refine wpS_cond (t := false) (by simp [Act.eval, Array.replicate]) ?_
  simp only [Bool.false_eq_true, if_false]
  refine wpS_of_wp (wp_skip ?_)
  cases c₀
  simp_all [bodyPostS, results, Tryz.results118]
/-- What takes a write back: of a chain as it is ahead of it. -/
def uoF (n : Nat) (R : Nat → Vr) (id key : Int) : Ud := if fob n R id = true then ⟨key, true, (R 0).g, (R 0).v⟩ else ⟨key, false, false, 0⟩
set_option maxHeartbeats 1000000 in
theorem undoOf_any (n : Nat) (R : Nat → Vr) (a : Option Addr) (cap : Nat) (id key : Int) (w : World) (h : VersAt w a n R) :
    Calls Tryz.prog 181 #[.slice a n cap, .int .i64 id, .int .i64 key] w fun e w' => e = .returned (.agg #[.int .i64 (uoF n R id key).k, .bool (uoF n R id key).h, .bool (uoF n R id key).g, .int .i64 (uoF n R id key).v]) ∧ Below w.heap.size w w' := by
  have HA : Hid (VersAt w a n R) := h
  have HB0 : Hid (Below w.heap.size w (w.alloc (.cells #[.int .i64 0, .bool false, .bool false, .int .i64 0] 176))) := below_new _ _
  have HU : Hid (uoF n R id key = if fob n R id = true then ⟨key, true, (R 0).g, (R 0).v⟩ else ⟨key, false, false, 0⟩) := rfl
  have hmo : Tryz.prog.follows .mixedOrders = true := by kernel_rfl
  clear h
  generalize uoF n R id key = uo at *
  go_enter Tryz.func181, Tryz.ntmps181
  go_wp2_with fail
  refine (firstIsOpenBy_any n R a cap id _ (HA.out.below HB0.out)).mono ?_
  rintro e w1 ⟨rfl, hb1⟩
  have z : ∀ i v, (w.alloc (.cells #[.int .i64 0, .bool false, .bool false, .int .i64 0] 176)).cell? ⟨w.heap.size, i, none⟩ = some v → w1.cell? ⟨w.heap.size, i, none⟩ = some v := fun i v hv => cell_below hv hb1
  have z0 := z 0 (.int .i64 0) (by simp)
  have z1 := z 1 (.bool false) (by simp)
  have z2 := z 2 (.bool false) (by simp)
  have z3 := z 3 (.int .i64 0) (by simp)
  have zf : ∀ i, w1.frozen? ⟨w.heap.size, i, none⟩ = false := fun i => ((bcell2 hb1).2 _ _ (by simp)).trans (by simp [go_sem])
  have HB1 : Hid (Below w.heap.size w w1) := below_then HB0.out hb1
  clear z hb1 HB0
  cases hf : fob n R id with
  | false =>
    have HE : Hid (uo = ⟨key, false, false, 0⟩) := by rw [Hid, HU.out, hf]; rfl
    clear HU hf
    go_wp2_with fail
    refine bodyPost_ret (v := .agg #[.int .i64 key, .bool false, .bool false, .int .i64 0]) (by simp [results, Tryz.results181, go_sem, z0, z1, z2, z3]) rfl ?_
    refine ⟨by rw [HE.out], ?_⟩
    repeat (first | with_reducible exact HB1.out | with_reducible refine Below.setCell ?_ (by first | omega | (simp <;> omega)) _)
  | true =>
    have HE : Hid (uo = ⟨key, true, (R 0).g, (R 0).v⟩) := by rw [Hid, HU.out, hf]; rfl
    have hn : 0 < n := by simp only [fob, Bool.and_eq_true, decide_eq_true_eq] at hf; exact hf.1
    have hn1 : (0 : Int) < (n : Int) := by omega
    rcases HA.out with h9 | ⟨b, off, rfl, hbl, hc⟩
    · omega
    obtain ⟨c0, c1, c2, c3⟩ := hc 0 hn
    simp only [Nat.zero_mul, Nat.add_zero] at c0 c1 c2 c3
    replace c2 := cell_below c2 HB1.out
    replace c3 := cell_below c3 HB1.out
    have hbw : b ≠ w.heap.size := by omega
    clear HU hf hc c0 c1
    generalize (R 0).g = vg at *
    generalize (R 0).v = vv at *
    go_wp2_with fail
    go_region
    all_goals go_wp2_with fail
    all_goals refine bodyPost_ret (v := .agg #[.int .i64 key, .bool true, .bool vg, .int .i64 vv]) (by simp [results, Tryz.results181, go_sem, z0, z1, z2, z3]) rfl ?_
    all_goals refine ⟨by rw [HE.out], ?_⟩
    all_goals repeat (first | with_reducible exact HB1.out | apply Below.drew | with_reducible refine Below.setCell ?_ (by first | omega | (simp <;> omega)) _)
/-- The chain of a key in an engine. -/
def ckN (E : En) (key : Int) : Nat := if 0 ≤ fR E.q E.R key then (E.R (fR E.q E.R key).toNat).n else 0
def ckU (E : En) (key : Int) : Nat → Vr := if 0 ≤ fR E.q E.R key then (E.R (fR E.q E.R key).toNat).U else fun _ => zV
/-- A box of two cells that may be written. -/
def BoxR (w : World) (B : Nat) (c0 c1 : Value) : Prop := w.cell? ⟨B, 0, none⟩ = some c0 ∧ w.cell? ⟨B, 1, none⟩ = some c1 ∧ ∀ i, w.frozen? ⟨B, i, none⟩ = false
theorem BoxR.below {w w' : World} {B : Nat} {c0 c1 : Value} (h : BoxR w B c0 c1) (hb : Below w.heap.size w w') : BoxR w' B c0 c1 :=
  ⟨cell_below h.1 hb, cell_below h.2.1 hb, fun i => (hb.frozen (p := ⟨B, i, none⟩) (show B < w.heap.size from Go.block_lt_of_cell h.1)).trans (h.2.2 i)⟩
theorem BoxR.new (w : World) (c0 c1 : Value) (T : TypeId) : BoxR (w.alloc (.cells #[c0, c1] T)) w.heap.size c0 c1 := by simp [BoxR, go_sem]
theorem wrt_open {n : Nat} {R : Nat → Vr} (hc : chF n R = 0) (h : fop n R = true) : 0 < n ∧ wrt n R = (R 0).t ∧ ¬ (R 0).t = 0 := by
  have ⟨h1, h2⟩ : 0 < n ∧ (R 0).a = 0 := by simpa [fop] using h
  have hg := ((chF_good hc).2 0 h1).1
  have ht : inB (R 0).t 1 999 = true := by
    simp only [vR, Bool.and_eq_true] at hg
    exact hg.1.1
  rw [inB_iff] at ht
  exact ⟨h1, if_pos ⟨h1, h2⟩, by omega⟩
theorem wrt_shut {n : Nat} {R : Nat → Vr} (h : fop n R = false) : wrt n R = 0 := by
  have : ¬ (0 < n ∧ (R 0).a = 0) := by
    intro ⟨h1, h2⟩
    simp [fop, h1, h2] at h
  exact if_neg this
/-- Versions as cells. -/
def v4 (r : Vr) : List Value := [.int .i64 r.t, .int .i64 r.a, .bool r.g, .int .i64 r.v]
def vb : List Vr → List Value
  | [] => []
  | r :: rs => v4 r ++ vb rs
theorem vb_len : ∀ xs, (vb xs).length = xs.length * 4
  | [] => rfl
  | r :: rs => by simp only [vb, List.length_append, vb_len rs, v4, List.length_cons, List.length_nil]; omega
theorem vb_app : ∀ xs ys, vb (xs ++ ys) = vb xs ++ vb ys
  | [], ys => rfl
  | r :: rs, ys => by simp only [vb, List.cons_append, vb_app rs ys, List.append_assoc]
theorem vb_get : ∀ (xs : List Vr) (i j : Nat) (r : Vr), xs[i]? = some r → j < 4 → (vb xs)[i * 4 + j]? = (v4 r)[j]?
  | [], i, j, r, h, _ => by simp at h
  | x :: xs, 0, j, r, h, hj => by
    simp only [List.getElem?_cons_zero, Option.some.injEq] at h
    subst h
    simp only [vb]
    rw [List.getElem?_append_left (by simp [v4]; omega)]
    congr 1; omega
  | x :: xs, i + 1, j, r, h, hj => by
    simp only [List.getElem?_cons_succ] at h
    simp only [vb]
    rw [List.getElem?_append_right (by simp [v4]; omega)]
    have := vb_get xs i j r h hj
    rw [← this]
    congr 1
    simp [v4]; omega
theorem vb_one : ∀ xs, ∀ u ∈ vb xs, u.oneCell' = true
  | [], u, h => by simp [vb] at h
  | r :: rs, u, h => by
    simp only [vb, List.mem_append] at h
    rcases h with h | h
    · simp [v4] at h
      rcases h with rfl | rfl | rfl | rfl <;> rfl
    · exact vb_one rs u h
/-- The first n of R, as a list. -/
def vL (R : Nat → Vr) (n : Nat) : List Vr := (List.range n).map R
theorem vL_len (R : Nat → Vr) (n : Nat) : (vL R n).length = n := by simp [vL]
theorem vL_get {R : Nat → Vr} {n i : Nat} (h : i < n) : (vL R n)[i]? = some (R i) := by simp [vL, h]
theorem own4_of_row {w : World} {base n : Nat} {a : Option Addr} {cap : Nat} {xs : List Vr} (hl : xs.length = n) (h : w.ownsRow base 179 4 (.slice a n cap) n (vb xs)) : Own4 w base w.heap.size a n (fun i => xs.getD i zV) := by
  rcases h.2 with ⟨e, h0⟩ | ⟨g, cap', cur, e, hbg, hg, _⟩
  · exact ⟨Nat.le_refl _, .inl h0⟩
  · simp only [Value.slice.injEq, true_and] at e
    obtain ⟨rfl, rfl⟩ := e
    have hlt : g < w.heap.size := by
      obtain ⟨hlt, _⟩ := Array.getElem?_eq_some_iff.1 hg
      exact hlt
    refine ⟨Nat.le_refl _, .inr ⟨g, 0, rfl, hbg, hlt, fun i hi => ?_, fun i => h.frozenAt _⟩⟩
    obtain ⟨r, hr⟩ : ∃ r, xs[i]? = some r := ⟨xs[i]'(by omega), by simp [hl, hi]⟩
    have er : xs.getD i zV = r := by rw [List.getD_eq_getElem?_getD, hr]; rfl
    show C4 w g (0 + i * 4) (xs.getD i zV)
    rw [er]
    have c : ∀ j v, j < 4 → (v4 r)[j]? = some v → w.cell? ⟨g, 0 + i * 4 + j, none⟩ = some v := fun j v hj hv => by
      rw [h.cellAt (0 + i * 4 + j) (by omega), show 0 + i * 4 + j = i * 4 + j by omega, vb_get xs i j r hr hj, hv]
    exact ⟨c 0 _ (by omega) rfl, c 1 _ (by omega) rfl, c 2 _ (by omega) rfl, c 3 _ (by omega) rfl⟩
theorem row_slice {w : World} {base n : Nat} {v : Value} {xs : List Value} (h : w.ownsRow base 179 4 v n xs) : ∃ a cap, v = .slice a n cap ∧ n ≤ cap := by
  rcases h.2 with ⟨rfl, h0⟩ | ⟨g, cap, cur, rfl, _, _, h9, _⟩
  · exact ⟨none, 0, by rw [h0], by omega⟩
  · exact ⟨_, cap, rfl, by omega⟩
theorem run_app_zeroV (w : World) (ty : TypeId) (ba : Option Addr) (n c : Nat) (xa : Option Addr) (xc : Nat) (h : n ≤ c) :
    (Builtin.append_ #[155, 155] ty #[.slice ba n c, .slice xa 0 xc]).run Tryz.prog w = .ok (.slice ba n c) w := by
  cases ba <;> cases xa <;> simp [Builtin.append_, go_sem, h, Builtin.firstCells, storeCells]
theorem grown_refl (w : World) (r : Option Nat) : w.grownBy w r := ⟨rfl, rfl, rfl, Nat.le_refl _, fun _ _ _ => rfl⟩
theorem wp_appV {o : Oper} {a : Act} {K : Act → World → Prop} {Q : Exit → Act → World → Prop} (w : World) (s x : Operand)
    (ho : o.op = .call { callee := .builtin .append, args := #[s, x], argTypes := #[155, 155] })
    (base : Nat) (v : Value) (xs : List Vr) (hs : a.eval s = v) (hown : w.ownsRow base 179 4 v xs.length (vb xs))
    (xa : Option Addr) (m c : Nat) (R : Nat → Vr) (hx : a.eval x = .slice xa m c) (hb : VersAt w xa m R) (h63 : xs.length + m ≤ 100000) (hbase : base ≤ w.heap.size)
    (h : ∀ v' w', w'.ownsRow base 179 4 v' (xs ++ vL R m).length (vb (xs ++ vL R m)) → w.grownBy w' v.ownBlock → K (a.put o.dst v') w') : o.wp Tryz.prog a w K Q := by
  by_cases hm : m = 0
  · subst hm
    obtain ⟨ba, cap, rfl, hcap⟩ := row_slice hown
    have hr := run_app_zeroV w o.type ba xs.length cap xa c hcap
    unfold Oper.wp execOp
    simp only [ho, resolve, invoke, builtin, Sem.run_bind, Sem.run_pure, Result.andThen_ok, List.map_toArray, List.map_cons, List.map_nil, hs, hx, hr]
    refine h _ w ?_ (grown_refl _ _)
    have e : xs ++ vL R 0 = xs := by simp [vL]
    rw [e]
    exact hown
  · rcases hb with hb | ⟨b, off, rfl, hbl, hc⟩
    · exact absurd hb hm
    · obtain ⟨i0, hi, hz0, hz1, hz2⟩ := info_parts infoV
      refine wp_append_own w s x 155 ho base 179 i0 _ 4 32 Tryz.underlying155 hi hz0 hz1 hz2 rfl (by decide) v xs.length (vb xs) hs hown ⟨b, off, none⟩ m c (vb (vL R m)) hx (by rw [vb_len, vL_len]) (fun j u hj => ?_) (vb_one _) (by unfold maxLen; omega) (by omega) hbase fun v' w' h2 h3 _ => h v' w' ?_ h3
      · have hjl : j < m * 4 := by
          have := (List.getElem?_eq_some_iff.1 hj).1
          rwa [vb_len, vL_len] at this
        have hg := vb_get (vL R m) (j / 4) (j % 4) (R (j / 4)) (vL_get (by omega)) (by omega)
        rw [show j / 4 * 4 + j % 4 = j by omega, hj] at hg
        rw [WideShapes.add_plain]
        obtain ⟨c0, c1, c2, c3⟩ := hc (j / 4) (by omega)
        have hd : j % 4 = 0 ∨ j % 4 = 1 ∨ j % 4 = 2 ∨ j % 4 = 3 := by omega
        rcases hd with e | e | e | e
        · rw [e] at hg; rw [show off + j = off + j / 4 * 4 by omega, c0, hg]; rfl
        · rw [e] at hg; rw [show off + j = off + j / 4 * 4 + 1 by omega, c1, hg]; rfl
        · rw [e] at hg; rw [show off + j = off + j / 4 * 4 + 2 by omega, c2, hg]; rfl
        · rw [e] at hg; rw [show off + j = off + j / 4 * 4 + 3 by omega, c3, hg]; rfl
      · rw [List.length_append, vL_len, vb_app]
        exact h2
theorem wpList_appV {ops : Array Oper} {rest : List Oper} {o : Oper} {a : Act} {Q : Exit → Act → World → Prop} (w : World) (hgd : o.guard = none) (s x : Operand)
    (ho : o.op = .call { callee := .builtin .append, args := #[s, x], argTypes := #[155, 155] })
    (base : Nat) (v : Value) (xs : List Vr) (hs : a.eval s = v) (hown : w.ownsRow base 179 4 v xs.length (vb xs))
    (xa : Option Addr) (m c : Nat) (R : Nat → Vr) (hx : a.eval x = .slice xa m c) (hb : VersAt w xa m R) (h63 : xs.length + m ≤ 100000) (hbase : base ≤ w.heap.size)
    (h : ∀ v' w', w'.ownsRow base 179 4 v' (xs ++ vL R m).length (vb (xs ++ vL R m)) → w.grownBy w' v.ownBlock → wpList Tryz.prog ops Q rest (a.put o.dst v') w') : wpList Tryz.prog ops Q (o :: rest) a w :=
  wpList_plain hgd fun _ hK => wp_appV w s x ho base v xs hs hown xa m c R hx hb h63 hbase fun v' w' h2 h3 => hK _ _ (h v' w' h2 h3)
/-- Pieces joined, the first k of them. -/
def jv (N : Nat → Nat) (Z : Nat → Nat → Vr) : Nat → List Vr
  | 0 => []
  | k + 1 => jv N Z k ++ vL (Z k) (N k)
theorem jv_len (N : Nat → Nat) (Z : Nat → Nat → Vr) : ∀ k, (∀ i, i < k → N i ≤ 100) → (jv N Z k).length ≤ k * 100
  | 0, _ => by simp [jv]
  | k + 1, h => by
    have h1 := jv_len N Z k (fun i hi => h i (by omega))
    have h2 := h k (by omega)
    simp only [jv, List.length_append, vL_len]; omega
/-- Undos as cells. -/
def u4 (r : Ud) : List Value := [.int .i64 r.k, .bool r.h, .bool r.g, .int .i64 r.v]
def ub : List Ud → List Value
  | [] => []
  | r :: rs => u4 r ++ ub rs
theorem ub_len : ∀ xs, (ub xs).length = xs.length * 4
  | [] => rfl
  | r :: rs => by simp only [ub, List.length_append, ub_len rs, u4, List.length_cons, List.length_nil]; omega
theorem ub_app : ∀ xs ys, ub (xs ++ ys) = ub xs ++ ub ys
  | [], ys => rfl
  | r :: rs, ys => by simp only [ub, List.cons_append, ub_app rs ys, List.append_assoc]
theorem ub_get : ∀ (xs : List Ud) (i j : Nat) (r : Ud), xs[i]? = some r → j < 4 → (ub xs)[i * 4 + j]? = (u4 r)[j]?
  | [], i, j, r, h, _ => by simp at h
  | x :: xs, 0, j, r, h, hj => by
    simp only [List.getElem?_cons_zero, Option.some.injEq] at h
    subst h
    simp only [ub]
    rw [List.getElem?_append_left (by simp [u4]; omega)]
    congr 1; omega
  | x :: xs, i + 1, j, r, h, hj => by
    simp only [List.getElem?_cons_succ] at h
    simp only [ub]
    rw [List.getElem?_append_right (by simp [u4]; omega)]
    have := ub_get xs i j r h hj
    rw [← this]
    congr 1
    simp [u4]; omega
theorem ub_one : ∀ xs, ∀ u ∈ ub xs, u.oneCell' = true
  | [], u, h => by simp [ub] at h
  | r :: rs, u, h => by
    simp only [ub, List.mem_append] at h
    rcases h with h | h
    · simp [u4] at h
      rcases h with rfl | rfl | rfl | rfl <;> rfl
    · exact ub_one rs u h
/-- The first n of R, as a list. -/
def uL (R : Nat → Ud) (n : Nat) : List Ud := (List.range n).map R
theorem uL_len (R : Nat → Ud) (n : Nat) : (uL R n).length = n := by simp [uL]
theorem uL_get {R : Nat → Ud} {n i : Nat} (h : i < n) : (uL R n)[i]? = some (R i) := by simp [uL, h]
theorem ownU_of_row {w : World} {base n : Nat} {a : Option Addr} {cap : Nat} {xs : List Ud} (hl : xs.length = n) (h : w.ownsRow base 176 4 (.slice a n cap) n (ub xs)) : OwnU w base w.heap.size a n (fun i => xs.getD i zU) := by
  rcases h.2 with ⟨e, h0⟩ | ⟨g, cap', cur, e, hbg, hg, _⟩
  · exact ⟨Nat.le_refl _, .inl h0⟩
  · simp only [Value.slice.injEq, true_and] at e
    obtain ⟨rfl, rfl⟩ := e
    have hlt : g < w.heap.size := by
      obtain ⟨hlt, _⟩ := Array.getElem?_eq_some_iff.1 hg
      exact hlt
    refine ⟨Nat.le_refl _, .inr ⟨g, 0, rfl, hbg, hlt, fun i hi => ?_, fun i => h.frozenAt _⟩⟩
    obtain ⟨r, hr⟩ : ∃ r, xs[i]? = some r := ⟨xs[i]'(by omega), by simp [hl, hi]⟩
    have er : xs.getD i zU = r := by rw [List.getD_eq_getElem?_getD, hr]; rfl
    show CU w g (0 + i * 4) (xs.getD i zU)
    rw [er]
    have c : ∀ j v, j < 4 → (u4 r)[j]? = some v → w.cell? ⟨g, 0 + i * 4 + j, none⟩ = some v := fun j v hj hv => by
      rw [h.cellAt (0 + i * 4 + j) (by omega), show 0 + i * 4 + j = i * 4 + j by omega, ub_get xs i j r hr hj, hv]
    exact ⟨c 0 _ (by omega) rfl, c 1 _ (by omega) rfl, c 2 _ (by omega) rfl, c 3 _ (by omega) rfl⟩
theorem row_sliceU {w : World} {base n : Nat} {v : Value} {xs : List Value} (h : w.ownsRow base 176 4 v n xs) : ∃ a cap, v = .slice a n cap ∧ n ≤ cap := by
  rcases h.2 with ⟨rfl, h0⟩ | ⟨g, cap, cur, rfl, _, _, h9, _⟩
  · exact ⟨none, 0, by rw [h0], by omega⟩
  · exact ⟨_, cap, rfl, by omega⟩
theorem run_app_zeroU (w : World) (ty : TypeId) (ba : Option Addr) (n c : Nat) (xa : Option Addr) (xc : Nat) (h : n ≤ c) :
    (Builtin.append_ #[125, 125] ty #[.slice ba n c, .slice xa 0 xc]).run Tryz.prog w = .ok (.slice ba n c) w := by
  cases ba <;> cases xa <;> simp [Builtin.append_, go_sem, h, Builtin.firstCells, storeCells]
theorem wp_appU {o : Oper} {a : Act} {K : Act → World → Prop} {Q : Exit → Act → World → Prop} (w : World) (s x : Operand)
    (ho : o.op = .call { callee := .builtin .append, args := #[s, x], argTypes := #[125, 125] })
    (base : Nat) (v : Value) (xs : List Ud) (hs : a.eval s = v) (hown : w.ownsRow base 176 4 v xs.length (ub xs))
    (xa : Option Addr) (m c : Nat) (R : Nat → Ud) (hx : a.eval x = .slice xa m c) (hb : UndsAt w xa m R) (h63 : xs.length + m ≤ 100000) (hbase : base ≤ w.heap.size)
    (h : ∀ v' w', w'.ownsRow base 176 4 v' (xs ++ uL R m).length (ub (xs ++ uL R m)) → w.grownBy w' v.ownBlock → K (a.put o.dst v') w') : o.wp Tryz.prog a w K Q := by
  by_cases hm : m = 0
  · subst hm
    obtain ⟨ba, cap, rfl, hcap⟩ := row_sliceU hown
    have hr := run_app_zeroU w o.type ba xs.length cap xa c hcap
    unfold Oper.wp execOp
    simp only [ho, resolve, invoke, builtin, Sem.run_bind, Sem.run_pure, Result.andThen_ok, List.map_toArray, List.map_cons, List.map_nil, hs, hx, hr]
    refine h _ w ?_ (grown_refl _ _)
    have e : xs ++ uL R 0 = xs := by simp [uL]
    rw [e]
    exact hown
  · rcases hb with hb | ⟨b, off, rfl, hbl, hc⟩
    · exact absurd hb hm
    · obtain ⟨i0, hi, hz0, hz1, hz2⟩ := info_parts infoU
      refine wp_append_own w s x 125 ho base 176 i0 _ 4 24 Tryz.underlying125 hi hz0 hz1 hz2 rfl (by decide) v xs.length (ub xs) hs hown ⟨b, off, none⟩ m c (ub (uL R m)) hx (by rw [ub_len, uL_len]) (fun j u hj => ?_) (ub_one _) (by unfold maxLen; omega) (by omega) hbase fun v' w' h2 h3 _ => h v' w' ?_ h3
      · have hjl : j < m * 4 := by
          have := (List.getElem?_eq_some_iff.1 hj).1
          rwa [ub_len, uL_len] at this
        have hg := ub_get (uL R m) (j / 4) (j % 4) (R (j / 4)) (uL_get (by omega)) (by omega)
        rw [show j / 4 * 4 + j % 4 = j by omega, hj] at hg
        rw [WideShapes.add_plain]
        obtain ⟨c0, c1, c2, c3⟩ := hc (j / 4) (by omega)
        have hd : j % 4 = 0 ∨ j % 4 = 1 ∨ j % 4 = 2 ∨ j % 4 = 3 := by omega
        rcases hd with e | e | e | e
        · rw [e] at hg; rw [show off + j = off + j / 4 * 4 by omega, c0, hg]; rfl
        · rw [e] at hg; rw [show off + j = off + j / 4 * 4 + 1 by omega, c1, hg]; rfl
        · rw [e] at hg; rw [show off + j = off + j / 4 * 4 + 2 by omega, c2, hg]; rfl
        · rw [e] at hg; rw [show off + j = off + j / 4 * 4 + 3 by omega, c3, hg]; rfl
      · rw [List.length_append, uL_len, ub_app]
        exact h2
theorem wpList_appU {ops : Array Oper} {rest : List Oper} {o : Oper} {a : Act} {Q : Exit → Act → World → Prop} (w : World) (hgd : o.guard = none) (s x : Operand)
    (ho : o.op = .call { callee := .builtin .append, args := #[s, x], argTypes := #[125, 125] })
    (base : Nat) (v : Value) (xs : List Ud) (hs : a.eval s = v) (hown : w.ownsRow base 176 4 v xs.length (ub xs))
    (xa : Option Addr) (m c : Nat) (R : Nat → Ud) (hx : a.eval x = .slice xa m c) (hb : UndsAt w xa m R) (h63 : xs.length + m ≤ 100000) (hbase : base ≤ w.heap.size)
    (h : ∀ v' w', w'.ownsRow base 176 4 v' (xs ++ uL R m).length (ub (xs ++ uL R m)) → w.grownBy w' v.ownBlock → wpList Tryz.prog ops Q rest (a.put o.dst v') w') : wpList Tryz.prog ops Q (o :: rest) a w :=
  wpList_plain hgd fun _ hK => wp_appU w s x ho base v xs hs hown xa m c R hx hb h63 hbase fun v' w' h2 h3 => hK _ _ (h v' w' h2 h3)
/-- Undos of one's own, with all the room that the slice has. -/
def OwnUC (w : World) (lo hi : Nat) (a : Option Addr) (c n : Nat) (U : Nat → Ud) : Prop :=
  hi ≤ w.heap.size ∧ w.ownsRow lo 176 4 (.slice a n c) n (ub (uL U n)) ∧ ∀ q, (Value.slice a n c).ownBlock = some q → q < hi
theorem uL_congr {R S : Nat → Ud} {n : Nat} (e : ∀ i, i < n → R i = S i) : uL R n = uL S n :=
  List.map_congr_left fun i hi => e i (List.mem_range.1 hi)
theorem uL_self {xs : List Ud} {n : Nat} (h : xs.length = n) : uL (fun i => xs.getD i zU) n = xs := by
  subst h
  refine List.ext_getElem (uL_len _ _) fun i h1 h2 => ?_
  simp [uL, List.getD_eq_getElem?_getD, List.getElem?_eq_getElem h2]
theorem OwnUC.toU {w : World} {lo hi c n : Nat} {a : Option Addr} {U : Nat → Ud} (h : OwnUC w lo hi a c n U) : OwnU w lo hi a n U := by
  obtain ⟨h0, h1, h2⟩ := h
  have hz : ∀ i, i < n → (uL U n).getD i zU = U i := fun i hi => by rw [List.getD_eq_getElem?_getD, uL_get hi]; rfl
  obtain ⟨-, h9 | ⟨b, off, e, k1, k2, k3⟩⟩ := (ownU_of_row (uL_len U n) h1).congr hz
  · exact ⟨h0, .inl h9⟩
  · exact ⟨h0, .inr ⟨b, off, e, k1, h2 b (by rw [e]; rfl), k3⟩⟩
theorem OwnUC.congr {w : World} {lo hi c n : Nat} {a : Option Addr} {R S : Nat → Ud} (h : OwnUC w lo hi a c n R) (e : ∀ i, i < n → R i = S i) : OwnUC w lo hi a c n S := by
  unfold OwnUC
  rw [← uL_congr e]
  exact h
theorem OwnUC.keep {w w' : World} {lo hi c n : Nat} {a : Option Addr} {U : Nat → Ud} (h : OwnUC w lo hi a c n U) (hs : w.heap.size ≤ w'.heap.size) (hb : ∀ q, (Value.slice a n c).ownBlock = some q → w'.heap[q]? = w.heap[q]?) : OwnUC w' lo hi a c n U := by
  obtain ⟨h0, ⟨h1, h3⟩, h2⟩ := h
  refine ⟨Nat.le_trans h0 hs, ⟨h1, ?_⟩, h2⟩
  rcases h3 with h3 | ⟨g, cap, cur, e, k1, k2, k3⟩
  · exact .inl h3
  · exact .inr ⟨g, cap, cur, e, k1, (hb g (by rw [e]; rfl)).trans k2, k3⟩
theorem OwnUC.writes {w w' : World} {lo hi lo' hi' c n : Nat} {a : Option Addr} {U : Nat → Ud} (h : OwnUC w lo hi a c n U) (hw : Writes lo' hi' w w') (hd : hi ≤ lo' ∨ hi' ≤ lo) : OwnUC w' lo hi a c n U :=
  h.keep hw.size fun q hq => hw.block q (by have := h.2.2 q hq; have := h.1; omega) (by have h1 := h.2.2 q hq; have h2 := (h.2.1.lt q hq).1; omega)
theorem OwnUC.below {w w' : World} {lo hi c n : Nat} {a : Option Addr} {U : Nat → Ud} (h : OwnUC w lo hi a c n U) (hb : Below w.heap.size w w') : OwnUC w' lo hi a c n U :=
  h.writes (Writes.of_below (lo := hi) (hi := hi) hb) (.inl (Nat.le_refl _))
theorem OwnUC.wide {w : World} {lo hi lo' hi' c n : Nat} {a : Option Addr} {U : Nat → Ud} (h : OwnUC w lo hi a c n U) (h1 : lo' ≤ lo) (h2 : hi ≤ hi') (h3 : hi' ≤ w.heap.size) : OwnUC w lo' hi' a c n U := by
  obtain ⟨k0, ⟨k1, k3⟩, k2⟩ := h
  refine ⟨h3, ⟨k1, ?_⟩, fun q hq => Nat.lt_of_lt_of_le (k2 q hq) h2⟩
  rcases k3 with k3 | ⟨g, cap, cur, e, m1, m2⟩
  · exact .inl k3
  · exact .inr ⟨g, cap, cur, e, Nat.le_trans h1 m1, m2⟩
theorem ownUC_of_row {w : World} {base n : Nat} {a : Option Addr} {cap : Nat} {xs : List Ud} (hl : xs.length = n) (h : w.ownsRow base 176 4 (.slice a n cap) n (ub xs)) : OwnUC w base w.heap.size a cap n (fun i => xs.getD i zU) :=
  ⟨Nat.le_refl _, by rw [uL_self hl]; exact h, fun q hq => (h.lt q hq).2⟩
/-- An answer that is versions, of the call's own. -/
def UAns (m : Nat) (S : Nat → Ud) (w : World) (e : Ending) (w' : World) : Prop := ∃ a cap, e = .returned (.slice a m cap) ∧ Below w.heap.size w w' ∧ OwnUC w' w.heap.size w'.heap.size a cap m S ∧ m ≤ cap
theorem UAns.of {w w' : World} {v : Value} {xs : List Ud} {base : Nat} (hb : Below w.heap.size w w') (hl : w.heap.size ≤ base) (h : w'.ownsRow base 176 4 v xs.length (ub xs)) : UAns xs.length (fun i => xs.getD i zU) w (.returned v) w' := by
  obtain ⟨a, cap, rfl, hcap⟩ := row_sliceU h
  exact ⟨a, cap, rfl, hb, (ownUC_of_row rfl h).wide hl (Nat.le_refl _) (Nat.le_refl _), hcap⟩
theorem uL_getD {R : Nat → Ud} {n i : Nat} (h : i < n) : (uL R n).getD i zU = R i := by rw [List.getD_eq_getElem?_getD, uL_get h]; rfl
/-- Pieces joined, the first k of them. -/
def ju (N : Nat → Nat) (Z : Nat → Nat → Ud) : Nat → List Ud
  | 0 => []
  | k + 1 => ju N Z k ++ uL (Z k) (N k)
theorem ju_len (N : Nat → Nat) (Z : Nat → Nat → Ud) : ∀ k, (∀ i, i < k → N i ≤ 100) → (ju N Z k).length ≤ k * 100
  | 0, _ => by simp [ju]
  | k + 1, h => by
    have h1 := ju_len N Z k (fun i hi => h i (by omega))
    have h2 := h k (by omega)
    simp only [ju, List.length_append, uL_len]; omega
set_option maxHeartbeats 2000000 in
theorem joinedU_any (m : Nat) (A : Nat → Option Addr) (N C : Nat → Nat) (Z : Nat → Nat → Ud) (pb po pc : Nat) (w : World) (hs : ∀ i, i < m → N i ≤ 100) (hpb : pb < w.heap.size)
    (hp : ∀ i, i < m → w.cell? ⟨pb, po + i, none⟩ = some (.slice (A i) (N i) (C i)) ∧ UndsAt w (A i) (N i) (Z i)) (hm : m ≤ 3) :
    Calls Tryz.prog 156 #[.slice (some ⟨pb, po, none⟩) m pc] w (UAns (ju N Z m).length (fun i => (ju N Z m).getD i zU) w) := by
  have HP : Hid (∀ i, i < m → w.cell? ⟨pb, po + i, none⟩ = some (.slice (A i) (N i) (C i)) ∧ UndsAt w (A i) (N i) (Z i)) := hp
  clear hp
  go_enter Tryz.func156, Tryz.ntmps156
  go_wp2_with fail
  go_loopw [3, 5, 8] (fun v _ i wr => ∃ k : Nat, k ≤ m ∧ i = .int .i64 k ∧ Hid (Below w.heap.size w wr) ∧ Hid (wr.ownsRow w.heap.size 176 4 v (ju N Z k).length (ub (ju N Z k)))) (fun _ _ i _ => m - (intOf i).toNat)
  case atStart => exact ⟨0, by omega, rfl, Below.refl _ _, World.ownsRow_nil _ _ _ _⟩
  case round =>
    obtain ⟨k, hk, rfl, HB, HO⟩ := hrel
    by_cases hlt : k < m
    · have hlt' : (k : Int) < (m : Int) := by omega
      have hk1 : (0 : Int) ≤ (k : Int) := by omega
      have hc := cell_below (HP.out k hlt).1 HB.out
      have HBA : Hid (UndsAt wr (A k) (N k) (Z k)) := (HP.out k hlt).2.below HB.out
      have HLE : Hid ((ju N Z k).length + N k ≤ 100000) := by
        have h1 := ju_len N Z k (fun i hi => hs i (by omega))
        have h2 := hs k hlt
        show (ju N Z k).length + N k ≤ 100000
        omega
      go_wp2_with (at_builtin; refine wpList_appU _ rfl (.tmp 12) (.tmp 13) rfl w.heap.size _ (ju N Z k) rfl HO.out (A k) (N k) (C k) (Z k) rfl HBA.out HLE.out HB.out.size ?_)
      intro v1 w1 ho1 hg1
      have HO1 : Hid (w1.ownsRow w.heap.size 176 4 v1 (ju N Z (k + 1)).length (ub (ju N Z (k + 1)))) := by
        show w1.ownsRow w.heap.size 176 4 v1 (ju N Z k ++ uL (Z k) (N k)).length (ub (ju N Z k ++ uL (Z k) (N k)))
        rw [List.length_append]
        exact ho1
      have HB1 : Hid (Below w.heap.size w w1) := HB.out.grown hg1 HB.out.size (fun q hq => (HO.out.lt q hq).1)
      clear ho1 hg1
      go_wp2_with fail
      go_roundw
      case rel => exact ⟨k + 1, hlt, by go_num, HB1, HO1⟩
      case measure => simp [intOf]; omega
    · have hkn : k = m := by omega
      subst hkn
      have HF := UAns.of HB.out (Nat.le_refl _) HO.out
      go_wp2_with fail
      go_ret
      exact HF
/-- One piece joined is a copy. -/
theorem joined1U_any (n : Nat) (R : Nat → Ud) (a : Option Addr) (cap : Nat) (pb : Nat) (w : World) (hn : n ≤ 100) (hc : w.cell? ⟨pb, 0, none⟩ = some (.slice a n cap)) (h : UndsAt w a n R) :
    Calls Tryz.prog 156 #[.slice (some ⟨pb, 0, none⟩) 1 1] w (UAns n R w) := by
  have hp : ∀ i, i < 1 → w.cell? ⟨pb, 0 + i, none⟩ = some (.slice a n cap) ∧ UndsAt w a n R := by
    intro i hi
    have e : i = 0 := by omega
    subst e
    exact ⟨hc, h⟩
  refine (joinedU_any 1 (fun _ => a) (fun _ => n) (fun _ => cap) (fun _ => R) pb 0 1 w (fun i hi => hn) (Go.block_lt_of_cell hc) hp (by omega)).mono ?_
  rintro e w' ⟨a', cap', he, hb, ho, hcap⟩
  have el : (ju (fun _ => n) (fun _ => R) 1).length = n := by simp [ju, uL_len]
  rw [el] at he ho hcap
  refine ⟨a', cap', he, hb, ho.congr (fun i hi => ?_), hcap⟩
  simp only [ju, List.nil_append]
  exact uL_getD hi
theorem ownsRow_of {w w' : World} {base n s : Nat} {e : TypeId} {v : Value} {xs : List Value} (h : w.ownsRow base e s v n xs) (hb : ∀ q, v.ownBlock = some q → w'.heap[q]? = w.heap[q]?) : w'.ownsRow base e s v n xs := by
  obtain ⟨h1, h2 | ⟨g, cap, cur, rfl, k1, k2, k3⟩⟩ := h
  · exact ⟨h1, .inl h2⟩
  · exact ⟨h1, .inr ⟨g, cap, cur, rfl, k1, (hb g rfl).trans k2, k3⟩⟩
theorem info_parts2 {P : Program} {t : TypeId} {z : Value} {s b : Nat} (h : (P.info? t).map (fun i => (i.zero, i.size, i.bytes)) = some (some z, s, b)) : ∃ i, P.info? t = some i ∧ i.zero = some z ∧ i.size = s ∧ i.bytes = b := by
  obtain ⟨i, hi, hzz⟩ := Option.map_eq_some_iff.1 h
  simp only [Prod.mk.injEq] at hzz
  exact ⟨i, hi, hzz.1, hzz.2.1, hzz.2.2⟩
/-- The cells of the first k. -/
def rcTx (t : Tx) (A : Option Addr) (c : Nat) : List Value := [.int .i64 t.id, .int .i64 t.am, .int .i64 t.st, .int .i64 t.dn, .slice A t.n c]
def rbTx (T : Nat → Tx) (A : Nat → Option Addr) (c : Nat → Nat) : Nat → List Value
  | 0 => []
  | k + 1 => rbTx T A c k ++ rcTx (T k) (A k) (c k)
theorem rbTx_len (T : Nat → Tx) (A : Nat → Option Addr) (c : Nat → Nat) : ∀ k, (rbTx T A c k).length = k * 5
  | 0 => rfl
  | k + 1 => by simp only [rbTx, List.length_append, rbTx_len T A c k, rcTx, List.length_cons, List.length_nil]; omega
theorem rbTx_get (T : Nat → Tx) (A : Nat → Option Addr) (c : Nat → Nat) : ∀ k i j, i < k → j < 5 → (rbTx T A c k)[i * 5 + j]? = (rcTx (T i) (A i) (c i))[j]?
  | 0, i, j, h, _ => by omega
  | k + 1, i, j, h, hj => by
    simp only [rbTx]
    by_cases e : i = k
    · subst e
      rw [List.getElem?_append_right (by rw [rbTx_len]; omega), rbTx_len]
      congr 1; omega
    · rw [List.getElem?_append_left (by rw [rbTx_len]; omega)]
      exact rbTx_get T A c k i j (by omega) hj
theorem rbTx_congr {T T' : Nat → Tx} {A A' : Nat → Option Addr} {c c' : Nat → Nat} : ∀ k, (∀ i, i < k → T i = T' i ∧ A i = A' i ∧ c i = c' i) → rbTx T A c k = rbTx T' A' c' k
  | 0, _ => rfl
  | k + 1, h => by
    obtain ⟨e1, e2, e3⟩ := h k (by omega)
    simp only [rbTx, e1, e2, e3, rbTx_congr k (fun i hi => h i (by omega))]
theorem rcTx_one (t : Tx) (A : Option Addr) (c : Nat) : ∀ u ∈ rcTx t A c, u.oneCell' = true := by
  intro u hu
  simp [rcTx] at hu
  rcases hu with rfl | rfl | rfl | rfl | rfl <;> rfl
/-- A list of k that grows: it and what its elements hold lie in blocks of their own from base on, below top. -/
def GrTx (base top : Nat) (w : World) (v : Value) (k : Nat) (T : Nat → Tx) : Prop :=
  top ≤ w.heap.size ∧ ∃ (A : Nat → Option Addr) (c l h : Nat → Nat), w.ownsRow base 127 5 v k (rbTx T A c k) ∧ (∀ q, v.ownBlock = some q → q < top) ∧ (∀ i j, i < k → j < k → i ≠ j → h i ≤ l j ∨ h j ≤ l i) ∧
    ∀ i, i < k → (∀ q, v.ownBlock = some q → q < l i ∨ h i ≤ q) ∧ (h i = 0 ∨ base ≤ l i ∧ h i ≤ top) ∧ (T i).n ≤ c i ∧ OwnUC w (l i) (h i) (A i) (c i) (T i).n (T i).U
theorem GrTx.nil (base : Nat) (w : World) (T : Nat → Tx) : GrTx base w.heap.size w (.slice none 0 0) 0 T :=
  ⟨Nat.le_refl _, fun _ => none, fun _ => 0, fun _ => 0, fun _ => 0, World.ownsRow_nil _ _ _ _, fun q hq => by simp [Value.ownBlock] at hq, fun i j hi => by omega, fun i hi => by omega⟩
theorem GrTx.writes {base top lo hi : Nat} {w w' : World} {v : Value} {k : Nat} {T : Nat → Tx} (h : GrTx base top w v k T) (hw : Writes lo hi w w') (hd : hi ≤ base ∨ top ≤ lo) : GrTx base top w' v k T := by
  obtain ⟨h0, A, c, l, h, ho, hv, hj, hc⟩ := h
  refine ⟨Nat.le_trans h0 hw.size, A, c, l, h, ownsRow_of ho fun q hq => hw.block q (by have := hv q hq; omega) (by have h1 := hv q hq; have h2 := (ho.lt q hq).1; omega), hv, hj, fun i hi => ?_⟩
  obtain ⟨k1, k2, k3, k4⟩ := hc i hi
  exact ⟨k1, k2, k3, k4.writes hw (by omega)⟩
theorem GrTx.below {base top : Nat} {w w' : World} {v : Value} {k : Nat} {T : Nat → Tx} (h : GrTx base top w v k T) (hb : Below w.heap.size w w') : GrTx base top w' v k T :=
  h.writes (Writes.of_below (lo := w.heap.size) (hi := w.heap.size) hb) (.inr h.1)
theorem GrTx.congr {base top : Nat} {w : World} {v : Value} {k : Nat} {T T' : Nat → Tx} (h : GrTx base top w v k T) (e : ∀ i, i < k → T i = T' i) : GrTx base top w v k T' := by
  obtain ⟨h0, A, c, l, h, ho, hv, hj, hc⟩ := h
  exact ⟨h0, A, c, l, h, by rw [← rbTx_congr k fun i hi => ⟨e i hi, rfl, rfl⟩]; exact ho, hv, hj, fun i hi => by rw [← e i hi]; exact hc i hi⟩
theorem GrTx.own {base top : Nat} {w : World} {v : Value} {k : Nat} {T : Nat → Tx} (h : GrTx base top w v k T) : ∃ a cap, v = .slice a k cap ∧ k ≤ cap ∧ OwnTx w base top a k T := by
  obtain ⟨h0, A, c, l, h, ho, hv, hj, hc⟩ := h
  have hown := ho
  obtain ⟨h1, ⟨rfl, rfl⟩ | ⟨g, cap, cur, rfl, k1, k2, k3, k4⟩⟩ := ho
  · exact ⟨none, 0, rfl, Nat.le_refl _, h0, .inl rfl⟩
  · have hg := hv g rfl
    refine ⟨_, cap, rfl, k3, h0, .inr ⟨g, 0, rfl, k1, hg, fun i => hown.frozenAt _, l, h, hj, fun i hi => ?_⟩⟩
    obtain ⟨m1, m2, m3, m4⟩ := hc i hi
    refine ⟨m1 g rfl, m2, A i, c i, ?_, m3, m4.toU⟩
    have cc : ∀ j v, j < 5 → (rcTx (T i) (A i) (c i))[j]? = some v → w.cell? ⟨g, 0 + i * 5 + j, none⟩ = some v := fun j v hj hv => by
      rw [hown.cellAt (0 + i * 5 + j) (by omega), show 0 + i * 5 + j = i * 5 + j by omega, rbTx_get T A c k i j hi hj, hv]
    exact ⟨cc 0 _ (by omega) rfl, cc 1 _ (by omega) rfl, cc 2 _ (by omega) rfl, cc 3 _ (by omega) rfl, cc 4 _ (by omega) rfl⟩
theorem GrTx.step {base top l' h' g cap : Nat} {w w' : World} {v : Value} {k : Nat} {T : Nat → Tx} {t : Tx} {ai : Option Addr} {ci : Nat} (hk : (h' = 0 ∨ top ≤ l' ∧ h' ≤ w.heap.size)) (hb : base ≤ top) (hn : t.n ≤ ci) (hu : OwnUC w l' h' ai ci t.n t.U)
    (A : Nat → Option Addr) (c l h : Nat → Nat) (h0 : top ≤ w.heap.size) (hv : ∀ q, v.ownBlock = some q → q < top) (hj : ∀ i j, i < k → j < k → i ≠ j → h i ≤ l j ∨ h j ≤ l i)
    (hc : ∀ i, i < k → (∀ q, v.ownBlock = some q → q < l i ∨ h i ≤ q) ∧ (h i = 0 ∨ base ≤ l i ∧ h i ≤ top) ∧ (T i).n ≤ c i ∧ OwnUC w (l i) (h i) (A i) (c i) (T i).n (T i).U)
    (ho : w'.ownsRow base 127 5 (.slice (some ⟨g, 0, none⟩) (k + 1) cap) (k + 1) (rbTx T A c k ++ rcTx t ai ci)) (hg : w.grownBy w' v.ownBlock) (hl : v.ownBlock = some g ∨ g = w.heap.size) (hlt : g < w'.heap.size) :
    GrTx base w'.heap.size w' (.slice (some ⟨g, 0, none⟩) (k + 1) cap) (k + 1) (upf T k t) := by
  have hsz := hg.size
  have far : ∀ L H, (∀ q, v.ownBlock = some q → q < L ∨ H ≤ q) → ∀ a x n U, OwnUC w L H a x n U → OwnUC w' L H a x n U := by
    intro L H hq a x n U hO
    refine hO.keep hsz fun b hb => ?_
    have b1 := hO.2.2 b hb
    have b2 := hO.2.1.lt b hb
    exact hg.block b b2.2 fun e => by have := hq b e.symm; omega
  refine ⟨Nat.le_refl _, fun i => if i = k then ai else A i, fun i => if i = k then ci else c i, fun i => if i = k then l' else l i, fun i => if i = k then h' else h i, ?_, fun q hq => by simp [Value.ownBlock] at hq; subst hq; exact hlt, fun i j hi hj' hne => ?_, fun i hi => ?_⟩
  · have e : rbTx (upf T k t) (fun i => if i = k then ai else A i) (fun i => if i = k then ci else c i) (k + 1) = rbTx T A c k ++ rcTx t ai ci := by
      simp only [rbTx, upf_eq, if_true]
      congr 1
      exact rbTx_congr k fun i hi => ⟨upf_ne _ _ (by omega), if_neg (by omega), if_neg (by omega)⟩
    rw [e]; exact ho
  · by_cases c1 : i = k <;> by_cases c2 : j = k <;> simp only [c1, c2, if_true, if_false]
    · omega
    · have := (hc j (by omega)).2.1; omega
    · have := (hc i (by omega)).2.1; omega
    · exact hj i j (by omega) (by omega) hne
  · by_cases e : i = k
    · subst e
      simp only [if_true, upf_eq]
      refine ⟨fun q hq => ?_, by omega, hn, far l' h' (fun q hq => by have := hv q hq; omega) _ _ _ _ hu⟩
      simp only [Value.ownBlock, Option.some.injEq] at hq
      subst hq
      rcases hl with hl | hl
      · have := hv g hl; omega
      · omega
    · simp only [if_neg e]
      rw [upf_ne _ _ e]
      obtain ⟨m1, m2, m3, m4⟩ := hc i (by omega)
      refine ⟨fun q hq => ?_, by omega, m3, far _ _ m1 _ _ _ _ m4⟩
      simp only [Value.ownBlock, Option.some.injEq] at hq
      subst hq
      rcases hl with hl | hl
      · exact m1 g hl
      · omega
theorem wp_grTx {o : Oper} {a : Act} {Kc : Act → World → Prop} {Q : Exit → Act → World → Prop} (w : World) (s x : Operand)
    (ho : o.op = .call { callee := .builtin .append, args := #[s, x], argTypes := #[27, 27] })
    (base top : Nat) (v : Value) (k : Nat) (T : Nat → Tx) (hs : a.eval s = v) (hgr : GrTx base top w v k T) (X O cx : Nat) (t : Tx) (ai : Option Addr) (ci l' h' : Nat) (hx : a.eval x = .slice (some ⟨X, O, none⟩) 1 cx) (hC : CTx w X O t ai ci)
    (hk : (h' = 0 ∨ top ≤ l' ∧ h' ≤ w.heap.size)) (hb : base ≤ top) (hn : t.n ≤ ci) (hu : OwnUC w l' h' ai ci t.n t.U) (hlen : k ≤ 100000)
    (hK : ∀ g cap w', GrTx base w'.heap.size w' (.slice (some ⟨g, 0, none⟩) (k + 1) cap) (k + 1) (upf T k t) → w.grownBy w' v.ownBlock → Kc (a.put o.dst (.slice (some ⟨g, 0, none⟩) (k + 1) cap)) w') : o.wp Tryz.prog a w Kc Q := by
  obtain ⟨i0, hi, hz0, hz1, hz2⟩ := info_parts2 infoTx
  obtain ⟨h0, A, c, l, h, hown, hv, hj, hc⟩ := hgr
  refine wp_append_lies w s x 27 ho base 127 i0 _ 5 56 Tryz.underlying27 hi hz0 hz1 hz2 rfl (by decide) v k (rbTx T A c k) hs hown ⟨X, O, none⟩ 1 cx (rcTx t ai ci) hx rfl (fun j u hju => ?_) (rcTx_one _ _ _) (by decide) (by unfold maxLen; omega) (by omega) (by omega) _ rfl ?_
  · obtain ⟨h0, h1, h2, h3, h4⟩ := hC
    rw [WideShapes.add_plain]
    have hd : j < 5 := by have := (List.getElem?_eq_some_iff.1 hju).1; simpa [rcTx] using this
    have hd2 : j = 0 ∨ j = 1 ∨ j = 2 ∨ j = 3 ∨ j = 4 := by omega
    rcases hd2 with rfl | rfl | rfl | rfl | rfl
    · rw [← hju]; rw [Nat.add_zero]; exact h0
    · rw [← hju]; exact h1
    · rw [← hju]; exact h2
    · rw [← hju]; exact h3
    · rw [← hju]; exact h4
  · intro g cap w' ho2 hg2 hl2 hlt2
    exact hK g cap w' (GrTx.step hk hb hn hu A c l h h0 hv hj hc ho2 hg2 hl2 hlt2) hg2
theorem wpList_grTx {ops : Array Oper} {rest : List Oper} {o : Oper} {a : Act} {Q : Exit → Act → World → Prop} (w : World) (hgd : o.guard = none) (s x : Operand)
    (ho : o.op = .call { callee := .builtin .append, args := #[s, x], argTypes := #[27, 27] })
    (base top : Nat) (v : Value) (k : Nat) (T : Nat → Tx) (hs : a.eval s = v) (hgr : GrTx base top w v k T) (X O cx : Nat) (t : Tx) (ai : Option Addr) (ci l' h' : Nat) (hx : a.eval x = .slice (some ⟨X, O, none⟩) 1 cx) (hC : CTx w X O t ai ci)
    (hk : (h' = 0 ∨ top ≤ l' ∧ h' ≤ w.heap.size)) (hb : base ≤ top) (hn : t.n ≤ ci) (hu : OwnUC w l' h' ai ci t.n t.U) (hlen : k ≤ 100000)
    (hK : ∀ g cap w', GrTx base w'.heap.size w' (.slice (some ⟨g, 0, none⟩) (k + 1) cap) (k + 1) (upf T k t) → w.grownBy w' v.ownBlock → wpList Tryz.prog ops Q rest (a.put o.dst (.slice (some ⟨g, 0, none⟩) (k + 1) cap)) w') : wpList Tryz.prog ops Q (o :: rest) a w :=
  wpList_plain hgd fun _ hKK => wp_grTx w s x ho base top v k T hs hgr X O cx t ai ci l' h' hx hC hk hb hn hu hlen fun g cap w' h2 h3 => hKK _ _ (hK g cap w' h2 h3)
/-- The cells of the first k. -/
def rcRw (t : Rw) (A : Option Addr) (c : Nat) : List Value := [.int .i64 t.key, .slice A t.n c]
def rbRw (T : Nat → Rw) (A : Nat → Option Addr) (c : Nat → Nat) : Nat → List Value
  | 0 => []
  | k + 1 => rbRw T A c k ++ rcRw (T k) (A k) (c k)
theorem rbRw_len (T : Nat → Rw) (A : Nat → Option Addr) (c : Nat → Nat) : ∀ k, (rbRw T A c k).length = k * 2
  | 0 => rfl
  | k + 1 => by simp only [rbRw, List.length_append, rbRw_len T A c k, rcRw, List.length_cons, List.length_nil]; omega
theorem rbRw_get (T : Nat → Rw) (A : Nat → Option Addr) (c : Nat → Nat) : ∀ k i j, i < k → j < 2 → (rbRw T A c k)[i * 2 + j]? = (rcRw (T i) (A i) (c i))[j]?
  | 0, i, j, h, _ => by omega
  | k + 1, i, j, h, hj => by
    simp only [rbRw]
    by_cases e : i = k
    · subst e
      rw [List.getElem?_append_right (by rw [rbRw_len]; omega), rbRw_len]
      congr 1; omega
    · rw [List.getElem?_append_left (by rw [rbRw_len]; omega)]
      exact rbRw_get T A c k i j (by omega) hj
theorem rbRw_congr {T T' : Nat → Rw} {A A' : Nat → Option Addr} {c c' : Nat → Nat} : ∀ k, (∀ i, i < k → T i = T' i ∧ A i = A' i ∧ c i = c' i) → rbRw T A c k = rbRw T' A' c' k
  | 0, _ => rfl
  | k + 1, h => by
    obtain ⟨e1, e2, e3⟩ := h k (by omega)
    simp only [rbRw, e1, e2, e3, rbRw_congr k (fun i hi => h i (by omega))]
theorem rcRw_one (t : Rw) (A : Option Addr) (c : Nat) : ∀ u ∈ rcRw t A c, u.oneCell' = true := by
  intro u hu
  simp [rcRw] at hu
  rcases hu with rfl | rfl <;> rfl
/-- A list of k that grows: it and what its elements hold lie in blocks of their own from base on, below top. -/
def GrRw (base top : Nat) (w : World) (v : Value) (k : Nat) (T : Nat → Rw) : Prop :=
  top ≤ w.heap.size ∧ ∃ (A : Nat → Option Addr) (c l h : Nat → Nat), w.ownsRow base 173 2 v k (rbRw T A c k) ∧ (∀ q, v.ownBlock = some q → q < top) ∧ (∀ i j, i < k → j < k → i ≠ j → h i ≤ l j ∨ h j ≤ l i) ∧
    ∀ i, i < k → (∀ q, v.ownBlock = some q → q < l i ∨ h i ≤ q) ∧ (h i = 0 ∨ base ≤ l i ∧ h i ≤ top) ∧ (T i).n ≤ c i ∧ Own4 w (l i) (h i) (A i) (T i).n (T i).U
theorem GrRw.nil (base : Nat) (w : World) (T : Nat → Rw) : GrRw base w.heap.size w (.slice none 0 0) 0 T :=
  ⟨Nat.le_refl _, fun _ => none, fun _ => 0, fun _ => 0, fun _ => 0, World.ownsRow_nil _ _ _ _, fun q hq => by simp [Value.ownBlock] at hq, fun i j hi => by omega, fun i hi => by omega⟩
theorem GrRw.writes {base top lo hi : Nat} {w w' : World} {v : Value} {k : Nat} {T : Nat → Rw} (h : GrRw base top w v k T) (hw : Writes lo hi w w') (hd : hi ≤ base ∨ top ≤ lo) : GrRw base top w' v k T := by
  obtain ⟨h0, A, c, l, h, ho, hv, hj, hc⟩ := h
  refine ⟨Nat.le_trans h0 hw.size, A, c, l, h, ownsRow_of ho fun q hq => hw.block q (by have := hv q hq; omega) (by have h1 := hv q hq; have h2 := (ho.lt q hq).1; omega), hv, hj, fun i hi => ?_⟩
  obtain ⟨k1, k2, k3, k4⟩ := hc i hi
  exact ⟨k1, k2, k3, k4.writes hw (by omega)⟩
theorem GrRw.below {base top : Nat} {w w' : World} {v : Value} {k : Nat} {T : Nat → Rw} (h : GrRw base top w v k T) (hb : Below w.heap.size w w') : GrRw base top w' v k T :=
  h.writes (Writes.of_below (lo := w.heap.size) (hi := w.heap.size) hb) (.inr h.1)
theorem GrRw.congr {base top : Nat} {w : World} {v : Value} {k : Nat} {T T' : Nat → Rw} (h : GrRw base top w v k T) (e : ∀ i, i < k → T i = T' i) : GrRw base top w v k T' := by
  obtain ⟨h0, A, c, l, h, ho, hv, hj, hc⟩ := h
  exact ⟨h0, A, c, l, h, by rw [← rbRw_congr k fun i hi => ⟨e i hi, rfl, rfl⟩]; exact ho, hv, hj, fun i hi => by rw [← e i hi]; exact hc i hi⟩
theorem GrRw.own {base top : Nat} {w : World} {v : Value} {k : Nat} {T : Nat → Rw} (h : GrRw base top w v k T) : ∃ a cap, v = .slice a k cap ∧ k ≤ cap ∧ OwnRw w base top a k T := by
  obtain ⟨h0, A, c, l, h, ho, hv, hj, hc⟩ := h
  have hown := ho
  obtain ⟨h1, ⟨rfl, rfl⟩ | ⟨g, cap, cur, rfl, k1, k2, k3, k4⟩⟩ := ho
  · exact ⟨none, 0, rfl, Nat.le_refl _, h0, .inl rfl⟩
  · have hg := hv g rfl
    refine ⟨_, cap, rfl, k3, h0, .inr ⟨g, 0, rfl, k1, hg, fun i => hown.frozenAt _, l, h, hj, fun i hi => ?_⟩⟩
    obtain ⟨m1, m2, m3, m4⟩ := hc i hi
    refine ⟨m1 g rfl, m2, A i, c i, ?_, m3, m4⟩
    have cc : ∀ j v, j < 2 → (rcRw (T i) (A i) (c i))[j]? = some v → w.cell? ⟨g, 0 + i * 2 + j, none⟩ = some v := fun j v hj hv => by
      rw [hown.cellAt (0 + i * 2 + j) (by omega), show 0 + i * 2 + j = i * 2 + j by omega, rbRw_get T A c k i j hi hj, hv]
    exact ⟨cc 0 _ (by omega) rfl, cc 1 _ (by omega) rfl⟩
theorem GrRw.step {base top l' h' g cap : Nat} {w w' : World} {v : Value} {k : Nat} {T : Nat → Rw} {t : Rw} {ai : Option Addr} {ci : Nat} (hk : (h' = 0 ∨ top ≤ l' ∧ h' ≤ w.heap.size)) (hb : base ≤ top) (hn : t.n ≤ ci) (hu : Own4 w l' h' ai t.n t.U)
    (A : Nat → Option Addr) (c l h : Nat → Nat) (h0 : top ≤ w.heap.size) (hv : ∀ q, v.ownBlock = some q → q < top) (hj : ∀ i j, i < k → j < k → i ≠ j → h i ≤ l j ∨ h j ≤ l i)
    (hc : ∀ i, i < k → (∀ q, v.ownBlock = some q → q < l i ∨ h i ≤ q) ∧ (h i = 0 ∨ base ≤ l i ∧ h i ≤ top) ∧ (T i).n ≤ c i ∧ Own4 w (l i) (h i) (A i) (T i).n (T i).U)
    (ho : w'.ownsRow base 173 2 (.slice (some ⟨g, 0, none⟩) (k + 1) cap) (k + 1) (rbRw T A c k ++ rcRw t ai ci)) (hg : w.grownBy w' v.ownBlock) (hl : v.ownBlock = some g ∨ g = w.heap.size) (hlt : g < w'.heap.size) :
    GrRw base w'.heap.size w' (.slice (some ⟨g, 0, none⟩) (k + 1) cap) (k + 1) (upf T k t) := by
  have hsz := hg.size
  have far : ∀ L H, (∀ q, v.ownBlock = some q → q < L ∨ H ≤ q) → ∀ a n U, Own4 w L H a n U → Own4 w' L H a n U := by
    intro L H hq a n U hO
    obtain ⟨o0, o1 | ⟨b, off, rfl, p1, p2, p3⟩⟩ := hO
    · exact ⟨by omega, .inl o1⟩
    · have hne : some b ≠ v.ownBlock := fun e => by have := hq b e.symm; omega
      have e := hg.block b (by omega) hne
      refine ⟨by omega, .inr ⟨b, off, rfl, p1, p2, ?_⟩⟩
      exact row4_block p3 e
  refine ⟨Nat.le_refl _, fun i => if i = k then ai else A i, fun i => if i = k then ci else c i, fun i => if i = k then l' else l i, fun i => if i = k then h' else h i, ?_, fun q hq => by simp [Value.ownBlock] at hq; subst hq; exact hlt, fun i j hi hj' hne => ?_, fun i hi => ?_⟩
  · have e : rbRw (upf T k t) (fun i => if i = k then ai else A i) (fun i => if i = k then ci else c i) (k + 1) = rbRw T A c k ++ rcRw t ai ci := by
      simp only [rbRw, upf_eq, if_true]
      congr 1
      exact rbRw_congr k fun i hi => ⟨upf_ne _ _ (by omega), if_neg (by omega), if_neg (by omega)⟩
    rw [e]; exact ho
  · by_cases c1 : i = k <;> by_cases c2 : j = k <;> simp only [c1, c2, if_true, if_false]
    · omega
    · have := (hc j (by omega)).2.1; omega
    · have := (hc i (by omega)).2.1; omega
    · exact hj i j (by omega) (by omega) hne
  · by_cases e : i = k
    · subst e
      simp only [if_true, upf_eq]
      refine ⟨fun q hq => ?_, by omega, hn, far l' h' (fun q hq => by have := hv q hq; omega) _ _ _ hu⟩
      simp only [Value.ownBlock, Option.some.injEq] at hq
      subst hq
      rcases hl with hl | hl
      · have := hv g hl; omega
      · omega
    · simp only [if_neg e]
      rw [upf_ne _ _ e]
      obtain ⟨m1, m2, m3, m4⟩ := hc i (by omega)
      refine ⟨fun q hq => ?_, by omega, m3, far _ _ m1 _ _ _ m4⟩
      simp only [Value.ownBlock, Option.some.injEq] at hq
      subst hq
      rcases hl with hl | hl
      · exact m1 g hl
      · omega
theorem wp_grRw {o : Oper} {a : Act} {Kc : Act → World → Prop} {Q : Exit → Act → World → Prop} (w : World) (s x : Operand)
    (ho : o.op = .call { callee := .builtin .append, args := #[s, x], argTypes := #[28, 28] })
    (base top : Nat) (v : Value) (k : Nat) (T : Nat → Rw) (hs : a.eval s = v) (hgr : GrRw base top w v k T) (X O cx : Nat) (t : Rw) (ai : Option Addr) (ci l' h' : Nat) (hx : a.eval x = .slice (some ⟨X, O, none⟩) 1 cx) (hC : CRw w X O t ai ci)
    (hk : (h' = 0 ∨ top ≤ l' ∧ h' ≤ w.heap.size)) (hb : base ≤ top) (hn : t.n ≤ ci) (hu : Own4 w l' h' ai t.n t.U) (hlen : k ≤ 100000)
    (hK : ∀ g cap w', GrRw base w'.heap.size w' (.slice (some ⟨g, 0, none⟩) (k + 1) cap) (k + 1) (upf T k t) → w.grownBy w' v.ownBlock → Kc (a.put o.dst (.slice (some ⟨g, 0, none⟩) (k + 1) cap)) w') : o.wp Tryz.prog a w Kc Q := by
  obtain ⟨i0, hi, hz0, hz1, hz2⟩ := info_parts2 infoRw
  obtain ⟨h0, A, c, l, h, hown, hv, hj, hc⟩ := hgr
  refine wp_append_lies w s x 28 ho base 173 i0 _ 2 32 Tryz.underlying28 hi hz0 hz1 hz2 rfl (by decide) v k (rbRw T A c k) hs hown ⟨X, O, none⟩ 1 cx (rcRw t ai ci) hx rfl (fun j u hju => ?_) (rcRw_one _ _ _) (by decide) (by unfold maxLen; omega) (by omega) (by omega) _ rfl ?_
  · obtain ⟨h0, h1⟩ := hC
    rw [WideShapes.add_plain]
    have hd : j < 2 := by have := (List.getElem?_eq_some_iff.1 hju).1; simpa [rcRw] using this
    have hd2 : j = 0 ∨ j = 1 := by omega
    rcases hd2 with rfl | rfl
    · rw [← hju]; rw [Nat.add_zero]; exact h0
    · rw [← hju]; exact h1
  · intro g cap w' ho2 hg2 hl2 hlt2
    exact hK g cap w' (GrRw.step hk hb hn hu A c l h h0 hv hj hc ho2 hg2 hl2 hlt2) hg2
theorem wpList_grRw {ops : Array Oper} {rest : List Oper} {o : Oper} {a : Act} {Q : Exit → Act → World → Prop} (w : World) (hgd : o.guard = none) (s x : Operand)
    (ho : o.op = .call { callee := .builtin .append, args := #[s, x], argTypes := #[28, 28] })
    (base top : Nat) (v : Value) (k : Nat) (T : Nat → Rw) (hs : a.eval s = v) (hgr : GrRw base top w v k T) (X O cx : Nat) (t : Rw) (ai : Option Addr) (ci l' h' : Nat) (hx : a.eval x = .slice (some ⟨X, O, none⟩) 1 cx) (hC : CRw w X O t ai ci)
    (hk : (h' = 0 ∨ top ≤ l' ∧ h' ≤ w.heap.size)) (hb : base ≤ top) (hn : t.n ≤ ci) (hu : Own4 w l' h' ai t.n t.U) (hlen : k ≤ 100000)
    (hK : ∀ g cap w', GrRw base w'.heap.size w' (.slice (some ⟨g, 0, none⟩) (k + 1) cap) (k + 1) (upf T k t) → w.grownBy w' v.ownBlock → wpList Tryz.prog ops Q rest (a.put o.dst (.slice (some ⟨g, 0, none⟩) (k + 1) cap)) w') : wpList Tryz.prog ops Q (o :: rest) a w :=
  wpList_plain hgd fun _ hKK => wp_grRw w s x ho base top v k T hs hgr X O cx t ai ci l' h' hx hC hk hb hn hu hlen fun g cap w' h2 h3 => hKK _ _ (hK g cap w' h2 h3)
theorem step_grRw {ops : Array Oper} {o : Oper} {a : Act} {Kc : Act → World → Prop} {Q : Exit → Act → World → Prop} {Ee : Prop} (w : World) (hgd : o.guard = none) (s x : Operand)
    (ho : o.op = .call { callee := .builtin .append, args := #[s, x], argTypes := #[28, 28] })
    (base top : Nat) (v : Value) (k : Nat) (T : Nat → Rw) (hs : a.eval s = v) (hgr : GrRw base top w v k T) (X O cx : Nat) (t : Rw) (ai : Option Addr) (ci l' h' : Nat) (hx : a.eval x = .slice (some ⟨X, O, none⟩) 1 cx) (hC : CRw w X O t ai ci)
    (hk : (h' = 0 ∨ top ≤ l' ∧ h' ≤ w.heap.size)) (hb : base ≤ top) (hn : t.n ≤ ci) (hu : Own4 w l' h' ai t.n t.U) (hlen : k ≤ 100000)
    (hK : ∀ g cap w', GrRw base w'.heap.size w' (.slice (some ⟨g, 0, none⟩) (k + 1) cap) (k + 1) (upf T k t) → w.grownBy w' v.ownBlock → Kc (a.put o.dst (.slice (some ⟨g, 0, none⟩) (k + 1) cap)) w') :
    if Region.wanted o (yielded ops a.tmps) = true then Oper.wp Tryz.prog o a w Kc Q else Ee := by
  have hw : Region.wanted o (yielded ops a.tmps) = true := by simp [Region.wanted, hgd]
  rw [if_pos hw]
  exact wp_grRw w s x ho base top v k T hs hgr X O cx t ai ci l' h' hx hC hk hb hn hu hlen hK
theorem take_next {α : Type} {xs : List α} {k : Nat} {x : α} (h : xs[k]? = some x) : xs.take (k + 1) = xs.take k ++ [x] := by rw [List.take_add_one, h]; rfl
/-- A impl.Row as it lies in a row: its datum, where what it holds lies and how much room it has; the blocks of its own. -/
structure HRw where
  t : Rw
  A : Option Addr
  c : Nat
  l : Nat
  h : Nat
def keyRw (x : HRw) : Int := x.t.key
def hbRw : List HRw → List Value
  | [] => []
  | x :: xs => rcRw x.t x.A x.c ++ hbRw xs
theorem hbRw_app : ∀ xs ys, hbRw (xs ++ ys) = hbRw xs ++ hbRw ys
  | [], ys => rfl
  | x :: xs, ys => by simp [hbRw, hbRw_app xs ys]
theorem hbRw_get : ∀ (xs : List HRw) (i j : Nat) (x : HRw), xs[i]? = some x → j < 2 → (hbRw xs)[i * 2 + j]? = (rcRw x.t x.A x.c)[j]?
  | [], i, j, x, h, hj => by simp at h
  | y :: ys, 0, j, x, h, hj => by
    simp only [List.getElem?_cons_zero, Option.some.injEq] at h
    subst h
    rw [hbRw, List.getElem?_append_left (by simp [rcRw]; omega), Nat.zero_mul, Nat.zero_add]
  | y :: ys, i + 1, j, x, h, hj => by
    rw [List.getElem?_cons_succ] at h
    rw [hbRw, List.getElem?_append_right (by simp [rcRw]; omega)]
    have := hbRw_get ys i j x h hj
    rw [← this]
    congr 1
    simp [rcRw]
    omega
/-- A slice whose elements lie so. -/
def HAtRw (w : World) (a : Option Addr) (xs : List HRw) : Prop := xs = [] ∨ ∃ b off, a = some ⟨b, off, none⟩ ∧ b < w.heap.size ∧ ∀ i x, xs[i]? = some x → CRw w b (off + i * 2) x.t x.A x.c
theorem HAtRw.below {w w' : World} {a : Option Addr} {xs : List HRw} (h : HAtRw w a xs) (hb : Below w.heap.size w w') : HAtRw w' a xs := by
  rcases h with h | ⟨b, off, ha, hl, hc⟩
  · exact .inl h
  · exact .inr ⟨b, off, ha, Nat.lt_of_lt_of_le hl hb.size, fun i x hi => (hc i x hi).block (hb.block _ hl)⟩
theorem HAtRw.of_row {w : World} {base n : Nat} {v : Value} {xs : List HRw} (hn : xs.length = n) (h : w.ownsRow base 173 2 v n (hbRw xs)) : ∃ a cap, v = .slice a n cap ∧ n ≤ cap ∧ HAtRw w a xs := by
  rcases h.2 with ⟨rfl, h0⟩ | ⟨g, cap, cur, rfl, hbg, hg, hc, _⟩
  · exact ⟨none, 0, by rw [h0], by omega, .inl (List.eq_nil_of_length_eq_zero (by omega))⟩
  · have hlt : g < w.heap.size := (Array.getElem?_eq_some_iff.1 hg).1
    refine ⟨some ⟨g, 0, none⟩, cap, rfl, hc, .inr ⟨g, 0, rfl, hlt, fun i x hi => ?_⟩⟩
    have hil : i < n := by rw [← hn]; exact (List.getElem?_eq_some_iff.1 hi).1
    have hcc : ∀ j u, j < 2 → (rcRw x.t x.A x.c)[j]? = some u → w.cell? ⟨g, 0 + i * 2 + j, none⟩ = some u := fun j u hj hu => by
      rw [Nat.zero_add, h.cellAt (i * 2 + j) (by omega), hbRw_get xs i j x hi hj, hu]
    exact ⟨hcc 0 _ (by omega) rfl, hcc 1 _ (by omega) rfl⟩
theorem wp_appHRw {o : Oper} {a : Act} {Kc : Act → World → Prop} {Q : Exit → Act → World → Prop} (w : World) (s x : Operand)
    (ho : o.op = .call { callee := .builtin .append, args := #[s, x], argTypes := #[28, 28] })
    (base : Nat) (v : Value) (m : Nat) (xs : List HRw) (hm : xs.length = m) (hs : a.eval s = v) (hown : w.ownsRow base 173 2 v m (hbRw xs)) (Y cx : Nat) (y : HRw) (hx : a.eval x = .slice (some ⟨Y, 0, none⟩) 1 cx) (hC : CRw w Y 0 y.t y.A y.c) (hb : base ≤ w.heap.size) (hl : m ≤ 100000)
    (hK : ∀ v' w', w'.ownsRow base 173 2 v' (m + 1) (hbRw (xs ++ [y])) → w.grownBy w' v.ownBlock → Kc (a.put o.dst v') w') : o.wp Tryz.prog a w Kc Q := by
  obtain ⟨i0, hi, hz0, hz1, hz2⟩ := info_parts2 infoRw
  refine wp_append_own w s x 28 ho base 173 i0 _ 2 32 Tryz.underlying28 hi hz0 hz1 hz2 rfl (by decide) v m (hbRw xs) hs hown ⟨Y, 0, none⟩ 1 cx (rcRw y.t y.A y.c) hx rfl (fun j u hju => ?_) (rcRw_one _ _ _) (by unfold maxLen; omega) (by omega) hb fun v' w' h2 h3 _ => hK v' w' ?_ h3
  · obtain ⟨h0, h1⟩ := hC
    rw [WideShapes.add_plain]
    have hd : j < 2 := by have := (List.getElem?_eq_some_iff.1 hju).1; simpa [rcRw] using this
    have hd2 : j = 0 ∨ j = 1 := by omega
    rcases hd2 with rfl | rfl
    · rw [← hju]; exact h0
    · rw [← hju]; exact h1
  · rw [hbRw_app]
    simpa [hbRw] using h2
theorem wpList_appHRw {ops : Array Oper} {rest : List Oper} {o : Oper} {a : Act} {Q : Exit → Act → World → Prop} (w : World) (hgd : o.guard = none) (s x : Operand)
    (ho : o.op = .call { callee := .builtin .append, args := #[s, x], argTypes := #[28, 28] })
    (base : Nat) (v : Value) (m : Nat) (xs : List HRw) (hm : xs.length = m) (hs : a.eval s = v) (hown : w.ownsRow base 173 2 v m (hbRw xs)) (Y cx : Nat) (y : HRw) (hx : a.eval x = .slice (some ⟨Y, 0, none⟩) 1 cx) (hC : CRw w Y 0 y.t y.A y.c) (hb : base ≤ w.heap.size) (hl : m ≤ 100000)
    (hK : ∀ v' w', w'.ownsRow base 173 2 v' (m + 1) (hbRw (xs ++ [y])) → w.grownBy w' v.ownBlock → wpList Tryz.prog ops Q rest (a.put o.dst v') w') : wpList Tryz.prog ops Q (o :: rest) a w :=
  wpList_plain hgd fun _ hKK => wp_appHRw w s x ho base v m xs hm hs hown Y cx y hx hC hb hl fun v' w' h2 h3 => hKK _ _ (hK v' w' h2 h3)
/-- Rising by number. -/
def RiRw (xs : List HRw) : Prop := xs.Pairwise (fun x y => keyRw x < keyRw y)
end Go.Proofs.YtjdodbiphijjgaaGreat
