/- The fault of an engine, by the program: do the versions of a row fit? -/
import Derived.Test.YtabkgncnanlapaaGreatQGc
import Derived.Test.YtabkgncnanlapaaGreatQVg
namespace Go.Proofs.YtabkgncnanlapaaGreat
open Go.RowKit Go.Deep
set_option linter.unusedVariables false
set_option maxRecDepth 20000

/-- Is one of the transactions the one that wrote the first version, with an undo of its key? -/
def vQ (T : Nat → Tx) (r : Rw) (i : Nat) : Bool := (T i).id == (r.U 0).t && hasU (T i).U r.key (T i).n
def vI (p : Nat) (T : Nat → Tx) (r : Rw) : Bool := decide (0 ≤ fi (vQ T r) p 0)
def vfB (ck : Int) (p : Nat) (T : Nat → Tx) (r : Rw) : Bool := allb (fun i => !decide (ck < (r.U i).a)) r.n && (!fop r.n r.U || vI p T r)
theorem older_at {n : Nat} {R : Nat → Vr} (h : chF n R = 0) {j : Nat} (hj : j + 1 < n) : (R (j + 1)).a ≠ 0 ∧ ((R j).a = 0 ∨ (R (j + 1)).a < (R j).a) := by
  have hv := ((chF_good h).2 (j + 1) hj).2
  unfold vF at hv
  simp only [Bool.or_eq_false_iff] at hv
  have ho : older (R (j + 1)) (R j) = true := by
    have := hv.2
    simpa using this
  unfold older at ho
  simpa using ho
/-- Behind the second version all are older than it. -/
theorem at_falls {n : Nat} {R : Nat → Vr} (h : chF n R = 0) {b : Int} (h0 : (R 0).a ≤ b) (h1 : 1 < n → (R 1).a ≤ b) : ∀ i, i < n → (R i).a ≤ b
  | 0, _ => h0
  | 1, hi => h1 hi
  | i + 2, hi => by
    have ih := at_falls h h0 h1 (i + 1) (by omega)
    obtain ⟨_, h3⟩ := older_at h (j := i + 1) hi
    obtain ⟨h4, _⟩ := older_at h (j := i) (by omega)
    rcases h3 with h3 | h3
    · exact absurd h3 h4
    · have h5 : (R (i + 2)).a < (R (i + 1)).a := h3
      omega
theorem tF_good {nx ck : Int} {T : Nat → Tx} {i : Nat} (h : tF nx ck T i = 0) : tIn nx ck (T i) = true ∧ tB1 T i = false ∧ tB2 (T i) = false ∧ tB3 (T i) = false ∧ usF (T i).n (T i).U = 0 := by
  unfold tF at h
  split at h
  · omega
  · rename_i h1
    split at h
    · omega
    · rename_i h2
      have h1' : tIn nx ck (T i) = true := by simpa using h1
      have h2' : (tB1 T i || tB2 (T i) || tB3 (T i)) = false := by simpa using h2
      simp only [Bool.or_eq_false_iff] at h2'
      exact ⟨h1', h2'.1.1, h2'.1.2, h2'.2, h⟩
theorem usF_le {n : Nat} {U : Nat → Ud} (h : usF n U = 0) : n ≤ 60 := by
  unfold usF at h
  split at h
  · omega
  · omega
theorem ids_rise {nx ck : Int} {T : Nat → Tx} {p : Nat} (h : ∀ i, i < p → tF nx ck T i = 0) : ∀ j, j < p → ∀ i, i < j → (T i).id < (T j).id
  | 0, _, i, hi => by omega
  | j + 1, hj, i, hi => by
    have h1 := (tF_good (h (j + 1) hj)).2.1
    have h2 : (T j).id < (T (j + 1)).id := by
      unfold tB1 at h1
      simp at h1
      omega
    by_cases e : i = j
    · subst e; exact h2
    · have := ids_rise h j (by omega) i (by omega)
      omega
theorem id_pos {nx ck : Int} {T : Nat → Tx} {i : Nat} (h : tF nx ck T i = 0) : 1 ≤ (T i).id := by
  have := (tF_good h).1
  unfold tIn at this
  simp only [Bool.and_eq_true] at this
  exact (inB_iff.1 this.1.1.1).1
theorem vfB_eq {nx ck : Int} {p : Nat} {T : Nat → Tx} {r : Rw} (ht : ∀ i, i < p → tF nx ck T i = 0) (hc : chF r.n r.U = 0) (hn : 0 < r.n) : vfB ck p T r = !(rB2 ck r || !opB p T r) := by
  have e1 : allb (fun i => !decide (ck < (r.U i).a)) r.n = !rB2 ck r := by
    by_cases h : rB2 ck r = true
    · rw [h]
      unfold rB2 at h
      simp only [Bool.or_eq_true, Bool.and_eq_true, decide_eq_true_eq] at h
      rcases h with h | ⟨h1, h2⟩
      · exact allb_not hn (by simp; exact h)
      · exact allb_not h1 (by simp; exact h2)
    · have h' : rB2 ck r = false := by simpa using h
      rw [h']
      unfold rB2 at h'
      simp only [Bool.or_eq_false_iff, Bool.and_eq_false_iff, decide_eq_false_iff_not] at h'
      refine (allb_iff _ _).2 fun i hi => ?_
      have := at_falls hc (b := ck) (by omega) (fun h1 => by rcases h'.2 with h2 | h2 <;> omega) i hi
      simp; omega
  have e2 : (!fop r.n r.U || vI p T r) = opB p T r := by
    cases hf : fop r.n r.U with
    | false =>
      have hw : wrt r.n r.U = 0 := by
        unfold wrt
        unfold fop at hf
        rw [if_neg]
        rintro ⟨h1, h2⟩
        simp [h1, h2] at hf
      simp [opB, hw]
    | true =>
      have ⟨h1, h2⟩ : 0 < r.n ∧ (r.U 0).a = 0 := by simpa [fop] using hf
      have hw : wrt r.n r.U = (r.U 0).t := if_pos ⟨h1, h2⟩
      have hr := ((chF_good hc).2 0 hn).1
      have ht0 : 1 ≤ (r.U 0).t := by
        unfold vR at hr
        simp only [Bool.and_eq_true] at hr
        exact (inB_iff.1 hr.1.1).1
      have hne : (wrt r.n r.U == 0) = false := by rw [hw]; simp; omega
      simp only [Bool.not_true, Bool.false_or]
      unfold vI opB
      rw [hne, Bool.false_or, hw]
      rcases fi_cases (vQ T r) p with ⟨k1, k2⟩ | ⟨j, k1, k2, k3, k4⟩
      · rw [k1]
        rcases fi_cases (fun i => (T i).id == (r.U 0).t) p with ⟨m1, m2⟩ | ⟨j, m1, m2, m3, m4⟩
        · have : fT p T (r.U 0).t = -1 := m1
          rw [this]; simp
        · have hm : fT p T (r.U 0).t = (j : Int) := m2
          rw [hm, Int.toNat_natCast]
          have hq := k2 j m1
          unfold vQ at hq
          rw [m3, Bool.true_and] at hq
          rw [hq]; simp
      · rw [k2]
        unfold vQ at k3
        simp only [Bool.and_eq_true, beq_iff_eq] at k3
        have hm : fT p T (r.U 0).t = (j : Int) := by
          rcases fi_cases (fun i => (T i).id == (r.U 0).t) p with ⟨m1, m2⟩ | ⟨i, m1, m2, m3, m4⟩
          · have := m2 j k1
            simp [k3.1] at this
          · have hi : i = j := by
              have e3 : (T i).id = (r.U 0).t := by simpa using m3
              rcases Nat.lt_trichotomy i j with h | h | h
              · have := ids_rise ht j k1 i h; omega
              · exact h
              · have := ids_rise ht i m1 j h; omega
            rw [← hi]; exact m2
        rw [hm, Int.toNat_natCast, k3.2]
        have hst : (T j).st = 1 := by
          have h3 := (tF_good (ht j k1)).2.2.2.1
          obtain ⟨q, hq, _⟩ := (hasU_iff _ _ _).1 k3.2
          unfold tB3 at h3
          have hp : 0 < (T j).n := by omega
          simp [hp] at h3
          exact h3
        rw [hst]; simp
  unfold vfB
  rw [e1, e2]
  simp
set_option maxHeartbeats 4000000 in
theorem vf1_any (t : Tx) (ti : Option Addr) (tc : Nat) (r : Rw) (B : Nat) (vb vo ci : Nat) (w : World) (hn : 0 < r.n) (ht : t.n ≤ 1048576) (c0 : w.cell? ⟨B, 0, none⟩ = some (.int .i64 r.key)) (c1 : w.cell? ⟨B, 1, none⟩ = some (.slice (some ⟨vb, vo, none⟩) r.n ci)) (c2 : w.cell? ⟨vb, vo, none⟩ = some (.int .i64 (r.U 0).t)) (hu : UndsAt w ti t.n t.U) :
    Calls Tryz.prog 133 #[.agg #[.int .i64 t.id, .int .i64 t.am, .int .i64 t.st, .int .i64 t.dn, .slice ti t.n tc], .pointer (some ⟨B, 0, none⟩)] w fun e w' => e = .returned (.bool (t.id == (r.U 0).t && hasU t.U r.key t.n)) ∧ Below w.heap.size w w' := by
  have HU : Hid (UndsAt w ti t.n t.U) := hu
  have hn1 : (0 : Int) < (r.n : Int) := by omega
  have d0 := fun o : Obj => cell_alloc c0 o
  have d1 := fun o : Obj => cell_alloc c1 o
  have d2 := fun o : Obj => cell_alloc c2 o
  clear hu
  obtain he | he := bool_or2 (t.id == (r.U 0).t)
  case inr =>
    have HE : Hid ((t.id == (r.U 0).t && hasU t.U r.key t.n) = false) := by show _ = _; rw [he]; rfl
    go_enter Tryz.func133, Tryz.ntmps133
    go_wp2_with fail
    go_quiet (fail)
    go_wp2_with fail
    go_ret
    exact ⟨ret_bool HE.out.symm, below_drewN (below_new _ _) _⟩
  have HE : Hid ((t.id == (r.U 0).t && hasU t.U r.key t.n) = hasU t.U r.key t.n) := by show _ = _; rw [he]; rfl
  have HBX : Hid (∀ o : Obj, o = .cells #[.int .i64 t.id, .int .i64 t.am, .int .i64 t.st, .int .i64 t.dn, .slice ti t.n tc] 54 → (w.alloc o).cell? ⟨w.heap.size, 0, none⟩ = some (.int .i64 t.id) ∧ (w.alloc o).cell? ⟨w.heap.size, 4, none⟩ = some (.slice ti t.n tc)) := by
    rintro o rfl
    exact ⟨by simp [go_sem], by simp [go_sem]⟩
  go_enter Tryz.func133, Tryz.ntmps133
  go_wp2_with fail
  obtain ⟨t0, t4⟩ := HBX.out _ rfl
  have z0 := d0 (.cells #[.int .i64 t.id, .int .i64 t.am, .int .i64 t.st, .int .i64 t.dn, .slice ti t.n tc] 54)
  have z1 := d1 (.cells #[.int .i64 t.id, .int .i64 t.am, .int .i64 t.st, .int .i64 t.dn, .slice ti t.n tc] 54)
  have z2 := d2 (.cells #[.int .i64 t.id, .int .i64 t.am, .int .i64 t.st, .int .i64 t.dn, .slice ti t.n tc] 54)
  have HUA : Hid (UndsAt (w.alloc (.cells #[.int .i64 t.id, .int .i64 t.am, .int .i64 t.st, .int .i64 t.dn, .slice ti t.n tc] 54)) ti t.n t.U) := HU.out.below (below_new _ _)
  have HBA : Hid (Below w.heap.size w (w.alloc (.cells #[.int .i64 t.id, .int .i64 t.am, .int .i64 t.st, .int .i64 t.dn, .slice ti t.n tc] 54))) := below_new _ _
  clear d0 d1 d2 c0 c1 c2 HBX HU
  generalize w.alloc (.cells #[.int .i64 t.id, .int .i64 t.am, .int .i64 t.st, .int .i64 t.dn, .slice ti t.n tc] 54) = W at *
  generalize hTB : w.heap.size = TB at *
  have hb0 : Below W.heap.size W W.drew := (Below.refl _ _).drew
  go_region_held3 (fun w' => Below W.heap.size W w' ∧ w'.cell? ⟨TB, 0, none⟩ = some (.int .i64 t.id) ∧ w'.cell? ⟨TB, 4, none⟩ = some (.slice ti t.n tc) ∧ w'.cell? ⟨B, 0, none⟩ = some (.int .i64 r.key) ∧ w'.cell? ⟨B, 1, none⟩ = some (.slice (some ⟨vb, vo, none⟩) r.n ci) ∧ w'.cell? ⟨vb, vo, none⟩ = some (.int .i64 (r.U 0).t)) (go_keep)
    (first | (go_at_call 116; refine (hasUndo_any t.n t.U ti tc r.key _ ht (HUA.out.below (by simp [*]))).mono ?_; rintro e wq ⟨rfl, hbq⟩; have hU := below_then (w := W) (by simp [*]) hbq; have hU0 := cell_below (B := TB) (o := 0) (v := .int .i64 t.id) (by simp [*]) hbq; have hU1 := cell_below (B := TB) (o := 4) (v := .slice ti t.n tc) (by simp [*]) hbq; have hU2 := cell_below (B := B) (o := 0) (v := .int .i64 r.key) (by simp [*]) hbq; have hU3 := cell_below (B := B) (o := 1) (v := .slice (some ⟨vb, vo, none⟩) r.n ci) (by simp [*]) hbq; have hU4 := cell_below (B := vb) (o := vo) (v := .int .i64 (r.U 0).t) (by simp [*]) hbq))
  go_wp2_with fail
  go_ret
  refine ⟨ret_bool HE.out.symm, ?_⟩
  have hsz : TB ≤ W.heap.size := by have := HBA.out.size; omega
  first | exact HBA.out.trans (Below.mono (by assumption) hsz) | (rw [hTB]; exact HBA.out.trans (Below.mono (by assumption) hsz))
end Go.Proofs.YtabkgncnanlapaaGreat
