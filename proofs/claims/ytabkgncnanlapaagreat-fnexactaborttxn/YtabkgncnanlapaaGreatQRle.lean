/- RollTo and AbortTxn: what they answer; a copy whose undos are taken back. -/
import Derived.Test.YtabkgncnanlapaaGreatQRlc
import Derived.Test.YtabkgncnanlapaaGreatQKa
import Derived.Test.YtabkgncnanlapaaGreatQPgk
namespace Go.Proofs.YtabkgncnanlapaaGreat
open Go.RowKit Go.Deep
set_option linter.unusedVariables false
set_option linter.unusedSimpArgs false
set_option maxRecDepth 20000

def rtC (E : En) (id save : Int) : Int := if askC E id = 0 then (if inB save 0 ((E.T (askP E id).toNat).n : Int) = true then 0 else 3) else askC E id
def rtV (E : En) (id save : Int) : Int := if rtC E id save = 0 then save else 0
def rtE (E : En) (id save : Int) : En := if rtC E id save = 0 then rlE E (askP E id).toNat save.toNat (E.T (askP E id).toNat).st else zEn
theorem rt_bad {E : En} {id save : Int} (h : askC E id ≠ 0) : rtC E id save = askC E id ∧ rtV E id save = 0 ∧ rtE E id save = zEn := by
  have e : rtC E id save = askC E id := if_neg h
  exact ⟨e, if_neg (by rw [e]; exact h), if_neg (by rw [e]; exact h)⟩
theorem rt_out {E : En} {id save : Int} (h : askC E id = 0) (hs : inB save 0 ((E.T (askP E id).toNat).n : Int) = false) : rtC E id save = 3 ∧ rtV E id save = 0 ∧ rtE E id save = zEn := by
  have e : rtC E id save = 3 := by unfold rtC; rw [if_pos h, if_neg (by rw [hs]; simp)]
  exact ⟨e, if_neg (by rw [e]; omega), if_neg (by rw [e]; omega)⟩
theorem rt_ok {E : En} {id save : Int} (h : askC E id = 0) (hs : inB save 0 ((E.T (askP E id).toNat).n : Int) = true) : rtC E id save = 0 ∧ rtV E id save = save ∧ rtE E id save = rlE E (askP E id).toNat save.toNat (E.T (askP E id).toNat).st := by
  have e : rtC E id save = 0 := by unfold rtC; rw [if_pos h, if_pos hs]
  exact ⟨e, if_pos e, if_pos e⟩
theorem rl_small {E : En} {j save : Nat} {st : Int} (h0 : eF E = 0) (hj : j < E.p) (hs : save ≤ (E.T j).n) : SmallE (rlE E j save st) := by
  have hb := eF_pq h0
  have h12 : ∀ r ∈ rwL E, r.n ≤ 12 := fun r hr => by
    obtain ⟨k, hk, rfl⟩ := List.mem_map.1 hr
    exact rows12 h0 k (List.mem_range.1 hk)
  refine small_few9 hb.1 ?_ (fun i hi => ?_) (fun i hi => ?_)
  · have := unL_len (E.T j).id (E.T j).U (E.T j).n (rwL E) ((E.T j).n - save)
    have e : (rwL E).length = E.q := by simp [rwL]
    show (unL (E.T j).id (E.T j).U (E.T j).n (rwL E) ((E.T j).n - save)).length ≤ 32
    omega
  · show (upf E.T j ⟨(E.T j).id, (E.T j).am, st, (E.T j).dn, save, (E.T j).U⟩ i).n ≤ 60
    by_cases e : i = j
    · subst e
      rw [upf_eq]
      have := undos60 h0 i hj
      show save ≤ 60
      omega
    · rw [upf_ne _ _ e]
      exact undos60 h0 i hi
  · have hi2 : i < (unL (E.T j).id (E.T j).U (E.T j).n (rwL E) ((E.T j).n - save)).length := hi
    show ((unL (E.T j).id (E.T j).U (E.T j).n (rwL E) ((E.T j).n - save)).getD i zRw).n ≤ 12
    rw [List.getD_eq_getElem?_getD, List.getElem?_eq_getElem hi2]
    exact unL_12 _ _ _ _ h12 _ _ (List.getElem_mem hi2)
/-- The j-th transaction's undos are cut, its numbers written. -/
theorem OwnTx.cut {w w1 : World} {lo hi b off n j : Nat} {T : Nat → Tx} {t : Tx} (h : OwnTx w lo hi (some ⟨b, off, none⟩) n T) (hj : j < n) (hw : Writes b (b + 1) w w1)
    (hfar : ∀ o', (o' < off + j * 5 ∨ off + j * 5 + 4 < o') → w1.cell? ⟨b, o', none⟩ = w.cell? ⟨b, o', none⟩) (hfr : ∀ i, w1.frozen? ⟨b, i, none⟩ = w.frozen? ⟨b, i, none⟩) (hC : ∀ ui uc, CTx w b (off + j * 5) (T j) ui uc → CTx w1 b (off + j * 5) t ui uc) (hn : t.n ≤ (T j).n) (hU : t.U = (T j).U) :
    OwnTx w1 lo hi (some ⟨b, off, none⟩) n (upf T j t) := by
  obtain ⟨h0, h1 | ⟨b1, off1, ha, hlo, hl, hf, l, h, hd, hc⟩⟩ := h
  · omega
  simp only [Option.some.injEq, Addr.mk.injEq, and_true] at ha
  obtain ⟨rfl, rfl⟩ := ha
  have hsz := hw.size
  refine ⟨Nat.le_trans h0 hsz, .inr ⟨b, off, rfl, hlo, hl, fun i => (hfr i).trans (hf i), l, h, hd, fun i hi => ?_⟩⟩
  obtain ⟨k0, k1, ai, ci, k2, k3, k4⟩ := hc i hi
  by_cases e : i = j
  · subst e
    rw [upf_eq]
    refine ⟨k0, k1, ai, ci, hC _ _ k2, by omega, ?_⟩
    rw [hU]
    obtain ⟨m0, m1⟩ := k4.writes hw (by omega)
    refine ⟨m0, ?_⟩
    rcases m1 with m1 | ⟨b2, o2, e2, m2, m3, m4⟩
    · exact .inl (by omega)
    · exact .inr ⟨b2, o2, e2, m2, m3, fun i hi => m4.1 i (by omega), m4.2⟩
  · rw [upf_ne _ _ e]
    refine ⟨k0, k1, ai, ci, ?_, k3, k4.writes hw (by omega)⟩
    have g : ∀ q, q < 5 → w1.cell? ⟨b, off + i * 5 + q, none⟩ = w.cell? ⟨b, off + i * 5 + q, none⟩ := fun q hq => hfar _ (by omega)
    obtain ⟨g0, g1, g2, g3, g4⟩ := k2
    exact ⟨(g 0 (by omega)).trans g0, (g 1 (by omega)).trans g1, (g 2 (by omega)).trans g2, (g 3 (by omega)).trans g3, (g 4 (by omega)).trans g4⟩
/-- A copy in its box, no undo taken back by now. -/
theorem RlI.start {w2 W : World} {E : En} {M B vd : Nat} {tsl : Value} {vb : Option Addr} {id : Int} {U : Nat → Ud} {n : Nat} (hg : GrRw M w2.heap.size w2 (.slice vb E.q vd) E.q E.R) (hb : Below w2.heap.size w2 W) (hB : B = w2.heap.size) (hbox : Box4 W B (.int .i64 E.nx) (.int .i64 E.ck) tsl (.slice vb E.q vd)) (hfz : ∀ i, W.frozen? ⟨B, i, none⟩ = false) :
    ∃ xs, RlI W W B E.nx E.ck tsl id U n (rwL E) 0 M vb vd E.q xs := by
  obtain ⟨xs, lxs, dxs, oxs, vxs, axs, cxs⟩ := hg.list
  have hz := hb.size
  refine ⟨xs, Writes.refl _ _ _, hbox, hfz, lxs, own_belowI oxs hb, dxs, axs, fun x hx => ((cxs x hx).2.below hb).mono (Nat.le_refl _) hz, fun g off e => ?_, fun x hx => ?_⟩
  · subst e
    have := vxs g rfl
    exact ⟨by omega, fun x hx => (cxs x hx).1 g rfl⟩
  · have := (cxs x hx).2.1
    omega
/-- The rows of the answer. -/
theorem RlI.rowsP {W wr : World} {B : Nat} {nx ck : Int} {tsl : Value} {id : Int} {U : Nat → Ud} {n : Nat} {rs : List Rw} {m lo : Nat} {ra : Option Addr} {rc q : Nat} {xs : List HRw} (h : RlI W wr B nx ck tsl id U n rs m lo ra rc q xs) (hlo : lo ≤ wr.heap.size) : q = (unL id U n rs m).length ∧ OwnRwP wr (fun x => lo ≤ x ∧ x < wr.heap.size) ra q (fun i => (unL id U n rs m).getD i zRw) := by
  have hq : q = (unL id U n rs m).length := by rw [← h.data, List.length_map, h.len]
  refine ⟨hq, ?_⟩
  obtain ⟨a, cap, e, hc, hP⟩ := OwnRwP.of2 (B := lo) (M := wr.heap.size) h.len h.own h.ap h.ct (fun g hg x hx => by
    rcases h.own.2 with ⟨e, _⟩ | ⟨g2, c2, cu, e, _⟩
    · injection e with e
      subst e
      simp [Value.ownBlock] at hg
    · injection e with e
      subst e
      simp only [Value.ownBlock, Option.some.injEq] at hg
      subst hg
      exact (h.far _ _ rfl).2 x hx)
  injection e with e1
  subst e1
  rw [h.data] at hP
  refine hP.mono fun x hx => ?_
  rcases hx with hx | hx
  · exact hx
  · have := h.own.lt x hx
    omega
/-- The answer's engine, behind the store into its box. -/
theorem rl_res {w S w7 : World} {E : En} {j sv b0 M N q rc vc : Nat} {st c v : Int} {a ra : Option Addr} (hb : Below w.heap.size w S) (hT : OwnTx S b0 M a E.p (upf E.T j ⟨(E.T j).id, (E.T j).am, st, (E.T j).dn, sv, (E.T j).U⟩)) (hQ : OwnRwP S (fun x => M ≤ x ∧ x < N) ra q (fun i => (unL (E.T j).id (E.T j).U (E.T j).n (rwL E) ((E.T j).n - sv)).getD i zRw)) (hq : q = (unL (E.T j).id (E.T j).U (E.T j).n (rwL E) ((E.T j).n - sv)).length)
    (g : Writes (w.heap.size + 1) (w.heap.size + 2) S w7) (hz : w7.heap.size = S.heap.size) (h1 : w.heap.size + 2 ≤ b0) (h2 : b0 ≤ M) (h3 : N ≤ S.heap.size) :
    ERes2 c v (rlE E j sv st) w (.returned (.agg #[.int .i64 c, .int .i64 v, .int .i64 E.nx, .int .i64 E.ck, .slice a E.p vc, .slice ra q rc])) w7 := by
  subst hq
  have hM := hT.1
  refine ⟨a, vc, ra, rc, rfl, Writes.below hb g (by omega), by omega, _, _, fun x hx => ?_, fun x hx => ?_, fun x hx hy => ?_, (hT.writes g (.inr (by omega))).toP, hQ.keep (by omega) fun x hx hl => g.block x hl (.inr (by omega))⟩
  · omega
  · omega
  · omega
end Go.Proofs.YtabkgncnanlapaaGreat
