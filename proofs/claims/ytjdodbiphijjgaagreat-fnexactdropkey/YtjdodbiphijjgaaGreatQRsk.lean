/- spec.l6Write: what it answers; what its end leaves. -/
import Derived.Test.YtjdodbiphijjgaaGreatQRsg
import Derived.Test.YtjdodbiphijjgaaGreatQRsh
import Derived.Test.YtjdodbiphijjgaaGreatQRsj
import Derived.Test.YtjdodbiphijjgaaGreatQCb
import Derived.Test.YtjdodbiphijjgaaGreatQKb
namespace Go.Proofs.YtjdodbiphijjgaaGreat
open Go.RowKit Go.Deep Go.Shelf
set_option linter.unusedVariables false
set_option linter.unusedSimpArgs false
set_option maxRecDepth 20000

theorem pl_N {R : Nat → Rw} {key : Int} : ∀ {q : Nat}, (∀ j, j < q → ∀ i, i < j → (R i).key < (R j).key) → Pl q R key (plN R key q)
  | 0, _ => ⟨Nat.le_refl _, fun x hx => by simp [plN] at hx, fun x _ hx => by omega⟩
  | q + 1, hs => by
    have ih := pl_N (R := R) (key := key) (q := q) fun j hj i hi => hs j (by omega) i hi
    rw [plN]
    by_cases hk : (R q).key < key
    · rw [if_pos hk]
      refine ⟨Nat.le_refl _, fun x hx => ?_, fun x h1 h2 => by omega⟩
      by_cases e : x = q
      · rw [e]; exact hk
      · have := hs q (Nat.lt_succ_self q) x (by omega); omega
    · rw [if_neg hk]
      refine ⟨by have := ih.1; omega, ih.2.1, fun x h1 h2 => ?_⟩
      by_cases e : x = q
      · rw [e]; omega
      · exact ih.2.2 x h1 (by omega)
theorem wrt_fob {n : Nat} {R : Nat → Vr} {id : Int} (h : id ≠ 0) : (wrt n R = id ↔ fob n R id = true) := by
  unfold wrt fob
  simp only [Bool.and_eq_true, decide_eq_true_eq, beq_iff_eq]
  constructor
  · intro e
    split at e
    · rename_i h1; exact ⟨h1.1, e, h1.2⟩
    · exact absurd e.symm h
  · rintro ⟨h1, h2, h3⟩
    rw [if_pos ⟨h1, h3⟩]; exact h2
def wrG (E : En) (j : Nat) (key : Int) (m : Nat) (S : Nat → Vr) : En :=
  ⟨E.nx, E.ck, E.p, upf E.T j ⟨(E.T j).id, (E.T j).am, (E.T j).st, (E.T j).dn, (E.T j).n + 1, upf (E.T j).U (E.T j).n (uoF (ckN E key) (ckU E key) (E.T j).id key)⟩, (wrL E key m S).length, fun x => (wrL E key m S).getD x zRw⟩
/-- The code of a write by the model. -/
def wwC (E : En) (j : Nat) (key : Int) : Int := if mayB (ckN E key) (ckU E key) (E.T j).am (E.T j).id = true then (if (E.T j).n = 60 then 2 else (if fob (ckN E key) (ckU E key) (E.T j).id = true then 0 else (if ckN E key = 12 then 2 else 0))) else 9
def wwN (E : En) (j : Nat) (key : Int) : Nat := if fob (ckN E key) (ckU E key) (E.T j).id = true then ckN E key else ckN E key + 1
def wwS (E : En) (j : Nat) (key : Int) (g : Bool) (v : Int) : Nat → Vr := if fob (ckN E key) (ckU E key) (E.T j).id = true then pxA (ckU E key) ⟨(E.T j).id, 0, g, v⟩ else pxC (ckU E key) ⟨(E.T j).id, 0, g, v⟩
def wwE (E : En) (j : Nat) (key : Int) (g : Bool) (v : Int) : En := if wwC E j key = 0 then wrG E j key (wwN E j key) (wwS E j key g v) else zEn
theorem map_wrL {E : En} {key : Int} {m : Nat} {S : Nat → Vr} {xs : List HRw} {y : HRw} (hx : xs.map HRw.t = rwL E) (hy : y.t = ⟨key, m, S⟩) : (skH (plF E.q E.R key (plN E.R key E.q)) (plN E.R key E.q) y xs).map HRw.t = wrL E key m S := by
  rw [skH_t, hx, hy]; rfl
/-- What the end of a write leaves: the undo appended, the row put. -/
theorem write_end {E : En} {j : Nat} {key : Int} {m : Nat} {S : Nat → Vr} {W8 u w9 : World} {N0 B b0' M N2 lo hi ug N5 tb : Nat} {xs : List HRw} {y : HRw} {f : Bool} {ra : Option Addr} {rc q2 : Nat} {T' : Nat → Tx}
    (hxs : xs.map HRw.t = rwL E) (hf : f = plF E.q E.R key (plN E.R key E.q)) (hyt : y.t = ⟨key, m, S⟩) (hyl : y.l = lo) (hyh : y.h = hi) (hyc : m ≤ y.c) (hax : ApRw xs) (hct : ∀ x ∈ xs, CtRw W8 M N2 x) (hyo : Own4 W8 lo hi y.A m S)
    (hb : N0 ≤ b0') (hbM : b0' ≤ M) (hMN : M ≤ N2) (hB : B = N2) (hN5 : N2 < lo) (hhi : hi ≤ N5) (hN25 : N2 < N5) (hug : ug < M ∨ ug = N5) (hug8 : ug < W8.heap.size) (hug0 : b0' ≤ ug)
    (hT : OwnTxP W8 (fun x => (b0' ≤ x ∧ x < M) ∨ (M ≤ ug ∧ ug ≤ x ∧ x < ug + 1)) (some ⟨tb, 0, none⟩) E.p T')
    (hbu : Below W8.heap.size W8 u) (hw9 : w9 = u.setCell ⟨B, 3, none⟩ (.slice ra q2 rc)) (hl : (skH f (plN E.R key E.q) y xs).length = q2) (ho : u.ownsRow W8.heap.size 173 2 (.slice ra q2 rc) q2 (hbRw (skH f (plN E.R key E.q) y xs))) (hBc : B < W8.heap.size) :
    q2 = (wrL E key m S).length ∧ ∃ P Q : Nat → Prop, (∀ x, P x → N0 ≤ x ∧ x < w9.heap.size) ∧ (∀ x, Q x → N0 ≤ x ∧ x < w9.heap.size) ∧ (∀ x, P x → ¬ Q x) ∧ OwnTxP w9 P (some ⟨tb, 0, none⟩) E.p T' ∧ OwnRwP w9 Q ra q2 (fun x => (wrL E key m S).getD x zRw) := by
  have hz9 : w9.heap.size = u.heap.size := by rw [hw9]; simp [World.setCell]
  have hw : Writes B (B + 1) u w9 := by rw [hw9]; exact Writes.setCell (Writes.refl _ _ _) (p := ⟨B, 3, none⟩) (Nat.le_refl _) (Nat.lt_succ_self _) _
  have hzu := hbu.size
  have hml : (skH f (plN E.R key E.q) y xs).map HRw.t = wrL E key m S := by rw [hf]; exact map_wrL hxs hyt
  have hq : q2 = (wrL E key m S).length := by rw [← hl, ← hml, List.length_map]
  have hT9 : OwnTxP w9 (fun x => (b0' ≤ x ∧ x < M) ∨ (M ≤ ug ∧ ug ≤ x ∧ x < ug + 1)) (some ⟨tb, 0, none⟩) E.p T' := by
    refine OwnTxP.keep hT (by omega) fun x hx hl2 => ?_
    refine (hw.block x (by omega) ?_).trans (hbu.block x hl2)
    omega
  refine ⟨hq, fun x => (b0' ≤ x ∧ x < M) ∨ (M ≤ ug ∧ ug ≤ x ∧ x < ug + 1), fun x => (M ≤ x ∧ x < N2) ∨ (lo ≤ x ∧ x < hi) ∨ (W8.heap.size ≤ x ∧ x < w9.heap.size), fun x hx => by omega, fun x hx => ?_, fun x h1 h2 => by omega, hT9, ?_⟩
  · have := hyo.1; omega
  · have hap : ApRw (skH f (plN E.R key E.q) y xs) := skH_ap hax fun x hx => by
      have := (hct x hx).1
      rw [hyl, hyh]; omega
    rcases ho.2 with ⟨e9, h9⟩ | ⟨g, cg, cur, e9, k1, k2, k3, k4⟩
    · exact .inl h9
    · simp only [Value.slice.injEq] at e9
      obtain ⟨rfl, _, rfl⟩ := e9
      obtain ⟨a8, c8, e8, -, hat⟩ := HAtRw.of_row hl ho
      simp only [Value.slice.injEq] at e8
      obtain ⟨rfl, _, rfl⟩ := e8
      have hgu : g < u.heap.size := (Array.getElem?_eq_some_iff.1 k2).1
      rw [← hml, ← hl]
      refine OwnRwP.ofList (.inr (.inr ⟨k1, by omega⟩)) (by omega) (fun i => ?_) hap (fun i x hx => ?_) (fun x hx => ?_)
      · rw [hw9, World.frozen?_setCell]; exact ho.frozenAt _
      · rcases hat with h8 | ⟨b, off, e7, hbl, hc⟩
        · rw [h8] at hx; simp at hx
        · cases e7
          have := hc i x hx
          rw [Nat.zero_add] at this
          exact this.block (hw.block g hgu (by omega))
      · rcases skH_mem hx with rfl | hx
        · refine ⟨by have := hyo.1; omega, by rw [hyt]; exact hyc, ?_, fun z h1 h2 => .inr (.inl (by omega))⟩
          have h7 := (hyo.below hbu).writes hw (by omega)
          rw [hyl, hyh, hyt]; exact h7
        · obtain ⟨m1, m2, m3⟩ := hct x hx
          exact ⟨by omega, m2, (m3.below hbu).writes hw (by omega), fun z h1 h2 => .inl (by omega)⟩
end Go.Proofs.YtjdodbiphijjgaaGreat
