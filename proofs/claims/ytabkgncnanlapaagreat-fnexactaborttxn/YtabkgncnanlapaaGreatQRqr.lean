/- A range over a function whose rounds come in a fixed order, each once, and whose body never leaves: the k-th round is told of k. -/
import Derived.RangeFuncNested
import Derived.RangeFuncLeaves
import Derived.Test.YtabkgncnanlapaaGreatQBase
namespace Go.Proofs.YtabkgncnanlapaaGreat
open Go Go.RowKit

/-- An iterator that gives its elements in a fixed order: behind N rounds it is done. -/
def SeqIdx (F : Fence) (n : Nat) (P : Program) (g : Nat) (lb : Array Value) (encs : Nat → Array Value) (Kp : World → World → Prop) (N : Nat) (w : World) : Prop :=
  ∀ (l : Nat) (J : Nat → World → Prop) (W : World), Below w.heap.size w W → AbidesFrom W.heap.size J →
    (∀ k W1, J k W1 → k < N → YieldAt F (n - 1) P l (encs k) W1 fun e W' => e = .returned (.bool true) ∧ J (k + 1) W' ∧ Kp W1 W') →
    J 0 W → CallsIn F n P g (#[.func (.yield l) #[] #[]] ++ lb) W fun e W' => (∃ v, e = .returned v) ∧ J N W'
/-- The round goes on. -/
def onPost (B : Nat) (Kp : World → World → Prop) (J : World → Prop) (W : World) : Exit → Act → World → Prop
  | .normal, _, W' => KeepsFrom B W W' ∧ Kp W W' ∧ J W'
  | _, _, _ => False
variable {F : Fence} {n : Nat} {P : Program} {w : World}
theorem wpIn_range_idx {g : Operand} {ps : Array Tmp} {assign body : Code} {Q : Exit → Act → World → Prop} {a : Act}
    (hro : F.round = none) (h1 : 1 ≤ n) {gf : Nat} {lb : Array Value} (hg : a.eval g = .func (.func gf) #[] lb) (hFg : F.fn gf) (eg : ∀ args w, (callFunc gf args).run P w = .ok (.enter gf args) w)
    {encs : Nat → Array Value} {Kp : World → World → Prop} {N : Nat} {w0 : World} (hseq : SeqIdx F (n - 1) P gf lb encs Kp N w0)
    (hKt : ∀ {A B C : World}, Kp A B → Kp B C → Kp A C) (hKb : ∀ (W : World) (l : Nat) (o o' : Obj), w.heap.size ≤ l → W.heap[l]? = some o → o.isCells = false → Kp W (W.putObj l o')) (hb0 : Below w0.heap.size w0 w) (hps : ∀ k, (encs k).size = ps.size)
    (I : Nat → World → Prop) (hI : OwnFrom w.heap.size I) (h0 : I 0 w) (Ax : Nat → Act → World → Prop) (hAx : ∀ k a', OwnFrom w.heap.size (fun (_ : Unit) W => Ax k a' W))
    (hassign : ∀ (l k : Nat) (W : World) (K : Act → World → Prop), I k W → k < N → (∀ a' W', KeepsFrom w.heap.size W W' → Kp W W' → I k W' → Ax k a' W' → K a' W') →
      assign.wpIn (F.inRound l) (n - 1 - 1) P (Exit.then K (fun _ _ _ => False)) { tmps := (ps.zip (encs k)).foldl (fun t (p, v) => t.setIfInBounds p v) a.tmps, defers := [] } W)
    (hbody : ∀ (l k : Nat) (a' : Act) (W : World), w.heap.size ≤ l → I k W → Ax k a' W → k < N → body.wpIn (F.inRound l) (n - 1 - 1) P (onPost w.heap.size Kp (I (k + 1)) W) a' W)
    (hdone : ∀ (D : Nat) (W : World), w.heap.size ≤ D → I N W → W.heap[D]? = some (.deferred (some [])) → Q .normal { a with defers := { target := .collected D, args := #[] } :: a.defers } W) :
    (Code.rangeFunc g ps assign body).wpIn F n P Q a w := by
  refine wpIn_rangeFunc fun fn hfn => ?_
  rw [hro]
  -- the loop's record, behind the block of its deferred calls
  let D := w.heap.size
  let L := w.heap.size + 1
  have key : ∀ st, ∃ r : Loop, r = { state := st, pending := none, fn, tmps := a.tmps, params := ps, assign, body, defers := D } := fun st => ⟨_, rfl⟩
  let rc : LoopState → Loop := fun st => { state := st, pending := none, fn, tmps := a.tmps, params := ps, assign, body, defers := D }
  let V := (w.alloc (.deferred (some []))).alloc (.loop (rc .ready))
  have vL : V.heap[L]? = some (.loop (rc .ready)) := by
    have h := World.alloc_heap_new (w.alloc (.deferred (some []))) (.loop (rc .ready))
    rwa [World.size_alloc] at h
  have vD : V.heap[D]? = some (.deferred (some [])) := (Below.heap_alloc _ _ _ (by simp [D])).trans (World.alloc_heap_new w _)
  have vB : Below w0.heap.size w0 V := hb0.trans ((((Below.refl _ w).alloc (Nat.le_refl _) _).alloc (by simp) _).mono hb0.size)
  have vI : I 0 V := hI.alloc _ (hI.alloc _ h0)
  have vS : V.heap.size = w.heap.size + 2 := by simp [V]
  refine ⟨L, [{ target := .collected D, args := #[] }], V, { target := .fn (.func gf) lb, args := #[.func (.yield L) #[] #[]] }, V, gf, #[.func (.yield L) #[] #[]] ++ lb, V, run_enterLoop_outer _ _ _ _ _, ?_, fun f hf => ?_, ?_, fun _ => h1, ?_⟩
  · simp only [resolve, hg]
    simp [go_sem]
  · simp [Target.leads] at hf
    subst hf
    exact hFg
  · simp [invoke, go_sem, eg]
  -- between two rounds
  let J : Nat → World → Prop := fun k W => I k W ∧ W.heap[L]? = some (.loop (rc .ready)) ∧ W.heap[D]? = some (.deferred (some []))
  have hJ : AbidesFrom V.heap.size J := fun k A B row hs hgr hr => by
    have hr2 : ∀ r, row = some r → w.heap.size ≤ r ∧ ∃ o : Obj, A.heap[r]? = some o ∧ o.isCells = false := fun r e => by
      obtain ⟨h3, o, h4, h5⟩ := hr r e
      exact ⟨by omega, o, h4, Obj.not_cells_of_walk h5⟩
    have far : ∀ x, x < V.heap.size → ∀ o, A.heap[x]? = some o → B.heap[x]? = some o := fun x hx o ho =>
      (hgr.block x (Array.getElem?_eq_some_iff.1 ho).1 (fun e => by have := (hr x e.symm).1; omega)).trans ho
    exact ⟨hI k A B row hs.1 hgr hr2, far L (by omega) _ hs.2.1, far D (by omega) _ hs.2.2⟩
  refine (hseq L J V vB hJ (fun k W hW hk => ?_) ⟨vI, vL, vD⟩).mono ?_
  · obtain ⟨jI, jL, jD⟩ := hW
    refine ⟨fn, _, assign, body, run_yield (P := P) (args := encs k) jL (hps k), roundIn_of_wpIn hfn (hassign L k W _ jI hk fun a' X x1 x2 xI xA => ?_)⟩
    have xL := x1.same L _ (Nat.le_succ _) jL rfl
    have xD := x1.same D _ (Nat.le_refl _) jD rfl
    have xl : L < X.heap.size := (Array.getElem?_eq_some_iff.1 xL).1
    refine ⟨_, run_beginRound xL rfl, ?_⟩
    have yL : (X.putObj L (.loop (rc .busy))).heap[L]? = some (.loop (rc .busy)) := World.putObj_heap_same xl
    have yD : (X.putObj L (.loop (rc .busy))).heap[D]? = some (.deferred (some [])) := (World.putObj_heap_other (by simp only [D, L]; omega)).trans xD
    have yK : Kp X (X.putObj L (.loop (rc .busy))) := hKb _ _ _ _ (Nat.le_succ _) xL rfl
    refine wpIn_mono (hbody L k a' _ (Nat.le_succ _) (hI.putObj _ xI (Nat.le_succ _) xL rfl) ((hAx k a').putObj (s := ()) _ xA (Nat.le_succ _) xL rfl) hk) ?_
    intro e a3 Y hp
    cases e with
    | normal =>
      obtain ⟨z1, z2, z3⟩ := hp
      have zL := z1.same L _ (Nat.le_succ _) yL rfl
      have zD := z1.same D _ (Nat.le_refl _) yD rfl
      refine ⟨_, _, run_endRound (P := P) none zL, rfl, ⟨hI.putObj _ z3 (Nat.le_succ _) zL rfl, World.putObj_heap_same (Array.getElem?_eq_some_iff.1 zL).1, (World.putObj_heap_other (by simp only [D, L]; omega)).trans zD⟩, hKt x2 (hKt (hKt yK z2) (hKb _ _ _ _ (Nat.le_succ _) zL rfl))⟩
    | ret => exact hp.elim
    | exit id => exact hp.elim
    | goto t => exact hp.elim
    | panic ch => exact hp.elim
    | outgrown => exact hp.elim
  · rintro e Y ⟨⟨v, rfl⟩, yI, yL, yD⟩
    exact ⟨none, _, run_endLoop (P := P) yL (by simp [rc]), hdone D _ (Nat.le_refl _) (hI.putObj _ yI (Nat.le_succ _) yL rfl) ((World.putObj_heap_other (by simp only [D, L]; omega)).trans yD)⟩
theorem leavesM_same {fn : Func} {t1 t2 : Array Value} {R : Ending → World → Prop} (h : results fn t1 = results fn t2) : ∀ (ds : List Deferred) (u : FrameMode) (w : World), LeavesInM F n P fn t1 R ds u w → LeavesInM F n P fn t2 R ds u w
  | [], .returning, w, ⟨v, hv, hr⟩ => ⟨v, by rw [← h]; exact hv, hr⟩
  | [], .panicking c, w, hh => hh
  | [], .run, w, hh => hh
  | d :: ds, u, w, ⟨h1, hh⟩ => ⟨h1, by
      rcases hh with ⟨r, w', k1, k2, k3⟩ | ⟨k0, fv, cap, f, args, k1, k2, k3, k4⟩
      · exact .inl ⟨r, w', k1, k2, leavesM_same h ds _ _ k3⟩
      · refine .inr ⟨k0, fv, cap, f, args, k1, k2, k3, k4.mono fun e u' w' hq => ?_⟩
        cases e with
        | returned v => exact leavesM_same h ds _ _ hq
        | panicked c => exact leavesM_same h ds _ _ hq
        | outgrown => exact hq⟩
end Go.Proofs.YtabkgncnanlapaaGreat
