/- A map whose keys are edges: met[e]++, by its parts. -/
import Derived.Test.YtnmmnhfgkcdajaaEed
namespace Go.Proofs.Ytnmmnhfgkcdajaa
open Go.RowKit Go.Deep Go.Maps Go.WideElems Go.ChangeShapes Go.WideShapes Go.MapKept Go.ChangeMaps
set_option linter.unusedVariables false
set_option maxRecDepth 20000

theorem zeroE (w : World) : (zeroValue 3).run Try.prog w = .ok (.int .i64 0) w := by kernel_rfl
theorem ownsMap_blockE {H : Type} {P : Program} {k : TypeId} {R : Value → Option (DataW H × List MemPlace)} {b n : Nat} {D : DataW H} {w w' : World} (h : w.ownsMap P k R b n D) (e : w'.heap[b]? = w.heap[b]?) : w'.ownsMap P k R b n D := by
  obtain ⟨es, clock, hb, F, hs, hD⟩ := h
  exact ⟨es, clock, e.trans hb, F, hs, hD⟩
theorem setBlock_grown {w : World} {b : Nat} {es : Array MapEntry} {clock : Nat} {o' : Obj} (h : w.heap[b]? = some (.map es clock)) : w.grownBy (setBlock w b o') (some b) := ⟨rfl, rfl, rfl, by simp [setBlock], fun i _ hi => heap_setBlock_other h _ (fun e => hi (by rw [e]))⟩
theorem grown_two {A B C : World} {r : Option Nat} (g : A.grownBy B r) (h : B.grownBy C r) : A.grownBy C r :=
  ⟨h.os.trans g.os, h.tape.trans g.tape, h.output.trans g.output, Nat.le_trans g.size h.size, fun k hk hr => (h.block k (Nat.lt_of_lt_of_le hk g.size) hr).trans (g.block k hk hr)⟩
/-- The look-up is the same ahead of the entry and behind it, and what is stored then is as by an update. -/
theorem entry_own {W : World} {b n : Nat} {D : DataW Unit} (hown : W.ownsMap Try.prog 61 (plainElem Try.prog 3) b n D) (hn : n + 1 < maxLen) {key : Value} {kl : Lit} (hkey : keyOf Try.prog 61 key = some kl) :
    ∃ c v0 st W1, D.atKey kl (.lit (.int .i64 0)) = .lit (.int .i64 c) ∧ (Lit.int .i64 c).wf = true ∧ (Instr.lookup 81 (.map (some b)) key false).run Try.prog W = .ok (.int .i64 c) W ∧
      (Instr.mapEntry 81 (.map (some b)) key).run Try.prog W = .ok (.tuple #[v0, goInt st]) W1 ∧ W.grownBy W1 (some b) ∧ (Instr.lookup 81 (.map (some b)) key false).run Try.prog W1 = .ok (.int .i64 c) W1 ∧
      ∀ c' : Int, (Lit.int .i64 c').wf = true → ∃ W2, (Instr.entryStore 81 (.map (some b)) (goInt st) (.int .i64 c')).run Try.prog W1 = .ok () W2 ∧ W2.ownsMap Try.prog 61 (plainElem Try.prog 3) b (n + 1) (D.put kl (.lit (.int .i64 c'))) ∧ W.grownBy W2 (some b) := by
  obtain ⟨c, hl, hat, hwc⟩ := hown.lookup_int keysE Try.underlying81 Try.underlying3 (zeroE W) hkey
  have hown' := hown
  obtain ⟨es, clock, hb, F, hs, hD⟩ := hown'
  obtain ⟨v0, st, es1, clock1, hent, hcase, hst⟩ := entry_then_store (w := W) (e := 3) lawE Try.underlying81 (z := .int .i64 0) zeroE hb F hkey
  have hg1 : W.grownBy (setBlock W b (.map es1 clock1)) (some b) := setBlock_grown hb
  have hb1 : (setBlock W b (.map es1 clock1)).heap[b]? = some (.map es1 clock1) := heap_setBlock_same hb _
  refine ⟨c, v0, st, setBlock W b (.map es1 clock1), hat, hwc, hl, hent, hg1, ?_, fun c' hc' => ?_⟩
  · rcases lawE.find W hkey es.toList F.keys with ⟨f1, f2⟩ | ⟨j, e0, f1, f2, f3⟩
    · have hr : (Instr.mapEntry 81 (.map (some b)) key).run Try.prog W = .ok (.tuple #[.int .i64 0, goInt clock]) (setBlock W b (.map (es.push ⟨key, .int .i64 0, clock⟩) (clock + 1))) := by
        simp [Instr.mapEntry, run_underlying Try.underlying81, MapKept.run_getObj_map hb, lawE.check W false hkey, f1, MapKept.run_setObj_map _ hb, Result.andThen, setBlock]
      have hu : (Instr.mapUpdate 81 (.map (some b)) key (.int .i64 0)).run Try.prog W = .ok () (setBlock W b (.map (es.push ⟨key, .int .i64 0, clock⟩) (clock + 1))) := by
        simp [Instr.mapUpdate, run_underlying Try.underlying81, MapKept.run_getObj_map hb, lawE.check W false hkey, f1, MapKept.run_setObj_map _ hb, Result.andThen, setBlock]
      rw [hent] at hr
      have ew : setBlock W b (.map es1 clock1) = setBlock W b (.map (es.push ⟨key, .int .i64 0, clock⟩) (clock + 1)) := by injection hr
      obtain ⟨w', h3, h4, h5⟩ := hown.update keysE Try.underlying81 (by omega) hkey (plainElem_int (a := 0) Try.underlying3 (by decide))
      rw [hu] at h3
      have e3 : setBlock W b (.map (es.push ⟨key, .int .i64 0, clock⟩) (clock + 1)) = w' := by injection h3
      rw [ew, e3]
      obtain ⟨c1, hl1, hat1, _⟩ := h4.lookup_int keysE Try.underlying81 Try.underlying3 (zeroE w') hkey
      have hc1 : c1 = 0 := by
        have := hat1.symm.trans (atKey_put_same hown.isMap (keysE.key hkey) _ _)
        injection this with q; injection q
      have hc : c = 0 := by
        rcases fit_look false keysE Try.underlying81 (zeroE W) hb F hkey with ⟨q1, _⟩ | ⟨x, _, hx, hxk, _⟩
        · rw [hl] at q1
          injection q1 with q2
          injection q2
        · exact absurd hxk (f2 x hx)
      rw [hl1, hc1, hc]
    · have hj : es[j]? = some e0 := by simpa using f2
      have hsame : es.modify j (fun e => { e with key := key }) = es := by
        apply Array.ext'
        rw [Array.toList_modify, modify_eq_set _ _ _ _ f2]
        have : ({ e0 with key := key } : MapEntry) = e0 := by rw [← f3]
        rw [this]
        exact set_self _ _ _ f2
      have hr : (Instr.mapEntry 81 (.map (some b)) key).run Try.prog W = .ok (.tuple #[e0.val, goInt e0.born]) (setBlock W b (.map es clock)) := by
        simp [Instr.mapEntry, run_underlying Try.underlying81, MapKept.run_getObj_map hb, lawE.check W false hkey, f1, hj, f3, lawE.stays W hkey, hsame, MapKept.run_setObj_map _ hb, Result.andThen, setBlock]
      rw [hent] at hr
      have ew : setBlock W b (.map es1 clock1) = setBlock W b (.map es clock) := by injection hr
      have hown1 : (setBlock W b (.map es1 clock1)).ownsMap Try.prog 61 (plainElem Try.prog 3) b n D := ownsMap_blockE hown (by rw [ew, heap_setBlock_same hb _, hb])
      obtain ⟨c1, hl1, hat1, _⟩ := hown1.lookup_int keysE Try.underlying81 Try.underlying3 (zeroE _) hkey
      have hc1 : c1 = c := by
        have := hat1.symm.trans hat
        injection this with q; injection q
      rw [hl1, hc1]
  · obtain ⟨es', clock', h1, h2⟩ := hst (setBlock W b (.map es1 clock1)) (.int .i64 c') hb1
    obtain ⟨w', h3, h4, h5⟩ := hown.update keysE Try.underlying81 (by omega) hkey (plainElem_int Try.underlying3 hc')
    rw [h2] at h3
    have e3 : setBlock W b (.map es' clock') = w' := by injection h3
    refine ⟨_, h1, ?_, ?_⟩
    · refine ownsMap_blockE h4 ?_
      rw [← e3, heap_setBlock_same hb1 _, heap_setBlock_same hb _]
    · exact grown_two hg1 (setBlock_grown hb1)
end Go.Proofs.Ytnmmnhfgkcdajaa
