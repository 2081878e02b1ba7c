/- FnExactRecFault: for every record the law returns true: impl.RecFault answers as the model. No condition. -/
import Derived.Test.YtmopoblladnjbaaRl
import Derived.Test.YtmopoblladnjbaaCla
import Derived.Test.YtmopoblladnjbaaClb
import Derived.Test.YtmopoblladnjbaaClc
namespace Go.Proofs.Ytmopoblladnjbaa
namespace FnExactRecFault
open Go.ChangeShapes Go.WideShapes Go.ChangeAt Go.RowKit Go.Deep
set_option linter.unusedVariables false

set_option maxRecDepth 100000 in
theorem lifted (os : Os) (started : os.Started) (H : Type) (enc : TypeId × Value → H) :
    ReturnsInHanded {} Try.checked os 11 .any (Rows.fnExactRecFaultSpec.pre6 enc Try.prog Try.f11 Rows.fnExactRecFaultRow.domain false) (Rows.fnExactRecFaultSpec.post enc Try.prog Try.f11 false true false false) := by
  refine returnsInHanded_of_change (C := Try.checked) own started (by kernel_rfl) Try.func11
    (ChangeSpec.witness6 (enc := enc) (C := Try.checked) false ⟨#[], #[.agg #[.int .i64 0, .int .i64 0, .int .i64 0, .bool false, .int .i64 0, .bool false, .int .i64 0, .int .i64 0]], []⟩ 8 (by kernel_rfl) (by kernel_rfl) (by kernel_rfl) (by kernel_rfl)) ?_
  intro W base args ds gs before hval0 hW hcnd _
  have hval : ∀ (j : Nat) t v, Try.f11.params[j]? = some t → args[j]? = some v → Value.okWide Try.prog W .any base t v := hval0
  have hW' := hW
  obtain ⟨p, q, hA0, hV, rfl, hfz, hnd⟩ := hW
  have hA : DataW.TrodAll enc Try.prog W 0 (fun _ => true) true Try.f11.params.toList args.toList ds p := hA0
  rw [Try.params11] at hA hval
  obtain ⟨v0, vs0, d0, ds0, p0, q0, hargs, rfl, rfl, h0, r0⟩ := trodAll_cons hA
  obtain ⟨rfl, rfl, rfl⟩ := trodAll_nil r0
  obtain rfl : args = #[v0] := by cases args; simp_all
  obtain ⟨rfl, rfl⟩ := trodVars_none hV
  have k0 := h0
  have lt0 : ∀ x ∈ p0, x.block < W.heap.size := by obtain ⟨m, hm⟩ := k0; exact DataW.trod_lt m _ _ _ hm
  obtain ⟨rk, rt, rkey, rhd, rold, rhs, rnw, rbk, rfl⟩ := openRec (hval 0 86 v0 rfl rfl) h0
  clear hA0 hval0
  refine (recFaultLaw rk rt rkey rhd rold rhs rnw rbk W).mono fun e W' ⟨he, bel⟩ => ?_
  subst he
  exact ⟨_, rfl, _, _, _, [], _, [], hW', trodAll_mk1 (shut_bool Try.underlying4 _), (trodAll_cons_mk (Below.trod laidOut (by kernel_rfl) (of_decide_eq_true (by kernel_rfl)) k0 bel lt0) trodAll_mk0), rfl, bel.frame _, fun h => by cases h⟩

theorem oFn : Try.prog.funcNamed Rows.fnExactRecFaultRow.func = some 11 := by kernel_rfl
theorem oc0 : (Rows.fnExactRecFaultRow.wf (OpenSpec.ofChange Rows.fnExactRecFaultSpec)) = true := by kernel_rfl
theorem oc1 : (laidOutB Try.prog) = true := laidOut
theorem oc2 : (mapsRowed Try.prog) = true := by kernel_rfl
theorem oc3 : (Try.f11.params.all (Try.prog.readableRec ·)) = true := by kernel_rfl
theorem oc4 : (namedTie Try.prog Rows.fnExactRecFaultRow.named Rows.fnExactRecFaultSpec.vars) = true := by kernel_rfl
theorem oc5 : ((Rows.fnExactRecFaultRow.stops == [])) = true := by kernel_rfl
theorem oc6 : ((Try.prog.stops == [])) = true := by kernel_rfl
theorem oc7 : ((Rows.fnExactRecFaultRow.knobs == [])) = true := by kernel_rfl
theorem oc8 : ((Try.prog.stopKnobs == [])) = true := by kernel_rfl
theorem oc9 : ((Rows.fnExactRecFaultRow.inPlace == Try.prog.inPlace 11)) = true := by kernel_rfl
theorem oc10 : ((Rows.fnExactRecFaultRow.unfollowed == Try.prog.unfollowed 11)) = true := by kernel_rfl
theorem oc11 : ((Rows.fnExactRecFaultRow.recurses == Try.prog.recurses 11)) = true := by kernel_rfl
theorem oc12 : ((Rows.fnExactRecFaultRow.named == Try.prog.varsNamed 11)) = true := by kernel_rfl
theorem oc13 : ((Rows.fnExactRecFaultRow.maps == (Try.f11.params.toList ++ Rows.fnExactRecFaultSpec.plain.varTypes Try.prog).any (Try.prog.mapsRec ·))) = true := by kernel_rfl
theorem oc14 : ((Rows.fnExactRecFaultRow.ifaces == (Try.f11.params.toList ++ Rows.fnExactRecFaultSpec.plain.varTypes Try.prog).any (Try.prog.ifacesRec ·))) = true := by kernel_rfl
theorem oc15 : ((Rows.fnExactRecFaultRow.mapsOut == Try.prog.mapsAmong Try.f11.resultTypes.toList)) = true := by kernel_rfl
theorem oc16 : ((Rows.fnExactRecFaultRow.loops == (Try.f11.params.toList ++ Rows.fnExactRecFaultSpec.plain.varTypes Try.prog).any (Try.prog.loopsFrom ·))) = true := by kernel_rfl
theorem oc17 : ((Rows.fnExactRecFaultRow.wideKeys == (Try.f11.params.toList ++ Rows.fnExactRecFaultSpec.plain.varTypes Try.prog ++ Try.f11.resultTypes.toList).any (Try.prog.wideKeysFrom ·))) = true := by kernel_rfl
theorem oc18 : (Rows.fnExactRecFaultSpec.vars.all (Try.prog.varReadable ·)) = true := by kernel_rfl
theorem oc19 : (Try.f11.resultTypes.all (fun t => Try.prog.readableRec t && decide (t < Try.prog.types.size))) = true := by kernel_rfl
theorem oc20 : ((Rows.fnExactRecFaultRow.ifacesOut == Try.f11.resultTypes.toList.any (Try.prog.ifacesRec ·))) = true := by kernel_rfl
theorem oc21 : ((Rows.fnExactRecFaultRow.loopsOut == Try.f11.resultTypes.toList.any (Try.prog.loopsFrom ·))) = true := by kernel_rfl
theorem oc22 : ((Rows.fnExactRecFaultRow.plainKeys == Try.prog.plainKeys)) = true := by kernel_rfl
theorem oc23 : (Rows.fnExactRecFaultRow.shortTexts.isNone) = true := by kernel_rfl
theorem oc24 : (Try.prog.stopsHeard) = true := by kernel_rfl
theorem oc25 : (Try.prog.mayEnter) = true := clMay
theorem oc26 : ((Rows.fnExactRecFaultRow.lifted == Try.prog.liftsFinal)) = true := clLift
theorem oc27 : ((Try.prog.make == some Rows.fnExactRecFaultRow.make)) = true := clMake
theorem oc28 : ((Rows.fnExactRecFaultRow.kinds == (if Rows.fnExactRecFaultRow.domain.isEmpty then [] else Try.f11.params.toList.map fun t => match Try.prog.underlying t with | some (.int k) => some k | _ => none))) = true := by kernel_rfl
theorem oc29 : ((Rows.fnExactRecFaultRow.pinned == Rows.fnExactRecFaultRow.pinnedBy)) = true := by kernel_rfl
theorem oc30 : ((Rows.fnExactRecFaultRow.veiled == (Try.f11.params.toList ++ Rows.fnExactRecFaultSpec.plain.varTypes Try.prog ++ Try.f11.resultTypes.toList).any (Try.prog.veiledRec ·))) = true := by kernel_rfl
theorem oc31 : (Rows.fnExactRecFaultRow.veiledFits Try.prog Try.f11.params.toList (Try.f11.params.toList ++ Rows.fnExactRecFaultSpec.plain.varTypes Try.prog ++ Try.f11.resultTypes.toList)) = true := by kernel_rfl
theorem and2 {a b : Bool} (h1 : a = true) (h2 : b = true) : (a && b) = true := by rw [h1, h2]; rfl
set_option maxRecDepth 100000 in
theorem oAll : joinedFacts Try.prog 11 Try.f11 Rows.fnExactRecFaultSpec Rows.fnExactRecFaultRow = true := by
  unfold joinedFacts
  exact (and2 (and2 (and2 (and2 (and2 (and2 (and2 (and2 (and2 (and2 (and2 (and2 (and2 (and2 (and2 (and2 (and2 (and2 (and2 (and2 (and2 (and2 (and2 (and2 (and2 (and2 (and2 (and2 (and2 (and2 (and2 oc0 oc1) oc2) oc3) oc4) oc5) oc6) oc7) oc8) oc9) oc10) oc11) oc12) oc13) oc14) oc15) oc16) oc17) oc18) oc19) oc20) oc21) oc22) oc23) oc24) oc25) oc26) oc27) oc28) oc29) oc30) oc31)
theorem over : Rows.fnExactRecFaultRow.holds Try.pinned (OpenSpec.ofChange Rows.fnExactRecFaultSpec) :=
  OpenClaim.holds_of_wide 11 Try.f11 rfl rfl rfl rfl rfl rfl rfl ⟨rfl, rfl, rfl, rfl, rfl⟩ rfl rfl rfl rfl rfl oFn Try.func11 oAll
    (of_decide_eq_true (by kernel_rfl)) (by unfold Func.isWrapper; first | (rw [if_pos (by decide +kernel)]; kernel_rfl) | (rw [if_neg (by decide +kernel)]; exact ⟨rfl, rfl⟩))
    (fun os started H enc _ => lifted os started H enc)
end FnExactRecFault
theorem fnExactRecFault_holds : Rows.FnExactRecFaultSaid := FnExactRecFault.over
#print axioms fnExactRecFault_holds
end Go.Proofs.Ytmopoblladnjbaa
