import Derived.Test.YtjdodbiphijjgaaGreatJRul
import Derived.Test.YtjdodbiphijjgaaGreatJCl
namespace Go.Proofs.YtjdodbiphijjgaaGreat
namespace FnExactRunEngine
open Go.ChangeShapes Go.WideShapes Go.ChangeAt Go.RowKit Go.Deep
set_option linter.unusedVariables false
set_option maxRecDepth 100000 in
theorem lifted (os:Os) (started:os.Started) (H:Type) (enc:TypeId × Value→H) :
    ReturnsInHanded {} Tryz.checked os 6 .any (Rows.fnExactRunEngineSpec.pre6 enc Tryz.prog Tryz.f6 Rows.fnExactRunEngineRow.domain false) (Rows.fnExactRunEngineSpec.post enc Tryz.prog Tryz.f6 false true false false):=by
  refine returnsInHanded_of_change (C:=Tryz.checked) own started (by kernel_rfl) Tryz.func6
    (ChangeSpec.witness6 (enc:=enc) (C:=Tryz.checked) false ⟨#[],#[.slice none 0 0,.slice none 0 0],[]⟩ 8 (by kernel_rfl) (by kernel_rfl) (by kernel_rfl) (by kernel_rfl)) ?_
  intro W base args ds gs before hval0 hW hcnd _;have hval:∀(j:Nat) t v,Tryz.f6.params[j]? = some t→args[j]? = some v→Value.okWide Tryz.prog W .any base t v:=hval0;have hW':=hW;obtain ⟨p,q,hA0,hV,rfl,hfz,hnd⟩:=hW;have hA:DataW.TrodAll enc Tryz.prog W 0 (fun _=>true) true Tryz.f6.params.toList args.toList ds p:=hA0;rw [Tryz.params6] at hA hval;obtain ⟨v0,vs0,d0,ds0,p0,q0,hargs,rfl,rfl,h0,r0⟩:=trodAll_cons hA;obtain ⟨v1,vs1,d1,ds1,p1,q1,rfl,rfl,rfl,h1,r1⟩:=trodAll_cons r0;obtain ⟨rfl,rfl,rfl⟩:=trodAll_nil r1;obtain rfl:args=#[v0,v1]:=(by cases args;simp_all);obtain ⟨rfl,rfl⟩:=trodVars_none hV;have k0:=h0;have lt0:∀x ∈ p0,x.block<W.heap.size:=(by obtain ⟨m,hm⟩:=k0;exact DataW.trod_lt m _ _ _ hm);obtain ⟨va,vl,ve,rfl⟩:=okWide_slice Tryz.underlying55 (hval 0 55 v0 rfl rfl)
  obtain ⟨vK,vV,vbz,vat⟩:∃(K V:Nat→Int),∃_:vl≤9223372036854775807,CellsAt W va vl K V:=by
    obtain ⟨fuel,hf⟩:=h0;obtain ⟨a0,n0,cap0,K0,V0,e0,e1,e3⟩:=openCells hf;simp [Value.cells] at e0;obtain ⟨rfl,rfl,rfl⟩:=e0;exact ⟨K0,V0,e1,e3⟩
  have k1:=h1;have lt1:∀x ∈ p1,x.block<W.heap.size:=(by obtain ⟨m,hm⟩:=k1;exact DataW.trod_lt m _ _ _ hm);obtain ⟨ra1,rl1,re1,rfl⟩:=okWide_slice Tryz.underlying56 (hval 1 56 v1 rfl rfl)
  obtain ⟨rT1,rz1,rat1⟩:∃(T:Nat→Ac),∃_:rl1≤9223372036854775807,AcsAt W ra1 rl1 T:=by
    obtain ⟨fuel,hf⟩:=h1;obtain ⟨a0,n0,cap0,T0,e0,_,e1,e3⟩:=openActs hf;simp [Value.cells] at e0;obtain ⟨rfl,rfl,rfl⟩:=e0;exact ⟨T0,e1,e3⟩
  clear hA0 hval0;refine (runEngineLaw vl vK vV va ve rl1 rT1 ra1 re1 W vbz vat rz1 rat1).mono fun e W' ⟨he,bel⟩=>?_;subst he;exact ⟨_,rfl,_,_,_,[],_,[],hW',trodAll_mk1 (shut_bool Tryz.underlying4 _),(trodAll_cons_mk (Below.trod laidOut (by kernel_rfl) (of_decide_eq_true (by kernel_rfl)) k0 bel lt0) (trodAll_cons_mk (Below.trod laidOut (by kernel_rfl) (of_decide_eq_true (by kernel_rfl)) k1 bel lt1) trodAll_mk0)),rfl,bel.frame _,fun h=>by cases h⟩
theorem oFn:Tryz.prog.funcNamed Rows.fnExactRunEngineRow.func=some 6:=by kernel_rfl
theorem and2 {a b:Bool} (h1:a=true) (h2:b=true):(a && b)=true:=by rw [h1,h2];rfl
set_option maxRecDepth 100000 in
set_option maxHeartbeats 4000000 in
theorem oAll:joinedFacts Tryz.prog 6 Tryz.f6 Rows.fnExactRunEngineSpec Rows.fnExactRunEngineRow=true:=by
  unfold joinedFacts;exact (and2 (and2 (and2 (and2 (and2 (and2 (and2 (and2 (and2 (and2 (and2 (and2 (and2 (and2 (and2 (and2 (and2 (and2 (and2 (and2 (and2 (and2 (and2 (and2 (and2 (and2 (and2 (and2 (and2 (and2 (and2 (by as_aux_lemma=>kernel_rfl) laidOut) (by as_aux_lemma=>kernel_rfl)) (by as_aux_lemma=>kernel_rfl)) (by as_aux_lemma=>kernel_rfl)) (by as_aux_lemma=>kernel_rfl)) (by as_aux_lemma=>kernel_rfl)) (by as_aux_lemma=>kernel_rfl)) (by as_aux_lemma=>kernel_rfl)) (by as_aux_lemma=>kernel_rfl)) (by as_aux_lemma=>kernel_rfl)) (by as_aux_lemma=>kernel_rfl)) (by as_aux_lemma=>kernel_rfl)) (by as_aux_lemma=>kernel_rfl)) (by as_aux_lemma=>kernel_rfl)) (by as_aux_lemma=>kernel_rfl)) (by as_aux_lemma=>kernel_rfl)) (by as_aux_lemma=>kernel_rfl)) (by as_aux_lemma=>kernel_rfl)) (by as_aux_lemma=>kernel_rfl)) (by as_aux_lemma=>kernel_rfl)) (by as_aux_lemma=>kernel_rfl)) (by as_aux_lemma=>kernel_rfl)) (by as_aux_lemma=>kernel_rfl)) (by as_aux_lemma=>kernel_rfl)) clMay) clLift) clMake) (by as_aux_lemma=>kernel_rfl)) (by as_aux_lemma=>kernel_rfl)) (by as_aux_lemma=>kernel_rfl)) (by as_aux_lemma=>kernel_rfl))
theorem over:Rows.fnExactRunEngineRow.holds Tryz.pinned (OpenSpec.ofChange Rows.fnExactRunEngineSpec):=
  OpenClaim.holds_of_wide 6 Tryz.f6 rfl rfl rfl rfl rfl rfl rfl ⟨rfl,rfl,rfl,rfl,rfl⟩ rfl rfl rfl rfl rfl oFn Tryz.func6 oAll
    (of_decide_eq_true (by kernel_rfl)) (by unfold Func.isWrapper;first | (rw [if_pos (by decide +kernel)];kernel_rfl) | (rw [if_neg (by decide +kernel)];exact ⟨rfl,rfl⟩))
    (fun os started H enc _=>lifted os started H enc)
end FnExactRunEngine
theorem fnExactRunEngine_holds:Rows.FnExactRunEngineSaid:=FnExactRunEngine.over
#print axioms fnExactRunEngine_holds
end Go.Proofs.YtjdodbiphijjgaaGreat
