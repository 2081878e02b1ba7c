/- FnActs: for every row of bytes the law returns true: an act that is drawn from them is read back from its line, and a line that is read tells its act again. The condition: the listed tables hold what the program's own text lays in them (the card ties them). -/
import Derived.Test.YtiflheclfgloaaaDoorYtec
import Derived.Test.YtiflheclfgloaaaDoorYdl
import Derived.Test.YtiflheclfgloaaaDoorDopb
import Derived.Test.YtiflheclfgloaaaDoorCards
import Derived.Test.YtiflheclfgloaaaDoorTie
import Derived.ShutString
import Derived.ChangeMaps5
import Derived.Stop.Joined
import Derived.JoinedOf
import Derived.Lib.SmallJoins
namespace Go.Proofs.YtiflheclfgloaaaDoor
namespace FnActs
open Go.ChangeShapes Go.WideShapes Go.ChangeAt Go.RowKit Go.Deep
open Go.ChangeMaps (open_string shut_string)
set_option linter.unusedVariables false

set_option maxRecDepth 100000 in
theorem lifted (os : Os) (started : os.Started) (H : Type) (enc : TypeId × Value → H) :
    ReturnsInHanded {} Tryd.checked os 5 .any (fun w args => (Rows.fnActsSpec.pre enc Tryd.prog Tryd.f5 [] false w args ∧ laidMetH Tryd.prog laid4 w) ∧ sizedMet enc Tryd.prog Tryd.f5 (OpenSpec.ofChange Rows.fnActsSpec) false w args)
      (Rows.fnActsSpec.post enc Tryd.prog Tryd.f5 false true false false) := by
  refine returnsInHanded_of_change_and (C := Tryd.checked) (X := fun w _ => laidMetH Tryd.prog laid4 w) (fun _ _ _ hh h => h.of_heap hh) own started (by kernel_rfl) Tryd.func5
    (ChangeSpec.witness_shaped (enc := enc) (C := Tryd.checked) (os := os) (X := fun w _ => laidMetH Tryd.prog laid4 w) false (World.doorLaid Tryd.prog 400 os) #[.slice none 0 0] 8 rfl (World.shaped_of_RefB (by kernel_rfl) (by kernel_rfl)) (by kernel_rfl) (by kernel_rfl) (by kernel_rfl) (door_met4 os _)) ?_
  intro W base args ds gs before hval0 hW _ _ hL _
  have hval : ∀ (j : Nat) t v, Tryd.f5.params[j]? = some t → args[j]? = some v → Value.okWide Tryd.prog W .any base t v := hval0
  have hW' := hW
  obtain ⟨p, q, hA0, hV0, rfl, hfz, hnd⟩ := hW
  have hA : DataW.TrodAll enc Tryd.prog W 0 (fun _ => true) true Tryd.f5.params.toList args.toList ds p := hA0
  have hV : DataW.TrodVars enc Tryd.prog W (fun _ => true) ["loop.example/g00216/impl.actForms"] gs q := hV0
  rw [Tryd.params5] at hA hval
  obtain ⟨v0, d0, rfl, rfl, h0⟩ := trodAll_one hA
  have k0 := h0
  have lt0 : ∀ x ∈ p, x.block < W.heap.size := by obtain ⟨m, hm⟩ := k0; exact DataW.trod_lt m _ _ _ hm
  obtain ⟨c0, l0, e0, rfl⟩ := okWide_slice Tryd.underlying36 (hval 0 36 v0 rfl rfl)
  obtain ⟨bl0, hb0, hby0⟩ : ∃ (z : Nat → Int), Byt l0 z ∧ BytesAt W c0 l0 z := by
    obtain ⟨fuel, hf⟩ := h0
    obtain ⟨a0, n0, cap0, z0, e0, e1, e2, e3, -⟩ := openBytes hf
    simp [Value.cells] at e0
    obtain ⟨rfl, rfl, rfl⟩ := e0
    exact ⟨z0, e2, e3⟩
  obtain ⟨hP, hvar⟩ := of_laid4 hL
  have hT := tab_of_var hvar
  obtain ⟨g, t, cs, fuel, d, p', rfl, hg, ht, hv, hd, rfl⟩ := trodVars_one hV
  obtain rfl := Option.some.inj (tForms.symm.trans (by rw [Option.some.inj (gForms.symm.trans hg)]; exact ht))
  obtain rfl : cs = cells16.toArray := Option.some.inj (hv.symm.trans hvar)
  obtain ⟨rfl, rfl⟩ := DataW.Trod.unique (v := .agg cells16.toArray) ⟨fuel, hd⟩ ⟨4, reads_forms enc W _⟩
  obtain rfl := Option.some.inj (gForms.symm.trans hg)
  clear hA0 hV0 hval0
  refine (actsLaw l0 bl0 c0 e0 W hb0 hby0 hT hP).mono fun e W' ⟨he, bel⟩ => ?_
  subst he
  exact ⟨_, rfl, _, _, _, [], _, _, hW', trodAll_mk1 (shut_bool Tryd.underlying4 _), trodAll_mk1 (Below.trod laidOut (by kernel_rfl) (of_decide_eq_true (by kernel_rfl)) k0 bel lt0), trodVars_mk1 hg ht (var_below hvar bel hT.1) (reads_forms enc W' _), bel.frame _, fun h => by cases h⟩
theorem over : Rows.FnActsSaid :=
  OpenClaim.holds_of_wide 5 Tryd.f5 rfl rfl rfl rfl rfl rfl rfl ⟨rfl, rfl, rfl, rfl, rfl⟩ rfl rfl rfl rfl rfl (by kernel_rfl) Tryd.func5 (by kernel_rfl)
    (of_decide_eq_true (by kernel_rfl)) (by unfold Func.isWrapper; first | (rw [if_pos (by decide +kernel)]; kernel_rfl) | (rw [if_neg (by decide +kernel)]; exact ⟨rfl, rfl⟩))
    (fun os started H enc _ => lifted os started H enc)
end FnActs
theorem fnActs_holds : Rows.FnActsCardSaid :=
  Claim7.holds_tied_plain_at .later [] [.data, .data, .data, .data] true Rows.fnActsCard.stood.harness Rows.fnActsCard.stood.looks
    FnActs.over (fun _ h => by cases h) (by kernel_rfl) (fun _ h => by cases h) fnActs_row_tie rfl ⟨rfl, rfl⟩ (by kernel_rfl) rfl
    (fun f fn hf hfn => by
      obtain rfl : f = 5 := Option.some.inj ((show Tryd.prog.funcNamed Rows.fnActsRow.func = some 5 by kernel_rfl).symm.trans hf) |>.symm
      obtain rfl : fn = Tryd.f5 := (Option.some.inj (Tryd.func5.symm.trans hfn)).symm
      exact ⟨by kernel_rfl, fun j t ht => by
        rw [Tryd.params5] at ht
        have h3 : t = 36 := by
          rcases j with _ | j
          · simpa using ht.symm
          · simp at ht
        subst h3
        exact (show Tryd.prog.wantsStandIn 36 = false by kernel_rfl)⟩)
    (by kernel_rfl)
#print axioms fnActs_holds
end Go.Proofs.YtiflheclfgloaaaDoor
