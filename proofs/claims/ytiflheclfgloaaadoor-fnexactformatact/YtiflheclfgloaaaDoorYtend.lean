/- FnExactFormatAct: for every act the law returns true: impl.FormatAct answers as the model. The condition: the listed tables hold what the program's own text lays in them (the card ties them). -/
import Derived.Test.YtiflheclfgloaaaDoorYtec
import Derived.Test.YtiflheclfgloaaaDoorCards
import Derived.Test.YtiflheclfgloaaaDoorTie
import Derived.ShutString
import Derived.ChangeMaps5
import Derived.Stop.Joined
import Derived.JoinedOf
import Derived.Lib.SmallJoins
namespace Go.Proofs.YtiflheclfgloaaaDoor
namespace FnExactFormatAct
open Go.ChangeShapes Go.WideShapes Go.ChangeAt Go.RowKit Go.Deep
open Go.ChangeMaps (open_string shut_string)
set_option linter.unusedVariables false

theorem cellsAct : Tryd.prog.cellsOf 29 = 4 := by kernel_rfl
set_option maxRecDepth 100000 in
theorem lifted (os : Os) (started : os.Started) (H : Type) (enc : TypeId × Value → H) :
    ReturnsInHanded {} Tryd.checked os 4 .any (fun w args => (Rows.fnExactFormatActSpec.pre enc Tryd.prog Tryd.f4 [] false w args ∧ laidMetH Tryd.prog laid4 w) ∧ sizedMet enc Tryd.prog Tryd.f4 (OpenSpec.ofChange Rows.fnExactFormatActSpec) false w args)
      (Rows.fnExactFormatActSpec.post enc Tryd.prog Tryd.f4 false true false false) := by
  refine returnsInHanded_of_change_and (C := Tryd.checked) (X := fun w _ => laidMetH Tryd.prog laid4 w) (fun _ _ _ hh h => h.of_heap hh) own started (by kernel_rfl) Tryd.func4
    (ChangeSpec.witness_shaped (enc := enc) (C := Tryd.checked) (os := os) (X := fun w _ => laidMetH Tryd.prog laid4 w) false (World.doorLaid Tryd.prog 400 os) #[.agg #[.int .i64 0, .int .i64 0, .int .i64 0, .int .i64 0]] 8 rfl (World.shaped_of_RefB (by kernel_rfl) (by kernel_rfl)) (by kernel_rfl) (by kernel_rfl) (by kernel_rfl) (door_met4 os _)) ?_
  intro W base args ds gs before hval0 hW _ _ hL _
  have hval : ∀ (j : Nat) t v, Tryd.f4.params[j]? = some t → args[j]? = some v → Value.okWide Tryd.prog W .any base t v := hval0
  have hW' := hW
  obtain ⟨p, q, hA0, hV0, rfl, hfz, hnd⟩ := hW
  have hA : DataW.TrodAll enc Tryd.prog W 0 (fun _ => true) true Tryd.f4.params.toList args.toList ds p := hA0
  have hV : DataW.TrodVars enc Tryd.prog W (fun _ => true) ["loop.example/g00216/impl.actForms"] gs q := hV0
  rw [Tryd.params4] at hA hval
  obtain ⟨v0, d0, rfl, rfl, h0⟩ := trodAll_one hA
  have k0 := h0
  have lt0 : ∀ x ∈ p, x.block < W.heap.size := by obtain ⟨m, hm⟩ := k0; exact DataW.trod_lt m _ _ _ hm
  obtain ⟨va, vx, vy, vz, rfl⟩ : ∃ a b c d : Int, v0 = .agg #[.int .i64 a, .int .i64 b, .int .i64 c, .int .i64 d] := by
    obtain ⟨u0, u1, u2, u3, y0, y1, y2, y3, n, rfl, _, _, e0, e1, e2, e3⟩ := Go.Joins.open_agg4 Tryd.underlying29 (by kernel_rfl) cellsAct (hval 0 29 v0 rfl rfl) h0
    obtain ⟨a, ha, _, _⟩ := DataW.trod_int Tryd.underlying2 e0
    obtain ⟨b, hb, _, _⟩ := DataW.trod_int Tryd.underlying2 e1
    obtain ⟨c, hc, _, _⟩ := DataW.trod_int Tryd.underlying2 e2
    obtain ⟨d, hd, _, _⟩ := DataW.trod_int Tryd.underlying2 e3
    simp only [List.cons.injEq, and_true] at ha hb hc hd
    exact ⟨a, b, c, d, by rw [ha, hb, hc, hd]⟩
  obtain ⟨hP, hvar⟩ := of_laid4 hL
  have hT := tab_of_var hvar
  obtain ⟨g, t, cs, fuel, d, p', rfl, hg, ht, hv, hd, rfl⟩ := trodVars_one hV
  obtain rfl := Option.some.inj (tForms.symm.trans (by rw [Option.some.inj (gForms.symm.trans hg)]; exact ht))
  obtain rfl : cs = cells16.toArray := Option.some.inj (hv.symm.trans hvar)
  obtain ⟨rfl, rfl⟩ := DataW.Trod.unique (v := .agg cells16.toArray) ⟨fuel, hd⟩ ⟨4, reads_forms enc W _⟩
  obtain rfl := Option.some.inj (gForms.symm.trans hg)
  clear hA0 hV0 hval0
  refine (formatLaw va vx vy vz W hT hP).mono fun e W' ⟨he, bel⟩ => ?_
  subst he
  exact ⟨_, rfl, _, _, _, [], _, _, hW', trodAll_mk1 (shut_bool Tryd.underlying4 _), trodAll_mk1 (Below.trod laidOut (by kernel_rfl) (of_decide_eq_true (by kernel_rfl)) k0 bel lt0), trodVars_mk1 hg ht (var_below hvar bel hT.1) (reads_forms enc W' _), bel.frame _, fun h => by cases h⟩
theorem over : Rows.FnExactFormatActSaid :=
  OpenClaim.holds_of_wide 4 Tryd.f4 rfl rfl rfl rfl rfl rfl rfl ⟨rfl, rfl, rfl, rfl, rfl⟩ rfl rfl rfl rfl rfl (by kernel_rfl) Tryd.func4 (by kernel_rfl)
    (of_decide_eq_true (by kernel_rfl)) (by unfold Func.isWrapper; first | (rw [if_pos (by decide +kernel)]; kernel_rfl) | (rw [if_neg (by decide +kernel)]; exact ⟨rfl, rfl⟩))
    (fun os started H enc _ => lifted os started H enc)
end FnExactFormatAct
theorem fnExactFormatAct_holds : Rows.FnExactFormatActCardSaid :=
  Claim7.holds_tied_plain_at .later [] [.data, .data, .data, .data] true Rows.fnExactFormatActCard.stood.harness Rows.fnExactFormatActCard.stood.looks
    FnExactFormatAct.over (fun _ h => by cases h) (by kernel_rfl) (fun _ h => by cases h) fnExactFormatAct_row_tie rfl ⟨rfl, rfl⟩ (by kernel_rfl) rfl
    (fun f fn hf hfn => by
      obtain rfl : f = 4 := Option.some.inj ((show Tryd.prog.funcNamed Rows.fnExactFormatActRow.func = some 4 by kernel_rfl).symm.trans hf) |>.symm
      obtain rfl : fn = Tryd.f4 := (Option.some.inj (Tryd.func4.symm.trans hfn)).symm
      exact ⟨by kernel_rfl, fun j t ht => by
        rw [Tryd.params4] at ht
        have h3 : t = 29 := by
          rcases j with _ | j
          · simpa using ht.symm
          · simp at ht
        subst h3
        exact (show Tryd.prog.wantsStandIn 29 = false by kernel_rfl)⟩)
    (by kernel_rfl)
#print axioms fnExactFormatAct_holds
end Go.Proofs.YtiflheclfgloaaaDoor
