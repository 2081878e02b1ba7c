/- Drawn regions whose makers come in any order: an invariant over what is listed. -/
import Derived.Test.YtaokclhcmgbgnaaGreatQWae
namespace Go
section
variable {P : Program} {ops : Array Oper} {Q : Exit → Act → World → Prop} {md : Region.Mode} {S : World → Prop}
theorem count_set (l : Array Bool) {i : Nat} (h : l.getD i true = false) : (l.setIfInBounds i true).toList.count false + 1 = l.toList.count false := by
  have hi : i < l.size := by
    by_cases hi : i < l.size
    · exact hi
    · simp [Array.getD, hi] at h
  have he : l[i] = false := by simpa [Array.getD, hi] using h
  have this : l.toList[i]'(by simpa using hi) = false := by simpa using he
  have hc : 0 < l.toList.count false := List.count_pos_iff.2 (by rw [← this]; exact List.getElem_mem _)
  have h1 : (l.setIfInBounds i true).toList = l.toList.set i true := by simp
  have h2 := List.count_set (l := l.toList) (a := true) (b := false) (i := i) (by simpa using hi)
  rw [h1, h2, this]
  have e1 : (if ((false : Bool) == false) = true then 1 else 0) = 1 := rfl
  have e2 : (if ((true : Bool) == false) = true then 1 else 0) = 0 := rfl
  rw [e1, e2]
  omega
/-- From what is listed on: whatever is ready is done and keeps the invariant. -/
theorem wpAnyE_inv {L : Nat} (Inv : Array Bool → Act → World → Prop) (hS : ∀ l a w, Inv l a w → S w)
    (hstep : ∀ l a w i o, Inv l a w → ops[i]? = some o → l.getD i true = false → (∀ e ∈ o.after, Region.binds md e = true → l.getD e.on false = true) → wpOp P ops Q i (fun a' w' => Inv (l.setIfInBounds i true) a' w') a w)
    (hend : ∀ l a w, Inv l a w → Region.ready md ops l = [] → Q .normal a w) (hz : ∀ l a w, Inv l a w → l.toList.count false = 0 → Region.ready md ops l = []) :
    ∀ (fuel : Nat) (l : Array Bool) (a : Act) (w : World), l.toList.count false ≤ fuel → Inv l a w → wpAnyE P md ops Q S L fuel l a w
  | 0, l, a, w, hc, hI => ⟨hz l a w hI (by omega), hend l a w hI (hz l a w hI (by omega))⟩
  | fuel + 1, l, a, w, hc, hI => by
    refine ⟨fun h => hend l a w hI h, fun i hi => ?_⟩
    obtain ⟨hun, o, ho, hall⟩ := mem_ready.1 hi
    refine wpOp_mono (fun a' w' h' => ⟨fun _ => hS _ _ _ h', wpAnyE_inv Inv hS hstep hend hz fuel _ a' w' ?_ h'⟩) (hstep l a w i o hI ho hun hall)
    have := count_set l hun
    omega
theorem ready_mem {i : Nat} {o : Oper} {l : Array Bool} (ho : ops[i]? = some o) (hu : l.getD i true = false) (h : ∀ e ∈ o.after, Region.binds md e = true → l.getD e.on false = true) : Region.ready md ops l ≠ [] := fun e => by
  have := mem_ready.2 ⟨hu, o, ho, h⟩
  rw [e] at this
  cases this
end
end Go
