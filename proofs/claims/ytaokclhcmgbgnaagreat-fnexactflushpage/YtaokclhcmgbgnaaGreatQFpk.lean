/- spec.FlushPage; what is answered is short. -/
import Derived.Test.YtaokclhcmgbgnaaGreatQFph
import Derived.Test.YtaokclhcmgbgnaaGreatQFpe
import Derived.Test.YtaokclhcmgbgnaaGreatQZec
namespace Go.Proofs.YtaokclhcmgbgnaaGreat
open Go.ChangeShapes Go.WideShapes Go.ChangeAt Go.RowKit Go.Deep Go.Joins
set_option linter.unusedVariables false
set_option linter.unusedSimpArgs false
set_option maxRecDepth 20000

theorem fp_few (t : Sto) (x : Int) : FewS (fpT t x) := by
  unfold fpT
  by_cases c : fpC t x = 0
  · rw [if_pos c]
    by_cases h0 : stF t = 0
    · have hG := stF_good h0
      have hd := goodD_of hG.df
      have hq := (lgC_zero hG.lg).1
      have hg : (fpG t x.toNat).n1 + (fpG t x.toNat).n2 ≤ 4000 := by
        unfold fpG
        split
        · unfold flL
          split
          · show t.g.n1 + t.g.n2 + 0 ≤ 4000
            omega
          · exact Nat.zero_le _
        · exact hq
      have ho : t.on ≤ 999 := by have := onF_few hG.nx.2 hG.on; omega
      have hn : (0 : Int) < (t.d.n : Int) := by have := hd.n1; omega
      unfold fpS fpD
      by_cases hm : 57 < t.d.m
      · rw [if_pos hm]
        have hf := few_of (t := ⟨t.nx, t.pn, t.pT, ⟨t.d.n, fun _ => 48, stl t.d idF t.d.m, 3, fun _ => 0, fun _ => 0, fun _ => 16, fun _ _ => 0⟩, fpG t x.toNat, t.hn, t.hK, t.hV, t.on, t.oF⟩) hG.pn hG.cells ⟨hd.n1, hd.n8, fun _ _ => rfl, (by decide : 3 ≤ 60), fun _ _ => ⟨Int.le_refl _, hn⟩, fun _ _ => ⟨Int.le_refl _, (by decide : (0 : Int) ≤ 2)⟩, fun _ _ => rfl⟩ hg (hdF_few hG.hd) ho
        exact ⟨⟨hf.1.1, ⟨hf.1.2.1.1, hf.1.2.1.2, hf.1.2.1.3, hf.1.2.1.4, hf.1.2.1.5, hf.1.2.1.6⟩, hf.1.2.2⟩, hf.2⟩
      · rw [if_neg hm]
        have hf := few_of (t := ⟨t.nx, t.pn, t.pT, ⟨t.d.n, fun _ => 48, t.d.Z, t.d.m + 3, fun _ => 0, fun _ => 0, fun _ => 16, fun _ _ => 0⟩, fpG t x.toNat, t.hn, t.hK, t.hV, t.on, t.oF⟩) hG.pn hG.cells ⟨hd.n1, hd.n8, fun _ _ => rfl, (by omega : t.d.m + 3 ≤ 60), fun _ _ => ⟨Int.le_refl _, hn⟩, fun _ _ => ⟨Int.le_refl _, (by decide : (0 : Int) ≤ 2)⟩, fun _ _ => rfl⟩ hg (hdF_few hG.hd) ho
        exact ⟨⟨hf.1.1, ⟨hf.1.2.1.1, hf.1.2.1.2, hf.1.2.1.3, hf.1.2.1.4, hf.1.2.1.5, hf.1.2.1.6⟩, hf.1.2.2⟩, hf.2⟩
    · rw [fpC_not h0] at c
      exact absurd c h0
  · rw [if_neg c]
    exact zSt_few
end Go.Proofs.YtaokclhcmgbgnaaGreat
