/- PurgeEngine and GarbageOf: how many versions an engine has; what they answer. -/
import Derived.Test.YtabkgncnanlapaaGreatQPgb
import Derived.Test.YtabkgncnanlapaaGreatQWae
import Derived.Test.YtabkgncnanlapaaGreatQOa
import Derived.Test.YtabkgncnanlapaaGreatQCa
import Derived.Test.YtabkgncnanlapaaGreatQVg
import Derived.Test.YtabkgncnanlapaaGreatQKz
import Derived.Test.YtabkgncnanlapaaGreatQNa
import Derived.Test.YtabkgncnanlapaaGreatQNc
import Derived.Test.YtabkgncnanlapaaGreatQFf
import Derived.Test.YtabkgncnanlapaaGreatQGi
namespace Go.Proofs.YtabkgncnanlapaaGreat
open Go.RowKit Go.Deep
set_option linter.unusedVariables false
set_option linter.unusedSimpArgs false
set_option maxRecDepth 20000

theorem smf_few9 (f : Nat → Nat) (c : Nat) : ∀ n, (∀ i, i < n → f i ≤ c) → smf f n ≤ n * c
  | 0, _ => Nat.zero_le _
  | n + 1, h => by
    have h1 := smf_few9 f c n fun i hi => h i (by omega)
    have h2 := h n (by omega)
    have e : smf f (n + 1) = smf f n + f n := rfl
    rw [e, Nat.succ_mul]
    omega
theorem small_few9 {E : En} (h1 : E.p ≤ 20) (h2 : E.q ≤ 32) (h3 : ∀ i, i < E.p → (E.T i).n ≤ 60) (h4 : ∀ i, i < E.q → (E.R i).n ≤ 12) : SmallE E := by
  have g1 := smf_few9 (fun i => (E.T i).n) 60 E.p h3
  have g2 := smf_few9 (fun i => (E.R i).n) 12 E.q h4
  have g3 : E.p * 60 ≤ 20 * 60 := Nat.mul_le_mul_right _ h1
  have g4 : E.q * 12 ≤ 32 * 12 := Nat.mul_le_mul_right _ h2
  exact ⟨by omega, by omega, fun i hi => by have := h3 i hi; omega, fun i hi => by have := h4 i hi; omega, by unfold smTx; omega, by unfold smRw; omega⟩
theorem eres_bad2 {c : Int} {w w' : World} (hb : Below w.heap.size w w') : ERes2 c 0 zEn w (.returned (.agg #[.int .i64 c, .int .i64 0, .int .i64 0, .int .i64 0, .slice none 0 0, .slice none 0 0])) w' := by
  obtain ⟨a, cap, a', cap', h1, h2, h3⟩ := eres_bad (c := c) hb
  exact ⟨a, cap, a', cap', h1, h2, h3.to2⟩
end Go.Proofs.YtabkgncnanlapaaGreat
