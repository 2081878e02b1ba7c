/- Records in bytes: impl.flagsOf, putNumbers, putRec. -/
import Derived.Test.YtldnfiadafmomaaSp
import Derived.Test.YtldnfiadafmomaaRf
namespace Go.Proofs.Ytldnfiadafmomaa
open Go.RowKit Go.Deep
set_option linter.unusedVariables false
set_option maxRecDepth 20000

def fl (hd hs : Bool) : Int := (if hd = true then 1 else 0) + (if hs = true then 2 else 0)
theorem fl_bd (hd hs : Bool) : 0 ≤ fl hd hs ∧ fl hd hs ≤ 3 := by cases hd <;> cases hs <;> simp [fl]
/-- The first k of the numbers, in so many bytes each. -/
def cat (F : Nat → Int) (wd : Nat) : Nat → List Int
  | 0 => []
  | k + 1 => cat F wd k ++ nb (F k) wd
theorem cat_len (F : Nat → Int) (wd : Nat) : ∀ k, (cat F wd k).length = k * wd
  | 0 => by simp [cat]
  | k + 1 => by simp [cat, cat_len F wd k, nb_len, Nat.succ_mul]
end Go.Proofs.Ytldnfiadafmomaa
