/- FnExactAppendRec: the law. -/
import Derived.Test.YtppckjecidcflaaQArl
import Derived.Test.YtppckjecidcflaaQAp
namespace Go.Proofs.Ytppckjecidcflaa
open Go.RowKit Go.Deep
set_option linter.unusedVariables false

theorem appendRecLaw (L : Lo) (a1 a2 : Option Addr) (c1 c2 : Nat) (k t key : Int) (hd : Bool) (old : Int) (hs : Bool) (nw bk : Int) (w : World) (hn1 : L.n1 ≤ 9223372036854775807) (hn2 : L.n2 ≤ 9223372036854775807) (hby : LogByt L) (HA0 : LogAt w a1 a2 L) :
    Calls Try.prog 3 #[.agg #[.slice a1 L.n1 c1, .slice a2 L.n2 c2], .agg #[.int .i64 k, .int .i64 t, .int .i64 key, .bool hd, .int .i64 old, .bool hs, .int .i64 nw, .int .i64 bk]] w fun e w' => e = .returned (.bool true) ∧ Below w.heap.size w w' := by
  have hk : (apL L (rf k t key hd old hs nw bk) (rb k t key hd old hs nw bk)).n1 ≤ 1048576 ∧ (apL L (rf k t key hd old hs nw bk) (rb k t key hd old hs nw bk)).n2 ≤ 1048576 := by
    unfold apL
    by_cases h : apC L (rf k t key hd old hs nw bk) = 0
    · rw [if_pos h]
      have h0 : lgC L = 0 := by
        by_cases e : lgC L = 0
        · exact e
        · rw [(ap_log [] e).1] at h; exact h
      have h1 := (lgC_zero h0).1
      exact ⟨by show L.n1 ≤ 1048576; omega, by show L.n2 + 13 ≤ 1048576; omega⟩
    · rw [if_neg h]
      exact ⟨by show 0 ≤ 1048576; omega, by show 0 ≤ 1048576; omega⟩
  exact appendRecLaw_small L a1 a2 c1 c2 k t key hd old hs nw bk w hn1 hn2 HA0 (apC L (rf k t key hd old hs nw bk)) (apS L (rf k t key hd old hs nw bk)) (apL L (rf k t key hd old hs nw bk) (rb k t key hd old hs nw bk)) hk.1 hk.2 (fun h1 h2 a1 a2 w h => specAr_any L a1 a2 L.n1 L.n2 k t key hd old hs nw bk w h1 h2 hby h) (fun h1 h2 a1 a2 w h => implAr_any L a1 a2 L.n1 L.n2 k t key hd old hs nw bk w h1 h2 hby h)
end Go.Proofs.Ytppckjecidcflaa
