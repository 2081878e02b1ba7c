/- The program's decimal; words joined by blanks; a line of words. -/
import Derived.Test.YtfipdkhbehfohaaDoorYta
import Derived.Test.YtfipdkhbehfohaaDoorBox
import Derived.Lib.AppendIntMem
import Derived.Lib.Join
namespace Go.Proofs.YtfipdkhbehfohaaDoor
open Go.RowKit Go.Deep
set_option linter.unusedVariables false
set_option maxRecDepth 20000

/-- The table of powers. -/
def PowAt (w : World) : Prop := Lib.TabIs Tryd.prog w "internal/strconv.uint64pow10" .u64 Lib.pow10Tab
theorem var_stay {P : Program} {n : String} {W W' : World} {cs : Array Value} (h : W.var? P n = some cs) (hb : Below W.heap.size W W') : W'.var? P n = some cs := by
  unfold World.var? at h ⊢
  cases hg : P.globalNamed n with
  | none => rw [hg] at h; simp at h
  | some g =>
    rw [hg] at h
    simp only [Option.bind_some] at h ⊢
    have hlt : g < W.heap.size := by
      rcases Nat.lt_or_ge g W.heap.size with h1 | h1
      · exact h1
      · rw [Array.getElem?_eq_none h1] at h
        simp at h
    rw [hb.block g hlt]
    exact h
theorem PowAt.below {w w' : World} (h : PowAt w) (hb : Below w.heap.size w w') : PowAt w' := var_stay h hb
theorem decimal_any (n : Nat) (hn : n ≤ 9223372036854775807) (w : World) (hp : PowAt w) : Calls Tryd.prog 14 #[.int .i64 n] w fun e w' => e = .returned (.string (dg n)) ∧ Below w.heap.size w w' := by
  have HP : Hid (PowAt w) := hp
  clear hp
  go_enter Tryd.func14, Tryd.ntmps14
  go_wp2_with fail
  refine (Tryd.strconv_FormatInt_10 n (by omega) (by omega) _ HP.out).mono ?_
  rintro e w1 ⟨rfl, k, os, rfl⟩
  have HB : Hid (Below w.heap.size w (Sort.grow (w.drewN k) os)) := Lib.below_grow _ _ (Nat.le_refl _) k os
  have HG : Hid ((⟨(Lib.itoa (n : Int)).toArray⟩ : ByteArray) = dg n) := by show (⟨(Lib.itoa (n : Int)).toArray⟩ : ByteArray) = dg n; rw [Lib.itoa_nonneg]; rfl
  rw [HG.out]
  go_wp2_with fail
  go_ret
  exact ⟨rfl, HB.out⟩
def blk : ByteArray := ⟨#[32]⟩
def txt (L : List ByteArray) : ByteArray := ⟨(Lib.join (L.map (·.data.toList)) blk.data.toList).toArray⟩
theorem ba_append (a b : ByteArray) : a ++ b = ⟨(a.data.toList ++ b.data.toList).toArray⟩ := by
  obtain ⟨⟨x⟩⟩ := a
  obtain ⟨⟨y⟩⟩ := b
  rw [ByteArray.mk_append_mk]
theorem txt_one (x : ByteArray) : txt [x] = x := by simp only [txt, List.map_cons, List.map_nil, Lib.join_one]
theorem txt_two (x y : ByteArray) : txt [x, y] = x ++ blk ++ y := by
  simp only [txt, List.map_cons, List.map_nil, Lib.join_cons, Lib.joinTail]
  rw [ba_append, ba_append]
  simp
end Go.Proofs.YtfipdkhbehfohaaDoor
