/- FnExactRecFault: the walk of the law; an argument of type laws.Rec, opened. -/
import Derived.Test.YtppckjecidcflaaSri
import Derived.Test.YtppckjecidcflaaOpen
namespace Go.Proofs.Ytppckjecidcflaa
open Go.ChangeShapes Go.WideShapes Go.ChangeAt Go.RowKit Go.Deep Go.Joins
set_option linter.unusedVariables false
set_option maxRecDepth 20000

theorem cells86 : Try.prog.cellsOf 26 = 8 := by kernel_rfl
theorem cells4 : Try.prog.cellsOf 4 = 1 := by kernel_rfl
theorem openRecs {H : Type} {enc : TypeId × Value → H} {W : World} {fuel : Nat} {cs : List Value} {x : DataW H × List MemPlace}
    (h : DataW.trod enc Try.prog W 0 (fun _ => true) true fuel 26 cs = some x) :
    ∃ (k t key : Int) (hd : Bool) (old : Int) (hs : Bool) (nw bk : Int), cs = [.int .i64 k, .int .i64 t, .int .i64 key, .bool hd, .int .i64 old, .bool hs, .int .i64 nw, .int .i64 bk] := by
  obtain ⟨xs, n, hn, hxy, hlen, hxl, hf⟩ := DataW.trod_struct Try.underlying26 h
  rw [cells86] at hlen
  match xs, hxl, cs, hlen with
  | [y0, y1, y2, y3, y4, y5, y6, y7], _, [v0, v1, v2, v3, v4, v5, v6, v7], _ =>
    have g0 := hf 0 _ rfl
    have g1 := hf 1 _ rfl
    have g2 := hf 2 _ rfl
    have g3 := hf 3 _ rfl
    have g4 := hf 4 _ rfl
    have g5 := hf 5 _ rfl
    have g6 := hf 6 _ rfl
    have g7 := hf 7 _ rfl
    simp [cells2, cells4] at g0 g1 g2 g3 g4 g5 g6 g7
    obtain ⟨z0, f0, _, _⟩ := DataW.trod_int Try.underlying2 g0
    obtain ⟨z1, f1, _, _⟩ := DataW.trod_int Try.underlying2 g1
    obtain ⟨z2, f2, _, _⟩ := DataW.trod_int Try.underlying2 g2
    obtain ⟨z3, f3, _⟩ := DataW.trod_bool Try.underlying4 g3
    obtain ⟨z4, f4, _, _⟩ := DataW.trod_int Try.underlying2 g4
    obtain ⟨z5, f5, _⟩ := DataW.trod_bool Try.underlying4 g5
    obtain ⟨z6, f6, _, _⟩ := DataW.trod_int Try.underlying2 g6
    obtain ⟨z7, f7, _, _⟩ := DataW.trod_int Try.underlying2 g7
    simp at f0 f1 f2 f3 f4 f5 f6 f7
    subst f0 f1 f2 f3 f4 f5 f6 f7
    exact ⟨z0, z1, z2, z3, z4, z5, z6, z7, rfl⟩
theorem openRec {H : Type} {enc : TypeId × Value → H} {W : World} {r : Reach} {b0 : Nat} {v : Value} {d : DataW H} {p : List MemPlace}
    (hv : Value.okWide Try.prog W r b0 26 v) (h : DataW.Trod enc Try.prog W 0 (fun _ => true) true 26 v d p) :
    ∃ (k t key : Int) (hd : Bool) (old : Int) (hs : Bool) (nw bk : Int), v = .agg #[.int .i64 k, .int .i64 t, .int .i64 key, .bool hd, .int .i64 old, .bool hs, .int .i64 nw, .int .i64 bk] := by
  obtain ⟨cs, rfl, hsz⟩ := okWide_struct Try.underlying26 hv
  obtain ⟨fuel, hf⟩ := h
  obtain ⟨k, t, key, hd, old, hs, nw, bk, e⟩ := openRecs hf
  refine ⟨k, t, key, hd, old, hs, nw, bk, ?_⟩
  have : cs.toList = [.int .i64 k, .int .i64 t, .int .i64 key, .bool hd, .int .i64 old, .bool hs, .int .i64 nw, .int .i64 bk] := by simpa [Value.cells] using e
  rw [← Array.toArray_toList (xs := cs), this]
set_option maxHeartbeats 400000 in
theorem toRec_any (k t key : Int) (hd : Bool) (old : Int) (hs : Bool) (nw bk : Int) (w : World) : Calls Try.prog 9 #[.agg #[.int .i64 k, .int .i64 t, .int .i64 key, .bool hd, .int .i64 old, .bool hs, .int .i64 nw, .int .i64 bk]] w fun e w' =>
    e = .returned (.agg #[.int .i64 k, .int .i64 t, .int .i64 key, .bool hd, .int .i64 old, .bool hs, .int .i64 nw, .int .i64 bk]) ∧ Below w.heap.size w w' := by
  have hb0 : ∀ o1 o2, Below w.heap.size w ((w.alloc o1).alloc o2) := fun o1 o2 => ((Below.refl _ _).alloc (Nat.le_refl _) _).alloc (by simp) _
  go_enter Try.func9, Try.ntmps9
  go_wp2_with fail
  refine bodyPost_ret (v := .agg #[.int .i64 k, .int .i64 t, .int .i64 key, .bool hd, .int .i64 old, .bool hs, .int .i64 nw, .int .i64 bk]) (by simp [results, Try.results9, go_sem]) rfl ⟨rfl, ?_⟩
  repeat (first | exact hb0 _ _ | apply Below.drew | refine Below.setCell ?_ (by first | omega | (simp <;> omega)) _ | refine Below.alloc ?_ (by first | omega | (simp <;> omega)) _)
end Go.Proofs.Ytppckjecidcflaa
