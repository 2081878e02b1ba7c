/- The table of forms: what its datum says of its cells; how it reads. -/
import Derived.Test.YtiflheclfgloaaaDoorYsh
import Derived.LaidMore
import Derived.OpenShut
import Derived.ChangeVars
import Derived.Carry
namespace Go.Proofs.YtiflheclfgloaaaDoor
open Go.ChangeShapes Go.WideShapes Go.ChangeAt Go.RowKit Go.Deep
set_option linter.unusedVariables false
set_option maxRecDepth 100000

theorem gForms : Tryd.prog.globalNamed "loop.example/g00216/impl.actForms" = some 0 := by kernel_rfl
theorem tForms : (Tryd.prog.globals[0]?).map (·.type) = some 57 := by kernel_rfl
theorem cSt : Tryd.prog.cellsOf 9 = 1 := by kernel_rfl
theorem cIn : Tryd.prog.cellsOf 3 = 1 := by kernel_rfl
theorem cFm : Tryd.prog.cellsOf 56 = 2 := by kernel_rfl
theorem cTb : Tryd.prog.cellsOf 57 = 16 := by kernel_rfl
def formsD {H : Type} : DataW H := .agg ((List.range 8).map fun k => .agg [.lit (.string (fw k).data.toList), .lit (.int .i64 (fc k))])
theorem forms_eq {H : Type} : (Rows.laid_loop_example_g00216_impl_actForms : DataW H) = formsD := by rfl
def cells16 : List Value := [.string (fw 0), .int .i64 (fc 0), .string (fw 1), .int .i64 (fc 1), .string (fw 2), .int .i64 (fc 2), .string (fw 3), .int .i64 (fc 3), .string (fw 4), .int .i64 (fc 4), .string (fw 5), .int .i64 (fc 5), .string (fw 6), .int .i64 (fc 6), .string (fw 7), .int .i64 (fc 7)]
theorem form_cells {H : Type} {enc : TypeId × Value → H} {W : World} {base : Nat} {sp : Nat → Bool} {held : Bool} {m k : Nat} {c0 c1 : Value} {x : DataW H × List MemPlace}
    (h : DataW.trod enc Tryd.prog W base sp held m 56 [c0, c1] = some x) (hx : x.1 = .agg [.lit (.string (fw k).data.toList), .lit (.int .i64 (fc k))]) : c0 = .string (fw k) ∧ c1 = .int .i64 (fc k) := by
  obtain ⟨y0, y1, n, rfl, _, h0, h1⟩ := trod_struct2 Tryd.underlying56 h
  simp only [cSt, cIn, List.drop_zero, List.take_succ_cons, List.take_zero, List.drop_succ_cons] at h0 h1
  obtain ⟨s, e0, e1, _⟩ := DataW.trod_string Tryd.underlying9 h0
  obtain ⟨q, e2, e3, _⟩ := DataW.trod_int Tryd.underlying3 h1
  subst e1 e3
  simp only [DataW.agg.injEq, List.cons.injEq, DataW.lit.injEq, Lit.string.injEq, Lit.int.injEq, true_and, and_true] at hx
  have hs := Go.WideShapes.bytes_inj hx.1
  simp only [List.cons.injEq, and_true] at e0 e2
  exact ⟨by rw [e0, hs], by rw [e2, hx.2]⟩
theorem cells_of_trod {H : Type} {enc : TypeId × Value → H} {W : World} {base fuel : Nat} {sp : Nat → Bool} {held : Bool} {cs : List Value} {p : List MemPlace}
    (hd : DataW.trod enc Tryd.prog W base sp held fuel 57 cs = some (formsD, p)) : cs = cells16 := by
  obtain ⟨xs, m, rfl, hx, hlen, hn, hel⟩ := DataW.trod_array Tryd.underlying57 hd
  rw [cTb] at hlen
  simp only [cFm] at hel
  simp only [Prod.mk.injEq, formsD, DataW.agg.injEq] at hx
  have hx2 : ∀ k, k < 8 → ∃ y, xs[k]? = some y ∧ y.1 = .agg [.lit (.string (fw k).data.toList), .lit (.int .i64 (fc k))] := fun k hk => by
    obtain ⟨y, hy⟩ : ∃ y, xs[k]? = some y := ⟨_, List.getElem?_eq_getElem (by omega)⟩
    refine ⟨y, hy, ?_⟩
    have h := congrArg (fun l => l[k]?) hx.1
    simp only [List.getElem?_map, hy, Option.map_some] at h
    rw [List.getElem?_range hk] at h
    simpa using h.symm
  match cs, hlen with
  | [c0, c1, c2, c3, c4, c5, c6, c7, c8, c9, c10, c11, c12, c13, c14, c15], _ =>
    obtain ⟨y0, i0, j0⟩ := hx2 0 (by decide)
    obtain ⟨y1, i1, j1⟩ := hx2 1 (by decide)
    obtain ⟨y2, i2, j2⟩ := hx2 2 (by decide)
    obtain ⟨y3, i3, j3⟩ := hx2 3 (by decide)
    obtain ⟨y4, i4, j4⟩ := hx2 4 (by decide)
    obtain ⟨y5, i5, j5⟩ := hx2 5 (by decide)
    obtain ⟨y6, i6, j6⟩ := hx2 6 (by decide)
    obtain ⟨y7, i7, j7⟩ := hx2 7 (by decide)
    obtain ⟨rfl, rfl⟩ := form_cells ((hel 0 (by decide)).trans i0) j0
    obtain ⟨rfl, rfl⟩ := form_cells ((hel 1 (by decide)).trans i1) j1
    obtain ⟨rfl, rfl⟩ := form_cells ((hel 2 (by decide)).trans i2) j2
    obtain ⟨rfl, rfl⟩ := form_cells ((hel 3 (by decide)).trans i3) j3
    obtain ⟨rfl, rfl⟩ := form_cells ((hel 4 (by decide)).trans i4) j4
    obtain ⟨rfl, rfl⟩ := form_cells ((hel 5 (by decide)).trans i5) j5
    obtain ⟨rfl, rfl⟩ := form_cells ((hel 6 (by decide)).trans i6) j6
    obtain ⟨rfl, rfl⟩ := form_cells ((hel 7 (by decide)).trans i7) j7
    rfl
theorem tab_of_var {W : World} (h : W.var? Tryd.prog "loop.example/g00216/impl.actForms" = some cells16.toArray) : TabAt W := by
  have hc := World.var?_cell gForms h
  refine ⟨Go.block_lt_of_cell (by rw [hc 0]; rfl), fun k hk => ?_⟩
  rw [hc, hc]
  match k, hk with
  | 0, _ => exact ⟨rfl, rfl⟩
  | 1, _ => exact ⟨rfl, rfl⟩
  | 2, _ => exact ⟨rfl, rfl⟩
  | 3, _ => exact ⟨rfl, rfl⟩
  | 4, _ => exact ⟨rfl, rfl⟩
  | 5, _ => exact ⟨rfl, rfl⟩
  | 6, _ => exact ⟨rfl, rfl⟩
  | 7, _ => exact ⟨rfl, rfl⟩
theorem reads_forms {H : Type} (enc : TypeId × Value → H) (W : World) (sp : Nat → Bool) : DataW.trod enc Tryd.prog W 0 sp true 4 57 cells16 = some (formsD, []) := by kernel_rfl
theorem var_below {W W' : World} {cs : Array Value} (h : W.var? Tryd.prog "loop.example/g00216/impl.actForms" = some cs) (hb : Below W.heap.size W W') (h0 : 0 < W.heap.size) : W'.var? Tryd.prog "loop.example/g00216/impl.actForms" = some cs := by
  simp only [World.var?, gForms, Option.bind_some] at h ⊢
  rw [hb.block 0 h0]
  exact h
end Go.Proofs.YtiflheclfgloaaaDoor
