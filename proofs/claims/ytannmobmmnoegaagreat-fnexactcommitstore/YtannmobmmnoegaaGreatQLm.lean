/- spec.NewStore. -/
import Derived.Test.YtannmobmmnoegaaGreatQLh
import Derived.Test.YtannmobmmnoegaaGreatQDg
namespace Go.Proofs.YtannmobmmnoegaaGreat
open Go.RowKit Go.Deep
set_option linter.unusedVariables false
set_option maxRecDepth 20000
open Go.ChangeShapes Go.WideShapes Go.ChangeAt Go.RowKit Go.Deep Go.Joins

/-- joined of one piece that stands in cell 0 of block g. -/
theorem joined_one (g : Nat) (ra : Option Addr) (u rc : Nat) (z : Nat → Int) (w : World) (hu : u ≤ 90000) (hc : w.cell? ⟨g, 0, none⟩ = some (.slice ra u rc)) (hb : BytesAt w ra u z) :
    Calls Tryz.prog 130 #[.slice (some ⟨g, 0, none⟩) 1 1] w fun e w' => ∃ a cap, e = .returned (.slice a u cap) ∧ Below w.heap.size w w' ∧ OwnB w' w.heap.size w'.heap.size a u z := by
  refine (joined_any 1 (fun _ => ra) (fun _ => u) (fun _ => rc) (fun _ => z) g 0 1 w (by show 0 + u ≤ 90000; omega) (Go.block_lt_of_cell hc) (fun i hi => ⟨?_, hb⟩) (by omega)).mono ?_
  · obtain rfl : i = 0 := by omega
    exact hc
  · rintro e w' ⟨v, rfl, hb1, ho⟩
    have hj : jn (fun _ => u) (fun _ => z) 1 = zL z u := List.nil_append _
    rw [hj] at ho
    obtain ⟨a, cap, e, h⟩ := ownB_of_row ho
    rw [zL_len] at h e
    refine ⟨a, cap, by rw [e], hb1, ?_⟩
    obtain ⟨h0, h1 | ⟨b, off, ha, hl, hh, hcl, hfr⟩⟩ := h
    · exact ⟨h0, .inl h1⟩
    · exact ⟨h0, .inr ⟨b, off, ha, hl, hh, fun i hi => by rw [hcl i hi]; unfold zOf; rw [zL_get z u i hi], hfr⟩⟩
theorem l12Bad_any (c : Int) (w : World) : Calls Tryz.prog 31 #[.int .i64 c] w fun e w' => e = .returned (.agg #[.int .i64 c, .int .i64 0, .int .i64 0, .slice none 0 0, .slice none 0 0, .slice none 0 0, .slice none 0 0, .slice none 0 0, .slice none 0 0, .slice none 0 0]) ∧ Below w.heap.size w w' := by
  go_enter Tryz.func31, Tryz.ntmps31
  go_wp2_with fail
  refine bodyPost_ret (v := .agg #[.int .i64 c, .int .i64 0, .int .i64 0, .slice none 0 0, .slice none 0 0, .slice none 0 0, .slice none 0 0, .slice none 0 0, .slice none 0 0, .slice none 0 0]) (by simp [results, Tryz.results31, go_sem]) rfl ⟨rfl, ?_⟩
  repeat (first | with_reducible exact below_new _ _ | refine Below.setCell ?_ (by first | omega | (simp <;> omega)) _)
theorem WritesP.setCell {P : Nat → Prop} {w w' : World} (h : WritesP P w w') {p : Addr} (hp : P p.block) (v : Value) : WritesP P w (w'.setCell p v) :=
  ⟨h.os, h.tape, h.output, by simpa [World.setCell] using h.size, fun k hk hn => (Below.heap_setCell _ _ _ _ (fun e => hn (by rw [e]; exact hp))).trans (h.block k hk hn)⟩
end Go.Proofs.YtannmobmmnoegaaGreat
