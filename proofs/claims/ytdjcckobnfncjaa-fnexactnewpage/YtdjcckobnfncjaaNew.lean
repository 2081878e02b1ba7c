/- NewPage: the walks. -/
import Derived.Test.YtdjcckobnfncjaaBox
namespace Go.Proofs.Ytdjcckobnfncjaa
open Go.RowKit Go.Deep

def newCode (a : Int) : Int := if 0 ≤ a ∧ a ≤ 7 then 0 else 3
def newId (a : Int) : Int := if 0 ≤ a ∧ a ≤ 7 then a else 0
theorem specNew_any (a0 : Int) (w : World) : Calls Try.prog 24 #[.int .i64 a0] w fun e w' =>
    e = .returned (.agg #[.int .i64 (newCode a0), .int .i64 (newId a0), .int .i64 0, .slice none 0 0]) ∧ Below w.heap.size w w' := by
  by_cases h : 0 ≤ a0 ∧ a0 ≤ 7
  · rw [newCode, newId, if_pos h, if_pos h]
    obtain ⟨h1, h2⟩ := h
    go_enter Try.func24, Try.ntmps24
    go_wp2
    exact bodyPost_ret (v := .agg #[.int .i64 0, .int .i64 a0, .int .i64 0, .slice none 0 0]) (by simp [results, Try.results24, go_sem]) rfl ⟨rfl, below_new _ _⟩
  · rw [newCode, newId, if_neg h, if_neg h]
    by_cases h1 : a0 < 0
    · clear h
      go_enter Try.func24, Try.ntmps24
      go_wp2
      exact bodyPost_ret (v := .agg #[.int .i64 3, .int .i64 0, .int .i64 0, .slice none 0 0]) (by simp [results, Try.results24, go_sem]) rfl ⟨rfl, below_new _ _⟩
    · have h2 : 7 < a0 := by omega
      have h3 : 0 ≤ a0 := by omega
      have h4 : decide (a0 ≤ 7) = false := by simp; omega
      clear h h1
      go_enter Try.func24, Try.ntmps24
      go_wp2
      exact bodyPost_ret (v := .agg #[.int .i64 3, .int .i64 0, .int .i64 0, .slice none 0 0]) (by simp [results, Try.results24, go_sem]) rfl ⟨rfl, below_new _ _⟩
theorem implNew_any (a0 : Int) (w : World) : Calls Try.prog 25 #[.int .i64 a0] w fun e w' =>
    e = .returned (.agg #[.int .i64 (newCode a0), .int .i64 (newId a0), .int .i64 0, .slice none 0 0]) ∧ Below w.heap.size w w' := by
  by_cases h : 0 ≤ a0 ∧ a0 ≤ 7
  · rw [newCode, newId, if_pos h, if_pos h]
    obtain ⟨h1, h2⟩ := h
    go_enter Try.func25, Try.ntmps25
    go_wp2
    exact bodyPost_ret (v := .agg #[.int .i64 0, .int .i64 a0, .int .i64 0, .slice none 0 0]) (by simp [results, Try.results25, go_sem]) rfl ⟨rfl, below_new _ _⟩
  · rw [newCode, newId, if_neg h, if_neg h]
    by_cases h1 : a0 < 0
    · clear h
      go_enter Try.func25, Try.ntmps25
      go_wp2
      exact bodyPost_ret (v := .agg #[.int .i64 3, .int .i64 0, .int .i64 0, .slice none 0 0]) (by simp [results, Try.results25, go_sem]) rfl ⟨rfl, below_new _ _⟩
    · have h2 : 7 < a0 := by omega
      have h3 : 0 ≤ a0 := by omega
      have h4 : decide (a0 ≤ 7) = false := by simp; omega
      clear h h1
      go_enter Try.func25, Try.ntmps25
      go_wp2
      exact bodyPost_ret (v := .agg #[.int .i64 3, .int .i64 0, .int .i64 0, .slice none 0 0]) (by simp [results, Try.results25, go_sem]) rfl ⟨rfl, below_new _ _⟩

set_option maxHeartbeats 1000000 in
theorem newLaw (a0 : Int) (w : World) :
    Calls Try.prog 5 #[.int .i64 a0] w fun e w' => e = .returned (.bool true) ∧ Below w.heap.size w w' := by
  go_enter Try.func5, Try.ntmps5
  go_wp2_with fail
  refine (specNew_any a0 _).mono ?_
  rintro e w1 ⟨rfl, hb⟩
  have hB : Below w.heap.size w w1 := hb
  have sw1 : Hid (w.heap.size ≤ w1.heap.size) := by have hq := hb.size; show w.heap.size ≤ w1.heap.size; omega
  clear hb
  go_wp2_with fail
  refine (implNew_any a0 _).mono ?_
  rintro e w2 ⟨rfl, hb⟩
  replace hB := below_then hB (below_then (below_new _ _) hb)
  have BW := (Box4.new w1 (.int .i64 (newCode a0)) (.int .i64 (newId a0)) (.int .i64 0) (.slice none 0 0) 29).below hb
  have sw2 : Hid (w1.heap.size < w2.heap.size) := by have hq := hb.size; simp at hq; show w1.heap.size < w2.heap.size; omega
  clear hb
  have TW := BW
  obtain ⟨qW0, qW1, qW2, qW3⟩ := TW
  have rW0 := fun o : Obj => cell_alloc qW0 o
  have rW1 := fun o : Obj => cell_alloc qW1 o
  have rW2 := fun o : Obj => cell_alloc qW2 o
  have rW3 := fun o : Obj => cell_alloc qW3 o
  go_wp2_with fail
  refine (eqPageResult_same (newCode a0) (newId a0) 0 0 (fun _ => 0) (fun _ => 0) none none 0 0 _ (by omega) (.inl rfl) (.inl rfl)).mono ?_
  rintro e w3 ⟨rfl, hb⟩
  clear qW0 qW1 qW2 qW3 rW0 rW1 rW2 rW3
  replace hB := below_then hB (below_then (below_new _ _) hb)
  replace BW := (BW.alloc _).below hb
  have BG := (Box4.new w2 (.int .i64 (newCode a0)) (.int .i64 (newId a0)) (.int .i64 0) (.slice none 0 0) 29).below hb
  have sw3 : Hid (w2.heap.size < w3.heap.size) := by have hq := hb.size; simp at hq; show w2.heap.size < w3.heap.size; omega
  clear hb
  have TG := BG
  obtain ⟨qG0, qG1, qG2, qG3⟩ := TG
  go_wp2_with fail
  refine (markPageResult_any (newCode a0) (newId a0) 0 0 (fun _ => 0) (fun _ => 0) none 0 w3.heap.size w3.heap.size _ (by omega) ⟨Nat.le_refl _, .inl rfl⟩).mono ?_
  rintro e w4 ⟨rfl, hw, -⟩
  clear qG0 qG1 qG2 qG3
  replace hB := Writes.below hB hw (by have t0 := sw1.out; have t1 := sw2.out; have t2 := sw3.out; omega)
  replace BW := BW.writes hw (by have t0 := sw1.out; have t1 := sw2.out; have t2 := sw3.out; omega)
  replace BG := BG.writes hw (by have t0 := sw1.out; have t1 := sw2.out; have t2 := sw3.out; omega)
  have sw4 : Hid (w3.heap.size ≤ w4.heap.size) := by have hq := hw.size; show w3.heap.size ≤ w4.heap.size; omega
  clear hw
  have TG := BG
  obtain ⟨qG0, qG1, qG2, qG3⟩ := TG
  go_wp2_with fail
  refine (heldPageResult_any (newCode a0) (newId a0) 0 0 none 0 _ (by omega) (.inl rfl)).mono ?_
  rintro e w5 ⟨rfl, hb⟩
  clear qG0 qG1 qG2 qG3
  replace hB := below_then hB hb
  replace BW := BW.below hb
  replace BG := BG.below hb
  have sw5 : Hid (w4.heap.size ≤ w5.heap.size) := by have hq := hb.size; show w4.heap.size ≤ w5.heap.size; omega
  clear hb
  go_wp2_with fail
  refine (implNew_any a0 _).mono ?_
  rintro e w6 ⟨rfl, hb⟩
  replace hB := below_then hB hb
  replace BW := BW.below hb
  replace BG := BG.below hb
  have sw6 : Hid (w5.heap.size ≤ w6.heap.size) := by have hq := hb.size; show w5.heap.size ≤ w6.heap.size; omega
  clear hb
  have TW := BW
  obtain ⟨qW0, qW1, qW2, qW3⟩ := TW
  have rW0 := fun o : Obj => cell_alloc qW0 o
  have rW1 := fun o : Obj => cell_alloc qW1 o
  have rW2 := fun o : Obj => cell_alloc qW2 o
  have rW3 := fun o : Obj => cell_alloc qW3 o
  go_wp2_with fail
  refine (eqPageResult_same (newCode a0) (newId a0) 0 0 (fun _ => 0) (fun _ => 0) none none 0 0 _ (by omega) (.inl rfl) (.inl rfl)).mono ?_
  rintro e w7 ⟨rfl, hb⟩
  clear qW0 qW1 qW2 qW3 rW0 rW1 rW2 rW3
  replace hB := below_then hB (below_then (below_new _ _) hb)
  replace BW := (BW.alloc _).below hb
  replace BG := (BG.alloc _).below hb
  have BH := (Box4.new w6 (.int .i64 (newCode a0)) (.int .i64 (newId a0)) (.int .i64 0) (.slice none 0 0) 29).below hb
  have sw7 : Hid (w6.heap.size < w7.heap.size) := by have hq := hb.size; simp at hq; show w6.heap.size < w7.heap.size; omega
  clear hb
  have TG := BG
  obtain ⟨qG0, qG1, qG2, qG3⟩ := TG
  go_wp2_with fail
  refine (heldPageResult_any (newCode a0) (newId a0) 0 0 none 0 _ (by omega) (.inl rfl)).mono ?_
  rintro e w8 ⟨rfl, hb⟩
  clear qG0 qG1 qG2 qG3
  replace hB := below_then hB hb
  replace BW := BW.below hb
  replace BG := BG.below hb
  replace BH := BH.below hb
  have sw8 : Hid (w7.heap.size ≤ w8.heap.size) := by have hq := hb.size; show w7.heap.size ≤ w8.heap.size; omega
  clear hb
  go_wp2_with fail
  go_ret
  exact ⟨rfl, hB⟩
end Go.Proofs.Ytdjcckobnfncjaa
