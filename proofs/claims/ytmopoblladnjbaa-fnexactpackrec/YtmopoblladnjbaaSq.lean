/- spec.PackRec. -/
import Derived.Test.YtmopoblladnjbaaSl0
import Derived.Test.YtmopoblladnjbaaSl1
import Derived.Test.YtmopoblladnjbaaSl2
import Derived.Test.YtmopoblladnjbaaSl3
import Derived.Test.YtmopoblladnjbaaBh
import Derived.Test.YtmopoblladnjbaaSri
namespace Go.Proofs.Ytmopoblladnjbaa
open Go.RowKit Go.Deep
set_option linter.unusedVariables false
set_option maxRecDepth 20000

theorem specL3_any (k t key : Int) (hd : Bool) (old : Int) (hs : Bool) (nw bk : Int) (w : World) (g : GoodR k t key hd old hs nw bk) :
    Calls Try.prog 152 #[.agg #[.int .i64 k, .int .i64 t, .int .i64 key, .bool hd, .int .i64 old, .bool hs, .int .i64 nw, .int .i64 bk]] w fun e w' => ∃ v, e = .returned v ∧ Below w.heap.size w w' ∧ w'.ownsRow w.heap.size 5 1 v (rb k t key hd old hs nw bk).length (bl (rb k t key hd old hs nw bk)) ∧ v ≠ .slice none 0 0 := by
  cases hd <;> cases hs
  · exact specL3_0 k t key old nw bk w g
  · exact specL3_2 k t key old nw bk w g
  · exact specL3_1 k t key old nw bk w g
  · exact specL3_3 k t key old nw bk w g
set_option maxHeartbeats 2000000 in
theorem specPr_any (k t key : Int) (hd : Bool) (old : Int) (hs : Bool) (nw bk : Int) (w : World) :
    Calls Try.prog 67 #[.agg #[.int .i64 k, .int .i64 t, .int .i64 key, .bool hd, .int .i64 old, .bool hs, .int .i64 nw, .int .i64 bk]] w (BRes (rf k t key hd old hs nw bk) (rb k t key hd old hs nw bk) w) := by
  have hb0 : ∀ o1 o2, Below w.heap.size w ((w.alloc o1).alloc o2) := fun o1 o2 => ((Below.refl _ _).alloc (Nat.le_refl _) _).alloc (by simp) _
  by_cases h0 : rf k t key hd old hs nw bk = 0
  · have HG : Hid (GoodR k t key hd old hs nw bk) := goodR_of k t key hd old hs nw bk h0
    have E : Hid (rf k t key hd old hs nw bk = 0) := h0
    go_enter Try.func67, Try.ntmps67
    go_wp2_with fail
    refine (specRf_any k t key hd old hs nw bk _).mono ?_
    rintro e w1 ⟨rfl, hb1⟩
    rw [h0]
    obtain ⟨hc, hf⟩ := bcell hb1
    have hz : w.heap.size + 1 < w1.heap.size := by have hq := hb1.size; simp at hq; omega
    have k0 : w1.cell? ⟨w.heap.size, 0, none⟩ = some (.int .i64 k) := by rw [hc _ _ (by simp <;> omega)]; simp [go_sem]
    have k1 : w1.cell? ⟨w.heap.size, 1, none⟩ = some (.int .i64 t) := by rw [hc _ _ (by simp <;> omega)]; simp [go_sem]
    have k2 : w1.cell? ⟨w.heap.size, 2, none⟩ = some (.int .i64 key) := by rw [hc _ _ (by simp <;> omega)]; simp [go_sem]
    have k3 : w1.cell? ⟨w.heap.size, 3, none⟩ = some (.bool hd) := by rw [hc _ _ (by simp <;> omega)]; simp [go_sem]
    have k4 : w1.cell? ⟨w.heap.size, 4, none⟩ = some (.int .i64 old) := by rw [hc _ _ (by simp <;> omega)]; simp [go_sem]
    have k5 : w1.cell? ⟨w.heap.size, 5, none⟩ = some (.bool hs) := by rw [hc _ _ (by simp <;> omega)]; simp [go_sem]
    have k6 : w1.cell? ⟨w.heap.size, 6, none⟩ = some (.int .i64 nw) := by rw [hc _ _ (by simp <;> omega)]; simp [go_sem]
    have k7 : w1.cell? ⟨w.heap.size, 7, none⟩ = some (.int .i64 bk) := by rw [hc _ _ (by simp <;> omega)]; simp [go_sem]
    have r0 : w1.cell? ⟨w.heap.size + 1, 0, none⟩ = some (.int .i64 0) := by simp [hc]
    have r1 : w1.cell? ⟨w.heap.size + 1, 1, none⟩ = some (.slice none 0 0) := by simp [hc]
    have f0 : ∀ i, w1.frozen? ⟨w.heap.size + 1, i, none⟩ = false := fun i => by simp [hf, go_sem]
    have HB : Hid (Below w.heap.size w w1) := below_then (hb0 _ _) hb1
    clear h0 hc hf hb1 hb0
    go_wp2_with fail
    refine (specL3_any k t key hd old hs nw bk w1 HG.out).mono ?_
    rintro e w3 ⟨v3, rfl, hb3, hown3, hne3⟩
    obtain ⟨a3, cap3, rfl, ho3⟩ := ownB_of_row hown3
    have t0 := cell_below r0 hb3
    have t1 := cell_below r1 hb3
    have fz : ∀ i, w3.frozen? ⟨w.heap.size + 1, i, none⟩ = false := fun i => (hb3.frozen (p := ⟨w.heap.size + 1, i, none⟩) hz).trans (f0 i)
    have HB3 : Hid (Below w.heap.size w w3) := below_then HB.out hb3
    have HO3 : Hid (OwnB w3 w1.heap.size w3.heap.size a3 (rb k t key hd old hs nw bk).length (zOf (rb k t key hd old hs nw bk))) := ho3
    generalize rb k t key hd old hs nw bk = Z at *
    clear ho3 hown3 hne3 hb3 r0 r1 f0 k0 k1 k2 k3 k4 k5 k6 k7
    go_wp2_with fail
    refine bodyPost_ret (v := .agg #[.int .i64 0, .slice a3 Z.length cap3]) (by simp [results, Try.results67, go_sem, *]) rfl ?_
    refine bres_ok E HB3.out (by omega) HO3.out ?_ (by simp [World.setCell])
    repeat (first | exact Writes.refl _ _ _ | refine Writes.setCell ?_ (by first | omega | (simp <;> omega)) (by first | omega | (simp <;> omega)) _)
  · have hdd : (rf k t key hd old hs nw bk != 0) = true := by simpa using h0
    have HNZ : Hid (rf k t key hd old hs nw bk ≠ 0) := h0
    go_enter Try.func67, Try.ntmps67
    go_wp2_with fail
    refine (specRf_any k t key hd old hs nw bk _).mono ?_
    rintro e w1 ⟨rfl, hb1⟩
    obtain ⟨hc, hf⟩ := bcell hb1
    generalize rf k t key hd old hs nw bk = c at *
    clear h0
    go_wp2_with fail
    refine bodyPost_ret (v := .agg #[.int .i64 c, .slice none 0 0]) (by simp [results, Try.results67, go_sem, hc]) rfl ?_
    refine bres_bad ?_ HNZ.out
    repeat (first | exact below_then (hb0 _ _) hb1 | refine Below.setCell ?_ (by first | omega | (simp <;> omega)) _)
end Go.Proofs.Ytmopoblladnjbaa
