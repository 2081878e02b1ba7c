/- impl.PackRec. -/
import Derived.Test.YtppckjecidcflaaPr2
namespace Go.Proofs.Ytppckjecidcflaa
open Go.RowKit Go.Deep
set_option linter.unusedVariables false
set_option maxRecDepth 20000

set_option maxHeartbeats 2000000 in
theorem implPr_any (k t key : Int) (hd : Bool) (old : Int) (hs : Bool) (nw bk : Int) (w : World) :
    Calls Try.prog 35 #[.agg #[.int .i64 k, .int .i64 t, .int .i64 key, .bool hd, .int .i64 old, .bool hs, .int .i64 nw, .int .i64 bk]] w (BRes2 (rf k t key hd old hs nw bk) (rb k t key hd old hs nw bk) w) := by
  have hb0 : ∀ o1 o2, Below w.heap.size w ((w.alloc o1).alloc o2) := fun o1 o2 => ((Below.refl _ _).alloc (Nat.le_refl _) _).alloc (by simp) _
  by_cases h0 : rf k t key hd old hs nw bk = 0
  · have HG : Hid (GoodR k t key hd old hs nw bk) := goodR_of k t key hd old hs nw bk h0
    have E : Hid (rf k t key hd old hs nw bk = 0) := h0
    go_enter Try.func35, Try.ntmps35
    go_wp2_with fail
    refine (implRf_any k t key hd old hs nw bk _).mono ?_
    rintro e w1 ⟨rfl, hb1⟩
    rw [h0]
    obtain ⟨hc, hf⟩ := bcell hb1
    have hz : w.heap.size + 1 < w1.heap.size := by have hq := hb1.size; simp at hq; omega
    have k0 : w1.cell? ⟨w.heap.size, 0, none⟩ = some (.int .i64 k) := by rw [hc _ _ (by simp <;> omega)]; simp [go_sem]
    have k1 : w1.cell? ⟨w.heap.size, 1, none⟩ = some (.int .i64 t) := by rw [hc _ _ (by simp <;> omega)]; simp [go_sem]
    have k2 : w1.cell? ⟨w.heap.size, 2, none⟩ = some (.int .i64 key) := by rw [hc _ _ (by simp <;> omega)]; simp [go_sem]
    have k3 : w1.cell? ⟨w.heap.size, 3, none⟩ = some (.bool hd) := by rw [hc _ _ (by simp <;> omega)]; simp [go_sem]
    have k4 : w1.cell? ⟨w.heap.size, 4, none⟩ = some (.int .i64 old) := by rw [hc _ _ (by simp <;> omega)]; simp [go_sem]
    have k5 : w1.cell? ⟨w.heap.size, 5, none⟩ = some (.bool hs) := by rw [hc _ _ (by simp <;> omega)]; simp [go_sem]
    have k6 : w1.cell? ⟨w.heap.size, 6, none⟩ = some (.int .i64 nw) := by rw [hc _ _ (by simp <;> omega)]; simp [go_sem]
    have k7 : w1.cell? ⟨w.heap.size, 7, none⟩ = some (.int .i64 bk) := by rw [hc _ _ (by simp <;> omega)]; simp [go_sem]
    have r0 : w1.cell? ⟨w.heap.size + 1, 0, none⟩ = some (.int .i64 0) := by simp [hc]
    have r1 : w1.cell? ⟨w.heap.size + 1, 1, none⟩ = some (.slice none 0 0) := by simp [hc]
    have f0 : ∀ i, w1.frozen? ⟨w.heap.size + 1, i, none⟩ = false := fun i => by simp [hf, go_sem]
    have m0 := fun o : Obj => cell_alloc k0 o
    have m1 := fun o : Obj => cell_alloc k1 o
    have m2 := fun o : Obj => cell_alloc k2 o
    have m3 := fun o : Obj => cell_alloc k3 o
    have m4 := fun o : Obj => cell_alloc k4 o
    have m5 := fun o : Obj => cell_alloc k5 o
    have m6 := fun o : Obj => cell_alloc k6 o
    have m7 := fun o : Obj => cell_alloc k7 o
    have HB : Hid (Below w.heap.size w w1) := below_then (hb0 _ _) hb1
    clear h0 hc hf hb1 hb0
    go_wp2_with fail
    refine (putRec_any w1.heap.size k t key hd old hs nw bk (w1.alloc (.cells #[.slice none 0 0] 90)) HG.out (by simp) ⟨by simp, by simp, World.ownsRow_nil _ _ _ _⟩).mono ?_
    rintro e w3 ⟨rfl, v3, hm3, hos, htape, hout, hsz3, hblk⟩
    obtain ⟨a3, cap3, rfl, ho3⟩ := ownB_of_row hm3.2.2
    have HCP : Hid ((rb k t key hd old hs nw bk).length ≤ cap3) := own_cap hm3.2.2
    have hc3 := hm3.1
    have hs3 : w1.heap.size + 1 ≤ w3.heap.size := by rw [World.size_alloc] at hsz3; exact hsz3
    have hbk : ∀ k, k < w1.heap.size → w3.heap[k]? = w1.heap[k]? := fun k hk => (hblk k (by rw [World.size_alloc]; omega) (by omega)).trans (Below.heap_alloc _ _ _ hk)
    have t0 : w3.cell? ⟨w.heap.size + 1, 0, none⟩ = some (.int .i64 0) := (World.cell?_of_block (w := w1) (a := ⟨w.heap.size + 1, 0, none⟩) (hbk _ hz)).trans r0
    have t1 : w3.cell? ⟨w.heap.size + 1, 1, none⟩ = some (.slice none 0 0) := (World.cell?_of_block (w := w1) (a := ⟨w.heap.size + 1, 1, none⟩) (hbk _ hz)).trans r1
    have fz : ∀ i, w3.frozen? ⟨w.heap.size + 1, i, none⟩ = false := fun i => (World.frozen?_of_block (w := w1) (a := ⟨w.heap.size + 1, i, none⟩) (hbk _ hz)).trans (f0 i)
    have HB3 : Hid (Below w.heap.size w w3) := ⟨hos.trans HB.out.os, htape.trans HB.out.tape, hout.trans HB.out.output, by have := HB.out.size; omega, fun k hk => (hbk k (by omega)).trans (HB.out.block k hk)⟩
    have HO3 : Hid (OwnB w3 ((w1.alloc (.cells #[.slice none 0 0] 90)).heap.size + 1) w3.heap.size a3 (rb k t key hd old hs nw bk).length (zOf (rb k t key hd old hs nw bk))) := ho3
    generalize rb k t key hd old hs nw bk = Z at *
    clear hm3 ho3 hblk hbk hos htape hout hsz3 r0 r1 f0 m0 m1 m2 m3 m4 m5 m6 m7 k0 k1 k2 k3 k4 k5 k6 k7
    go_wp2_with fail
    refine bodyPost_ret (v := .agg #[.int .i64 0, .slice a3 Z.length cap3]) (by simp [results, Try.results35, go_sem, *]) rfl ?_
    refine bres2_ok E HB3.out ?_ HO3.out ?_ (by simp [World.setCell]) HCP.out
    · rw [World.size_alloc]; omega
    · repeat (first | exact Writes.refl _ _ _ | apply Writes.drew | refine Writes.setCell ?_ (by first | omega | (simp <;> omega)) (by first | omega | (simp <;> omega)) _)
  · have hdd : (rf k t key hd old hs nw bk != 0) = true := by simpa using h0
    have HNZ : Hid (rf k t key hd old hs nw bk ≠ 0) := h0
    go_enter Try.func35, Try.ntmps35
    go_wp2_with fail
    refine (implRf_any k t key hd old hs nw bk _).mono ?_
    rintro e w1 ⟨rfl, hb1⟩
    obtain ⟨hc, hf⟩ := bcell hb1
    generalize rf k t key hd old hs nw bk = c at *
    clear h0
    go_wp2_with fail
    refine bodyPost_ret (v := .agg #[.int .i64 c, .slice none 0 0]) (by simp [results, Try.results35, go_sem, hc]) rfl ?_
    refine bres2_bad ?_ HNZ.out
    repeat (first | exact below_then (hb0 _ _) hb1 | refine Below.setCell ?_ (by first | omega | (simp <;> omega)) _)
end Go.Proofs.Ytppckjecidcflaa
