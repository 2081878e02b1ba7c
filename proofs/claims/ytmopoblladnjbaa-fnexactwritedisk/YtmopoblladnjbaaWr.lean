/- impl.WriteDisk. -/
import Derived.Test.YtmopoblladnjbaaPk2
import Derived.Test.YtmopoblladnjbaaSpl
namespace Go.Proofs.Ytmopoblladnjbaa
open Go.RowKit Go.Deep
set_option linter.unusedVariables false
set_option maxRecDepth 20000

/-- What WriteDisk tells. -/
def wrC (D : Dk) (idn lsn : Int) (n : Nat) (K V : Nat → Int) : Int := if df D = 0 then (if pf idn lsn n K V = 0 then plC D idn 48 else pf idn lsn n K V) else df D
def wrD (D : Dk) (idn lsn : Int) (n : Nat) (K V : Nat → Int) : Dk := plD D idn (zOf (pgb idn lsn n K V))
set_option maxHeartbeats 1600000 in
theorem implWrite_any (D : Dk) (idn lsn : Int) (n : Nat) (K V : Nat → Int) (a a' : Option Addr) (cap cap' b : Nat) (w : World) (hs : Small D) (hn : n ≤ 1048576) (h : DiskAt w a a' D) (hp : CellsAt w (some ⟨b, 0, none⟩) n K V) :
    Calls Try.prog 54 #[.agg #[.slice a D.n cap, .slice a' D.m cap'], .agg #[.int .i64 idn, .int .i64 lsn, .slice (some ⟨b, 0, none⟩) n n]] w (DRes (wrC D idn lsn n K V) (wrD D idn lsn n K V) w) := by
  have hb0 : ∀ o1 o2 o3, Below w.heap.size w (((w.alloc o1).alloc o2).alloc o3) := fun o1 o2 o3 => (((Below.refl _ _).alloc (Nat.le_refl _) _).alloc (by simp) _).alloc (by simp; omega) _
  have HS : Hid (Small D) := hs
  have HA : Hid (DiskAt w a a' D) := h
  have HP : Hid (CellsAt w (some ⟨b, 0, none⟩) n K V) := hp
  clear hs h hp
  by_cases hf : df D = 0
  · by_cases hpf : pf idn lsn n K V = 0
    · have hc : wrC D idn lsn n K V = plC D idn 48 := by unfold wrC; rw [if_pos hf, if_pos hpf]
      rw [hc]
      have HG : Hid (GoodP idn lsn n K V) := good_of hpf
      go_enter Try.func54, Try.ntmps54
      go_wp2_with fail
      refine (implDf_any D a a' cap cap' _ HS.out (HA.out.below (hb0 _ _ _))).mono ?_
      rintro e w1 ⟨rfl, hb1⟩
      rw [hf]
      obtain ⟨hcc, hff⟩ := bcell hb1
      have hz : w.heap.size + 2 < w1.heap.size := by have := hb1.size; simp at this; omega
      have q0 : w1.cell? ⟨w.heap.size, 0, none⟩ = some (.slice a D.n cap) := by rw [hcc _ _ (by simp <;> omega)]; simp [go_sem]
      have q1 : w1.cell? ⟨w.heap.size, 1, none⟩ = some (.slice a' D.m cap') := by rw [hcc _ _ (by simp <;> omega)]; simp [go_sem]
      have p0 : w1.cell? ⟨w.heap.size + 1, 0, none⟩ = some (.int .i64 idn) := by rw [hcc _ _ (by simp <;> omega)]; simp [go_sem]
      have p1 : w1.cell? ⟨w.heap.size + 1, 1, none⟩ = some (.int .i64 lsn) := by rw [hcc _ _ (by simp <;> omega)]; simp [go_sem]
      have p2 : w1.cell? ⟨w.heap.size + 1, 2, none⟩ = some (.slice (some ⟨b, 0, none⟩) n n) := by rw [hcc _ _ (by simp <;> omega)]; simp [go_sem]
      have r0 : w1.cell? ⟨w.heap.size + 1 + 1, 0, none⟩ = some (.int .i64 0) := by rw [hcc _ _ (by simp <;> omega)]; simp [go_sem]
      have r1 : w1.cell? ⟨w.heap.size + 1 + 1, 1, none⟩ = some (.slice none 0 0) := by rw [hcc _ _ (by simp <;> omega)]; simp [go_sem]
      have r2 : w1.cell? ⟨w.heap.size + 1 + 1, 2, none⟩ = some (.slice none 0 0) := by rw [hcc _ _ (by simp <;> omega)]; simp [go_sem]
      have fz : ∀ i, w1.frozen? ⟨w.heap.size + 1 + 1, i, none⟩ = false := fun i => by rw [hff _ _ (by simp <;> omega)]; simp [go_sem]
      have HB1 : Hid (Below w.heap.size w w1) := below_then (hb0 _ _ _) hb1
      clear hcc hff hb1 hb0
      go_wp2_with fail
      refine (implPack2 idn lsn n K V (some ⟨b, 0, none⟩) n w1 (by omega) (HP.out.below HB1.out)).mono ?_
      rintro e w2 ⟨ap, cp, rfl, hb2, hob, hcp⟩
      simp only [hpf, if_true] at hob hcp ⊢
      have hl48 : (pgb idn lsn n K V).length = 48 := pgb_48 HG.out.gn
      rw [hl48] at hob hcp ⊢
      have s0 := cell_below q0 hb2
      have s1 := cell_below q1 hb2
      have s2 := cell_below p0 hb2
      have s3 := cell_below r0 hb2
      have s4 := cell_below r1 hb2
      have s5 := cell_below r2 hb2
      have m0 := fun o : Obj => cell_alloc s0 o
      have m1 := fun o : Obj => cell_alloc s1 o
      have m2 := fun o : Obj => cell_alloc s2 o
      have HY : Hid (BytesAt w2 ap 48 (zOf (pgb idn lsn n K V))) := hob.at
      have HCP : Hid (48 ≤ cp) := hcp
      have HB2 : Hid (Below w.heap.size w w2) := below_then HB1.out hb2
      have hz2 : w.heap.size + 2 < w2.heap.size := by have := hb2.size; omega
      have fz2 : ∀ i, w2.frozen? ⟨w.heap.size + 1 + 1, i, none⟩ = false := fun i => (hb2.frozen (p := ⟨w.heap.size + 1 + 1, i, none⟩) (by show w.heap.size + 1 + 1 < _; omega)).trans (fz i)
      clear hb2 hob hcp q0 q1 p0 p1 p2 r0 r1 r2 fz
      go_wp2_with fail
      have hba : ∀ o, Below w.heap.size w (w2.alloc o) := fun o => HB2.out.alloc HB2.out.size o
      refine (implPlace_any D idn 48 (zOf (pgb idn lsn n K V)) a a' ap cap cap' cp _ HS.out (by omega) HCP.out (HA.out.below (hba _)) (HY.out.below (below_new _ _))).mono ?_
      rintro e w3 ⟨ar, ar2, cr, cr2, rfl, hb3, hod⟩
      have hsz : w2.heap.size + 1 ≤ w3.heap.size := by have := hb3.size; rw [World.size_alloc] at this; exact this
      have t0 : w3.cell? ⟨w.heap.size + 1 + 1, 0, none⟩ = some (.int .i64 0) := cell_below (cell_alloc s3 _) hb3
      have t1 : w3.cell? ⟨w.heap.size + 1 + 1, 1, none⟩ = some (.slice none 0 0) := cell_below (cell_alloc s4 _) hb3
      have t2 : w3.cell? ⟨w.heap.size + 1 + 1, 2, none⟩ = some (.slice none 0 0) := cell_below (cell_alloc s5 _) hb3
      have tf : ∀ i, w3.frozen? ⟨w.heap.size + 1 + 1, i, none⟩ = false := fun i => (hb3.frozen (p := ⟨w.heap.size + 1 + 1, i, none⟩) (by rw [World.size_alloc]; show w.heap.size + 1 + 1 < _; omega)).trans (by rw [World.frozen?_alloc_past _ _ _ (by show w.heap.size + 1 + 1 < _; omega)]; exact fz2 i)
      have HB3 : Hid (Below w.heap.size w w3) := (hba _).trans (hb3.mono (by rw [World.size_alloc]; omega))
      rw [World.size_alloc] at hod
      generalize plC D idn 48 = c at *
      have HOD : Hid (OwnD w3 (w2.heap.size + 1) w3.heap.size ar ar2 (rD c (plD D idn (zOf (pgb idn lsn n K V))))) := hod
      have HX : Hid (wrD D idn lsn n K V = plD D idn (zOf (pgb idn lsn n K V))) := rfl
      generalize plD D idn (zOf (pgb idn lsn n K V)) = X at *
      generalize hR : rD c X = R at *
      have HR : Hid (rD c X = R) := hR
      clear hb3 hod hba s0 s1 s2 s3 s4 s5 m0 m1 m2 fz2 hR
      go_wp2_with fail
      refine bodyPost_ret (v := .agg #[.int .i64 c, .slice ar R.n cr, .slice ar2 R.m cr2]) (by simp [results, Try.results54, go_sem, *]) rfl ?_
      unfold DRes
      rw [HX.out, HR.out]
      refine ⟨ar, ar2, cr, cr2, rfl, ?_, ?_⟩
      · repeat (first | exact HB3.out | refine Below.setCell ?_ (by first | omega | (simp <;> omega)) _)
      · have hw : ∀ w7, Writes (w.heap.size + 2) (w.heap.size + 3) w3 w7 → w7.heap.size = w3.heap.size → OwnD w7 w.heap.size w7.heap.size ar ar2 R := fun w7 h e => by
          rw [e]
          exact (HOD.out.writes h (.inr (by omega))).wide (by omega) (Nat.le_refl _) (by omega)
        refine hw _ ?_ (by simp [World.setCell])
        repeat (first | exact Writes.refl _ _ _ | refine Writes.setCell ?_ (by first | omega | (simp <;> omega)) (by first | omega | (simp <;> omega)) _)
    · have hc : wrC D idn lsn n K V = pf idn lsn n K V := by unfold wrC; rw [if_pos hf, if_neg hpf]
      rw [hc]
      have hd : (pf idn lsn n K V != 0) = true := by simpa using hpf
      have HNZ : Hid (pf idn lsn n K V ≠ 0) := hpf
      go_enter Try.func54, Try.ntmps54
      go_wp2_with fail
      refine (implDf_any D a a' cap cap' _ HS.out (HA.out.below (hb0 _ _ _))).mono ?_
      rintro e w1 ⟨rfl, hb1⟩
      rw [hf]
      obtain ⟨hcc, hff⟩ := bcell hb1
      have hz : w.heap.size + 2 < w1.heap.size := by have := hb1.size; simp at this; omega
      have p0 : w1.cell? ⟨w.heap.size + 1, 0, none⟩ = some (.int .i64 idn) := by rw [hcc _ _ (by simp <;> omega)]; simp [go_sem]
      have p1 : w1.cell? ⟨w.heap.size + 1, 1, none⟩ = some (.int .i64 lsn) := by rw [hcc _ _ (by simp <;> omega)]; simp [go_sem]
      have p2 : w1.cell? ⟨w.heap.size + 1, 2, none⟩ = some (.slice (some ⟨b, 0, none⟩) n n) := by rw [hcc _ _ (by simp <;> omega)]; simp [go_sem]
      have r0 : w1.cell? ⟨w.heap.size + 1 + 1, 0, none⟩ = some (.int .i64 0) := by rw [hcc _ _ (by simp <;> omega)]; simp [go_sem]
      have r1 : w1.cell? ⟨w.heap.size + 1 + 1, 1, none⟩ = some (.slice none 0 0) := by rw [hcc _ _ (by simp <;> omega)]; simp [go_sem]
      have r2 : w1.cell? ⟨w.heap.size + 1 + 1, 2, none⟩ = some (.slice none 0 0) := by rw [hcc _ _ (by simp <;> omega)]; simp [go_sem]
      have fz : ∀ i, w1.frozen? ⟨w.heap.size + 1 + 1, i, none⟩ = false := fun i => by rw [hff _ _ (by simp <;> omega)]; simp [go_sem]
      have HB1 : Hid (Below w.heap.size w w1) := below_then (hb0 _ _ _) hb1
      clear hcc hff hb1 hb0
      go_wp2_with fail
      refine (implPack2 idn lsn n K V (some ⟨b, 0, none⟩) n w1 (by omega) (HP.out.below HB1.out)).mono ?_
      rintro e w2 ⟨ap, cp, rfl, hb2, hob, hcp⟩
      simp only [hpf, if_false, List.length_nil] at hob hcp ⊢
      have s3 := cell_below r0 hb2
      have s4 := cell_below r1 hb2
      have s5 := cell_below r2 hb2
      have m3 := fun o : Obj => cell_alloc s3 o
      have m4 := fun o : Obj => cell_alloc s4 o
      have m5 := fun o : Obj => cell_alloc s5 o
      have HB2 : Hid (Below w.heap.size w w2) := below_then HB1.out hb2
      have hz2 : w.heap.size + 2 < w2.heap.size := by have := hb2.size; omega
      have fz2 : ∀ (o : Obj) i, (w2.alloc o).frozen? ⟨w.heap.size + 1 + 1, i, none⟩ = false := fun o i => by rw [World.frozen?_alloc_past _ _ _ (by show w.heap.size + 1 + 1 < _; omega)]; exact (hb2.frozen (p := ⟨w.heap.size + 1 + 1, i, none⟩) (by show w.heap.size + 1 + 1 < _; omega)).trans (fz i)
      have fz3 : ∀ i, w2.frozen? ⟨w.heap.size + 1 + 1, i, none⟩ = false := fun i => (hb2.frozen (p := ⟨w.heap.size + 1 + 1, i, none⟩) (by show w.heap.size + 1 + 1 < _; omega)).trans (fz i)
      generalize pf idn lsn n K V = c at *
      clear hb2 hob hcp p0 p1 p2 r0 r1 r2 fz hpf
      go_wp2_with fail
      refine bodyPost_ret (v := .agg #[.int .i64 c, .slice none 0 0, .slice none 0 0]) (by simp [results, Try.results54, go_sem, *]) rfl ?_
      refine dres_bad ?_ HNZ.out
      repeat (first | exact HB2.out | refine Below.setCell ?_ (by first | omega | (simp <;> omega)) _ | refine Below.alloc ?_ (by simp [World.setCell]; omega) _)
  · have hc : wrC D idn lsn n K V = df D := by unfold wrC; rw [if_neg hf]
    rw [hc]
    have hd : (df D != 0) = true := by simpa using hf
    have HNZ : Hid (df D ≠ 0) := hf
    clear hc
    go_enter Try.func54, Try.ntmps54
    go_wp2_with fail
    refine (implDf_any D a a' cap cap' _ HS.out (HA.out.below (hb0 _ _ _))).mono ?_
    rintro e w1 ⟨rfl, hb1⟩
    obtain ⟨hcc, hff⟩ := bcell hb1
    generalize df D = c at *
    clear hf
    go_wp2_with fail
    refine bodyPost_ret (v := .agg #[.int .i64 c, .slice none 0 0, .slice none 0 0]) (by simp [results, Try.results54, go_sem, hcc]) rfl ?_
    refine dres_bad ?_ HNZ.out
    repeat (first | exact below_then (hb0 _ _ _) hb1 | refine Below.setCell ?_ (by first | omega | (simp <;> omega)) _)
end Go.Proofs.Ytmopoblladnjbaa
