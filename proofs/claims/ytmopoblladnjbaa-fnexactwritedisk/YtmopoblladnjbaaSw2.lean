/- spec.WriteDisk. -/
import Derived.Test.YtmopoblladnjbaaWr
namespace Go.Proofs.Ytmopoblladnjbaa
open Go.RowKit Go.Deep
set_option linter.unusedVariables false
set_option maxRecDepth 20000

/-- Bytes that were just packed: where they lie. -/
theorem packed_form {w : World} {base : Nat} {v : Value} {zs : List Int} (h : w.ownsRow base 5 1 v zs.length (bl zs)) (hl : zs.length = 48) : ∃ g cap, v = .slice (some ⟨g, 0, none⟩) 48 cap ∧ 48 ≤ cap ∧ BytesAt w (some ⟨g, 0, none⟩) 48 (zOf zs) := by
  obtain ⟨g, cap, rfl, h1, h2⟩ := h.form (by omega)
  have hc := own_cap h
  obtain ⟨a, cp, e, ho⟩ := ownB_of_row h
  simp only [Value.slice.injEq] at e
  obtain ⟨rfl, -, rfl⟩ := e
  rw [hl] at hc
  have hb := ho.at
  rw [hl] at hb
  exact ⟨g, cap, by rw [hl], hc, hb⟩
/-- Behind the pack: what lay in the boxes lies there. -/
theorem after_pack {w1 w2 : World} {b0 b1 b2 : Nat} {x0 x1 y0 z0 z1 z2 : Value} (hb : Below w1.drew.heap.size w1.drew w2) (h0 : w1.cell? ⟨b0, 0, none⟩ = some x0) (h1 : w1.cell? ⟨b0, 1, none⟩ = some x1) (h2 : w1.cell? ⟨b1, 0, none⟩ = some y0)
    (h3 : w1.cell? ⟨b2, 0, none⟩ = some z0) (h4 : w1.cell? ⟨b2, 1, none⟩ = some z1) (h5 : w1.cell? ⟨b2, 2, none⟩ = some z2) (hf : ∀ i, w1.frozen? ⟨b2, i, none⟩ = false) :
    (w2.cell? ⟨b0, 0, none⟩ = some x0 ∧ w2.cell? ⟨b0, 1, none⟩ = some x1 ∧ w2.cell? ⟨b1, 0, none⟩ = some y0) ∧ (w2.cell? ⟨b2, 0, none⟩ = some z0 ∧ w2.cell? ⟨b2, 1, none⟩ = some z1 ∧ w2.cell? ⟨b2, 2, none⟩ = some z2 ∧ ∀ i, w2.frozen? ⟨b2, i, none⟩ = false) := by
  have hl : b2 < w1.heap.size := Go.block_lt_of_cell h3
  have hb' : Below w1.heap.size w1 w2 := ((Below.refl _ _).drew).trans hb
  exact ⟨⟨cell_below h0 hb', cell_below h1 hb', cell_below h2 hb'⟩, cell_below h3 hb', cell_below h4 hb', cell_below h5 hb', fun i => (hb'.frozen (p := ⟨b2, i, none⟩) hl).trans (hf i)⟩
theorem after_place {w2 w3 : World} {b2 : Nat} {z0 z1 z2 : Value} (hb : Below w2.heap.size w2 w3) (h3 : w2.cell? ⟨b2, 0, none⟩ = some z0) (h4 : w2.cell? ⟨b2, 1, none⟩ = some z1) (h5 : w2.cell? ⟨b2, 2, none⟩ = some z2) (hf : ∀ i, w2.frozen? ⟨b2, i, none⟩ = false) :
    w3.cell? ⟨b2, 0, none⟩ = some z0 ∧ w3.cell? ⟨b2, 1, none⟩ = some z1 ∧ w3.cell? ⟨b2, 2, none⟩ = some z2 ∧ ∀ i, w3.frozen? ⟨b2, i, none⟩ = false :=
  ⟨cell_below h3 hb, cell_below h4 hb, cell_below h5 hb, fun i => (hb.frozen (p := ⟨b2, i, none⟩) (show b2 < w2.heap.size from Go.block_lt_of_cell h3)).trans (hf i)⟩
theorem below_set3 {w w4 : World} {x y z : Value} (h : Below w.heap.size w w4) : Below w.heap.size w (((w4.setCell ⟨w.heap.size + 1 + 1, 0, none⟩ x).setCell ⟨w.heap.size + 1 + 1, 1, none⟩ y).setCell ⟨w.heap.size + 1 + 1, 2, none⟩ z) :=
  ((h.setCell (p := ⟨w.heap.size + 1 + 1, 0, none⟩) (by show w.heap.size ≤ w.heap.size + 1 + 1; omega) x).setCell (p := ⟨w.heap.size + 1 + 1, 1, none⟩) (by show w.heap.size ≤ w.heap.size + 1 + 1; omega) y).setCell (p := ⟨w.heap.size + 1 + 1, 2, none⟩) (by show w.heap.size ≤ w.heap.size + 1 + 1; omega) z
theorem keep_set3 {w w4 : World} {x y z c0 c1 c2 c3 c4 : Value} (h : Below w.heap.size w w4 ∧ w4.cell? ⟨w.heap.size, 0, none⟩ = some c0 ∧ w4.cell? ⟨w.heap.size, 1, none⟩ = some c1 ∧ w4.cell? ⟨w.heap.size + 1, 0, none⟩ = some c2 ∧ w4.cell? ⟨w.heap.size + 1, 1, none⟩ = some c3 ∧ w4.cell? ⟨w.heap.size + 1, 2, none⟩ = some c4) :
    (Below w.heap.size w (((w4.setCell ⟨w.heap.size + 1 + 1, 0, none⟩ x).setCell ⟨w.heap.size + 1 + 1, 1, none⟩ y).setCell ⟨w.heap.size + 1 + 1, 2, none⟩ z) ∧ (((w4.setCell ⟨w.heap.size + 1 + 1, 0, none⟩ x).setCell ⟨w.heap.size + 1 + 1, 1, none⟩ y).setCell ⟨w.heap.size + 1 + 1, 2, none⟩ z).cell? ⟨w.heap.size, 0, none⟩ = some c0 ∧ (((w4.setCell ⟨w.heap.size + 1 + 1, 0, none⟩ x).setCell ⟨w.heap.size + 1 + 1, 1, none⟩ y).setCell ⟨w.heap.size + 1 + 1, 2, none⟩ z).cell? ⟨w.heap.size, 1, none⟩ = some c1 ∧ (((w4.setCell ⟨w.heap.size + 1 + 1, 0, none⟩ x).setCell ⟨w.heap.size + 1 + 1, 1, none⟩ y).setCell ⟨w.heap.size + 1 + 1, 2, none⟩ z).cell? ⟨w.heap.size + 1, 0, none⟩ = some c2 ∧ (((w4.setCell ⟨w.heap.size + 1 + 1, 0, none⟩ x).setCell ⟨w.heap.size + 1 + 1, 1, none⟩ y).setCell ⟨w.heap.size + 1 + 1, 2, none⟩ z).cell? ⟨w.heap.size + 1, 1, none⟩ = some c3 ∧ (((w4.setCell ⟨w.heap.size + 1 + 1, 0, none⟩ x).setCell ⟨w.heap.size + 1 + 1, 1, none⟩ y).setCell ⟨w.heap.size + 1 + 1, 2, none⟩ z).cell? ⟨w.heap.size + 1, 2, none⟩ = some c4) := by
  obtain ⟨h0, h1, h2, h3, h4, h5⟩ := h
  have e : ∀ b o v, b ≠ w.heap.size + 1 + 1 → w4.cell? ⟨b, o, none⟩ = some v → (((w4.setCell ⟨w.heap.size + 1 + 1, 0, none⟩ x).setCell ⟨w.heap.size + 1 + 1, 1, none⟩ y).setCell ⟨w.heap.size + 1 + 1, 2, none⟩ z).cell? ⟨b, o, none⟩ = some v := fun b o v hb h => by
    rw [setB (fun q => hb q.symm), setB (fun q => hb q.symm), setB (fun q => hb q.symm)]; exact h
  exact ⟨below_set3 h0, e _ _ _ (by omega) h1, e _ _ _ (by omega) h2, e _ _ _ (by omega) h3, e _ _ _ (by omega) h4, e _ _ _ (by omega) h5⟩
theorem after_pack2 {w w1 w2 : World} {b1 : Nat} {y1 y2 : Value} (hB : Below w.heap.size w w1) (hb : Below w1.drew.heap.size w1.drew w2) (h1 : w1.cell? ⟨b1, 1, none⟩ = some y1) (h2 : w1.cell? ⟨b1, 2, none⟩ = some y2) :
    w2.cell? ⟨b1, 1, none⟩ = some y1 ∧ w2.cell? ⟨b1, 2, none⟩ = some y2 ∧ Below w.heap.size w w2 := by
  have hb' : Below w1.heap.size w1 w2 := ((Below.refl _ _).drew).trans hb
  exact ⟨cell_below h1 hb', cell_below h2 hb', below_then hB hb'⟩
theorem after_place2 {w w2 w3 : World} {b0 b1 : Nat} {x0 x1 y0 y1 y2 : Value} (hB : Below w.heap.size w w2) (hb : Below w2.heap.size w2 w3) (h0 : w2.cell? ⟨b0, 0, none⟩ = some x0) (h1 : w2.cell? ⟨b0, 1, none⟩ = some x1) (h2 : w2.cell? ⟨b1, 0, none⟩ = some y0) (h3 : w2.cell? ⟨b1, 1, none⟩ = some y1) (h4 : w2.cell? ⟨b1, 2, none⟩ = some y2) :
    w3.cell? ⟨b0, 0, none⟩ = some x0 ∧ w3.cell? ⟨b0, 1, none⟩ = some x1 ∧ w3.cell? ⟨b1, 0, none⟩ = some y0 ∧ w3.cell? ⟨b1, 1, none⟩ = some y1 ∧ w3.cell? ⟨b1, 2, none⟩ = some y2 ∧ Below w.heap.size w w3 :=
  ⟨cell_below h0 hb, cell_below h1 hb, cell_below h2 hb, cell_below h3 hb, cell_below h4 hb, below_then hB hb⟩
set_option maxHeartbeats 2000000 in
theorem specWrite_any (D : Dk) (idn lsn : Int) (n : Nat) (K V : Nat → Int) (a a' : Option Addr) (cap cap' b : Nat) (w : World) (hs : Small D) (hn : n ≤ 1048576) (h : DiskAt w a a' D) (hp : CellsAt w (some ⟨b, 0, none⟩) n K V) :
    Calls Try.prog 52 #[.agg #[.slice a D.n cap, .slice a' D.m cap'], .agg #[.int .i64 idn, .int .i64 lsn, .slice (some ⟨b, 0, none⟩) n n]] w (SRes (wrC D idn lsn n K V) (wrD D idn lsn n K V) w) := by
  have hb0 : ∀ o1 o2 o3, Below w.heap.size w (((w.alloc o1).alloc o2).alloc o3) := fun o1 o2 o3 => (((Below.refl _ _).alloc (Nat.le_refl _) _).alloc (by simp) _).alloc (by simp; omega) _
  have HS : Hid (Small D) := hs
  have HA : Hid (DiskAt w a a' D) := h
  have HP : Hid (CellsAt w (some ⟨b, 0, none⟩) n K V) := hp
  clear hs h hp
  by_cases hf : df D = 0
  · by_cases hpf : pf idn lsn n K V = 0
    · have hc : wrC D idn lsn n K V = plC D idn 48 := by unfold wrC; rw [if_pos hf, if_pos hpf]
      rw [hc]
      have HG : Hid (GoodP idn lsn n K V) := good_of hpf
      have HL48 : Hid ((pgb idn lsn n K V).length = 48) := pgb_48 HG.out.gn
      go_enter Try.func52, Try.ntmps52
      go_wp2_with fail
      refine (specDf_any D a a' cap cap' _ HS.out (HA.out.below (hb0 _ _ _))).mono ?_
      rintro e w1 ⟨rfl, hb1⟩
      rw [hf]
      obtain ⟨hcc, hff⟩ := bcell hb1
      have hz : w.heap.size + 2 < w1.heap.size := by have := hb1.size; simp at this; omega
      have q0 : w1.cell? ⟨w.heap.size, 0, none⟩ = some (.slice a D.n cap) := by rw [hcc _ _ (by simp <;> omega)]; simp [go_sem]
      have q1 : w1.cell? ⟨w.heap.size, 1, none⟩ = some (.slice a' D.m cap') := by rw [hcc _ _ (by simp <;> omega)]; simp [go_sem]
      have p0 : w1.cell? ⟨w.heap.size + 1, 0, none⟩ = some (.int .i64 idn) := by rw [hcc _ _ (by simp <;> omega)]; simp [go_sem]
      have p1 : w1.cell? ⟨w.heap.size + 1, 1, none⟩ = some (.int .i64 lsn) := by rw [hcc _ _ (by simp <;> omega)]; simp [go_sem]
      have p2 : w1.cell? ⟨w.heap.size + 1, 2, none⟩ = some (.slice (some ⟨b, 0, none⟩) n n) := by rw [hcc _ _ (by simp <;> omega)]; simp [go_sem]
      have r0 : w1.cell? ⟨w.heap.size + 1 + 1, 0, none⟩ = some (.int .i64 0) := by rw [hcc _ _ (by simp <;> omega)]; simp [go_sem]
      have r1 : w1.cell? ⟨w.heap.size + 1 + 1, 1, none⟩ = some (.slice none 0 0) := by rw [hcc _ _ (by simp <;> omega)]; simp [go_sem]
      have r2 : w1.cell? ⟨w.heap.size + 1 + 1, 2, none⟩ = some (.slice none 0 0) := by rw [hcc _ _ (by simp <;> omega)]; simp [go_sem]
      have fz : ∀ i, w1.frozen? ⟨w.heap.size + 1 + 1, i, none⟩ = false := fun i => by rw [hff _ _ (by simp <;> omega)]; simp [go_sem]
      have HB1 : Hid (Below w.heap.size w w1) := below_then (hb0 _ _ _) hb1
      clear hcc hff hb1 hb0
      go_wp2_with fail
      refine (specFault_any idn lsn n K V _ n w1 (by omega) (HP.out.below HB1.out)).mono ?_
      rintro e w2 ⟨rfl, hb2⟩
      rw [hpf]
      have u0 := cell_below q0 hb2
      have u1 := cell_below q1 hb2
      have v0 := cell_below p0 hb2
      have v1 := cell_below p1 hb2
      have v2 := cell_below p2 hb2
      have x0 := cell_below r0 hb2
      have x1 := cell_below r1 hb2
      have x2 := cell_below r2 hb2
      have hz2 : w.heap.size + 2 < w2.heap.size := by have := hb2.size; omega
      have fx : ∀ i, w2.frozen? ⟨w.heap.size + 1 + 1, i, none⟩ = false := fun i => (hb2.frozen (p := ⟨w.heap.size + 1 + 1, i, none⟩) (by show w.heap.size + 1 + 1 < _; omega)).trans (fz i)
      have HB2 : Hid (Below w.heap.size w w2) := below_then HB1.out hb2
      clear hb2 q0 q1 p0 p1 p2 r0 r1 r2 fz HB1
      go_wp2_with fail
      have hb9 : Below w.heap.size w w2.drew := HB2.out.drew
      go_region_held3 (fun w' => Below w.heap.size w w' ∧ w'.cell? ⟨w.heap.size, 0, none⟩ = some (.slice a D.n cap) ∧ w'.cell? ⟨w.heap.size, 1, none⟩ = some (.slice a' D.m cap') ∧ w'.cell? ⟨w.heap.size + 1, 0, none⟩ = some (.int .i64 idn) ∧ w'.cell? ⟨w.heap.size + 1, 1, none⟩ = some (.int .i64 lsn) ∧ w'.cell? ⟨w.heap.size + 1, 2, none⟩ = some (.slice (some ⟨b, 0, none⟩) n n)) (first | exact keep_set3 ‹_› | go_keep)
        (first | (go_at_call 105; refine (specPk_any idn lsn n K V (some ⟨b, 0, none⟩) n w2.drew HG.out (HP.out.below HB2.out.drew)).mono ?_; rintro e w3 ⟨vp, rfl, hb3, ho3⟩; obtain ⟨gp, cp, rfl, hcp, hby⟩ := packed_form ho3 HL48.out; obtain ⟨⟨s0, s1, s2⟩, s3, s4, s5, s6⟩ := after_pack hb3 u0 u1 v0 x0 x1 x2 fx; obtain ⟨s7, s8, s9⟩ := after_pack2 HB2.out hb3 v1 v2) | (go_at_call 132; refine (specPlace_any D idn 48 (zOf (pgb idn lsn n K V)) a a' _ cap cap' cp w3 HS.out (by decide) hcp (HA.out.below (HB2.out.drew.trans (hb3.mono HB2.out.size))) hby).mono ?_; rintro e w4 ⟨ar, ar2, cr, cr2, rfl, hb4, hod⟩; obtain ⟨t0, t1, t2, t3⟩ := after_place hb4 s3 s4 s5 s6; obtain ⟨t4, t5, t6, t7, t8, t9⟩ := after_place2 s9 hb4 s0 s1 s2 s7 s8))
      have hz3 : w2.heap.size ≤ w3.heap.size := hb3.size
      have hz4 : w3.heap.size ≤ w4.heap.size := hb4.size
      have HB4 : Hid (Below w.heap.size w w4) := t9
      have HOD0 : Hid (OwnR w4 w3.heap.size w4.heap.size ar ar2 (rD (plC D idn 48) (plD D idn (zOf (pgb idn lsn n K V))))) := hod
      have HX0 : Hid (wrD D idn lsn n K V = plD D idn (zOf (pgb idn lsn n K V))) := rfl
      clear hod hb4 hb3 ho3 hby hcp s0 s1 s2 s3 s4 s5 s6 s7 s8 s9 t4 t5 t6 t7 t8 t9 u0 u1 v0 v1 v2 x0 x1 x2 fx hb9
      generalize plC D idn 48 = c at *
      generalize plD D idn (zOf (pgb idn lsn n K V)) = X at *
      have HX : Hid (wrD D idn lsn n K V = X) := HX0.out
      generalize hR : rD c X = R at *
      have HR : Hid (rD c X = R) := hR
      have HOD : Hid (OwnR w4 w3.heap.size w4.heap.size ar ar2 R) := HOD0.out
      clear hR HX0 HOD0
      go_wp2_with fail
      refine bodyPost_ret (v := .agg #[.int .i64 c, .slice ar R.n cr, .slice ar2 R.m cr2]) (by simp [results, Try.results52, go_sem, *]) rfl ?_
      unfold SRes
      rw [HX.out, HR.out]
      refine ⟨ar, ar2, cr, cr2, rfl, ?_, ?_⟩
      · repeat (first | exact HB4.out | refine Below.setCell ?_ (by first | omega | (simp <;> omega)) _)
      · have hw : ∀ w7, Writes (w.heap.size + 2) (w.heap.size + 3) w4 w7 → w7.heap.size = w4.heap.size → OwnR w7 w.heap.size w7.heap.size ar ar2 R := fun w7 h e => by
          rw [e]
          exact (HOD.out.writes h (.inr (by omega))).wide (by omega) (Nat.le_refl _) (by omega)
        refine hw _ ?_ (by simp [World.setCell])
        repeat (first | exact Writes.refl _ _ _ | refine Writes.setCell ?_ (by first | omega | (simp <;> omega)) (by first | omega | (simp <;> omega)) _)
    · have hc : wrC D idn lsn n K V = pf idn lsn n K V := by unfold wrC; rw [if_pos hf, if_neg hpf]
      rw [hc]
      have hd : (pf idn lsn n K V != 0) = true := by simpa using hpf
      have HNZ : Hid (pf idn lsn n K V ≠ 0) := hpf
      go_enter Try.func52, Try.ntmps52
      go_wp2_with fail
      refine (specDf_any D a a' cap cap' _ HS.out (HA.out.below (hb0 _ _ _))).mono ?_
      rintro e w1 ⟨rfl, hb1⟩
      rw [hf]
      obtain ⟨hcc, hff⟩ := bcell hb1
      have hz : w.heap.size + 2 < w1.heap.size := by have := hb1.size; simp at this; omega
      have p0 : w1.cell? ⟨w.heap.size + 1, 0, none⟩ = some (.int .i64 idn) := by rw [hcc _ _ (by simp <;> omega)]; simp [go_sem]
      have p1 : w1.cell? ⟨w.heap.size + 1, 1, none⟩ = some (.int .i64 lsn) := by rw [hcc _ _ (by simp <;> omega)]; simp [go_sem]
      have p2 : w1.cell? ⟨w.heap.size + 1, 2, none⟩ = some (.slice (some ⟨b, 0, none⟩) n n) := by rw [hcc _ _ (by simp <;> omega)]; simp [go_sem]
      have r0 : w1.cell? ⟨w.heap.size + 1 + 1, 0, none⟩ = some (.int .i64 0) := by rw [hcc _ _ (by simp <;> omega)]; simp [go_sem]
      have r1 : w1.cell? ⟨w.heap.size + 1 + 1, 1, none⟩ = some (.slice none 0 0) := by rw [hcc _ _ (by simp <;> omega)]; simp [go_sem]
      have r2 : w1.cell? ⟨w.heap.size + 1 + 1, 2, none⟩ = some (.slice none 0 0) := by rw [hcc _ _ (by simp <;> omega)]; simp [go_sem]
      have fz : ∀ i, w1.frozen? ⟨w.heap.size + 1 + 1, i, none⟩ = false := fun i => by rw [hff _ _ (by simp <;> omega)]; simp [go_sem]
      have HB1 : Hid (Below w.heap.size w w1) := below_then (hb0 _ _ _) hb1
      clear hcc hff hb1 hb0
      go_wp2_with fail
      refine (specFault_any idn lsn n K V _ n w1 (by omega) (HP.out.below HB1.out)).mono ?_
      rintro e w2 ⟨rfl, hb2⟩
      have x0 := cell_below r0 hb2
      have x1 := cell_below r1 hb2
      have x2 := cell_below r2 hb2
      have hz2 : w.heap.size + 2 < w2.heap.size := by have := hb2.size; omega
      have fx : ∀ i, w2.frozen? ⟨w.heap.size + 1 + 1, i, none⟩ = false := fun i => (hb2.frozen (p := ⟨w.heap.size + 1 + 1, i, none⟩) (by show w.heap.size + 1 + 1 < _; omega)).trans (fz i)
      have HB2 : Hid (Below w.heap.size w w2) := below_then HB1.out hb2
      generalize pf idn lsn n K V = c at *
      clear hb2 p0 p1 p2 r0 r1 r2 fz HB1 hpf
      go_wp2_with fail
      refine bodyPost_ret (v := .agg #[.int .i64 c, .slice none 0 0, .slice none 0 0]) (by simp [results, Try.results52, go_sem, *]) rfl ?_
      refine sres_bad ?_ HNZ.out
      repeat (first | exact HB2.out | refine Below.setCell ?_ (by first | omega | (simp <;> omega)) _)
  · have hc : wrC D idn lsn n K V = df D := by unfold wrC; rw [if_neg hf]
    rw [hc]
    have hd : (df D != 0) = true := by simpa using hf
    have HNZ : Hid (df D ≠ 0) := hf
    clear hc
    go_enter Try.func52, Try.ntmps52
    go_wp2_with fail
    refine (specDf_any D a a' cap cap' _ HS.out (HA.out.below (hb0 _ _ _))).mono ?_
    rintro e w1 ⟨rfl, hb1⟩
    obtain ⟨hcc, hff⟩ := bcell hb1
    generalize df D = c at *
    clear hf
    go_wp2_with fail
    refine bodyPost_ret (v := .agg #[.int .i64 c, .slice none 0 0, .slice none 0 0]) (by simp [results, Try.results52, go_sem, hcc]) rfl ?_
    refine sres_bad ?_ HNZ.out
    repeat (first | exact below_then (hb0 _ _ _) hb1 | refine Below.setCell ?_ (by first | omega | (simp <;> omega)) _)
end Go.Proofs.Ytmopoblladnjbaa
