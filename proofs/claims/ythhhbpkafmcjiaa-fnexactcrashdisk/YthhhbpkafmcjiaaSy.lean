/- impl.SyncDisk. -/
import Derived.Test.YthhhbpkafmcjiaaSet
namespace Go.Proofs.Ythhhbpkafmcjiaa
open Go.RowKit Go.Deep
set_option linter.unusedVariables false
set_option maxRecDepth 20000

/-- The disk with the writes at k places done, none left. -/
def syD (D : Dk) (F : Nat → Int) (k : Nat) : Dk := ⟨D.n, fun _ => 48, stl D F k, 0, fun _ => 0, fun _ => 0, fun _ => 0, fun _ _ => 0⟩
def idF (i : Nat) : Int := i
theorem ownD_sy {w : World} {lo hi : Nat} {a a' : Option Addr} {D : Dk} {F : Nat → Int} {k : Nat} (h : OwnP w lo hi a D.n (fun _ => 48) (stl D F k)) (hl : lo ≤ hi) : OwnD w lo hi a a' (syD D F k) := by
  have h0 := h.1
  exact ⟨h0, lo, hi, lo, lo, Nat.le_refl _, Nat.le_refl _, Nat.le_refl _, hl, .inr (Nat.le_refl _), h, ⟨by omega, .inl rfl⟩⟩
theorem keep_sy {w w4 : World} {x y z c0 c1 : Value} (h : Below w.heap.size w w4 ∧ w4.cell? ⟨w.heap.size, 0, none⟩ = some c0 ∧ w4.cell? ⟨w.heap.size, 1, none⟩ = some c1) :
    (Below w.heap.size w (((w4.setCell ⟨w.heap.size + 1, 0, none⟩ x).setCell ⟨w.heap.size + 1, 1, none⟩ y).setCell ⟨w.heap.size + 1, 2, none⟩ z) ∧ (((w4.setCell ⟨w.heap.size + 1, 0, none⟩ x).setCell ⟨w.heap.size + 1, 1, none⟩ y).setCell ⟨w.heap.size + 1, 2, none⟩ z).cell? ⟨w.heap.size, 0, none⟩ = some c0 ∧ (((w4.setCell ⟨w.heap.size + 1, 0, none⟩ x).setCell ⟨w.heap.size + 1, 1, none⟩ y).setCell ⟨w.heap.size + 1, 2, none⟩ z).cell? ⟨w.heap.size, 1, none⟩ = some c1) := by
  obtain ⟨h0, h1, h2⟩ := h
  have e : ∀ b o v, b ≠ w.heap.size + 1 → w4.cell? ⟨b, o, none⟩ = some v → (((w4.setCell ⟨w.heap.size + 1, 0, none⟩ x).setCell ⟨w.heap.size + 1, 1, none⟩ y).setCell ⟨w.heap.size + 1, 2, none⟩ z).cell? ⟨b, o, none⟩ = some v := fun b o v hb h => by
    rw [setB (fun q => hb q.symm), setB (fun q => hb q.symm), setB (fun q => hb q.symm)]; exact h
  refine ⟨?_, e _ _ _ (by omega) h1, e _ _ _ (by omega) h2⟩
  exact ((h0.setCell (p := ⟨w.heap.size + 1, 0, none⟩) (by show w.heap.size ≤ w.heap.size + 1; omega) x).setCell (p := ⟨w.heap.size + 1, 1, none⟩) (by show w.heap.size ≤ w.heap.size + 1; omega) y).setCell (p := ⟨w.heap.size + 1, 2, none⟩) (by show w.heap.size ≤ w.heap.size + 1; omega) z
/-- Behind a call: the two boxes. -/
theorem after_c {w w1 w2 : World} {b0 b2 : Nat} {x0 x1 z0 z1 z2 : Value} (hB : Below w.heap.size w w1) (hb : Below w1.heap.size w1 w2) (h0 : w1.cell? ⟨b0, 0, none⟩ = some x0) (h1 : w1.cell? ⟨b0, 1, none⟩ = some x1)
    (h3 : w1.cell? ⟨b2, 0, none⟩ = some z0) (h4 : w1.cell? ⟨b2, 1, none⟩ = some z1) (h5 : w1.cell? ⟨b2, 2, none⟩ = some z2) (hf : ∀ i, w1.frozen? ⟨b2, i, none⟩ = false) :
    (Below w.heap.size w w2 ∧ w2.cell? ⟨b0, 0, none⟩ = some x0 ∧ w2.cell? ⟨b0, 1, none⟩ = some x1) ∧ (w2.cell? ⟨b2, 0, none⟩ = some z0 ∧ w2.cell? ⟨b2, 1, none⟩ = some z1 ∧ w2.cell? ⟨b2, 2, none⟩ = some z2 ∧ ∀ i, w2.frozen? ⟨b2, i, none⟩ = false) := by
  have hl : b2 < w1.heap.size := Go.block_lt_of_cell h3
  exact ⟨⟨below_then hB hb, cell_below h0 hb, cell_below h1 hb⟩, cell_below h3 hb, cell_below h4 hb, cell_below h5 hb, fun i => (hb.frozen (p := ⟨b2, i, none⟩) hl).trans (hf i)⟩
theorem drew_below {w1 w2 : World} (hb : Below w1.drew.heap.size w1.drew w2) : Below w1.heap.size w1 w2 := ((Below.refl _ _).drew).trans hb
set_option maxHeartbeats 1600000 in
theorem implSync_any (D : Dk) (a a' : Option Addr) (cap cap' : Nat) (w : World) (hs : Small D) (h : DiskAt w a a' D) :
    Calls Try.prog 27 #[.agg #[.slice a D.n cap, .slice a' D.m cap']] w (DRes (df D) (syD D idF D.m) w) := by
  have hb0 : ∀ o1 o2, Below w.heap.size w ((w.alloc o1).alloc o2) := fun o1 o2 => ((Below.refl _ _).alloc (Nat.le_refl _) _).alloc (by simp) _
  have HS : Hid (Small D) := hs
  have HA : Hid (DiskAt w a a' D) := h
  clear hs h
  by_cases hf : df D = 0
  · have HG : Hid (GoodD D) := goodD_of hf
    have HFI : Hid (∀ i, i < D.m → 0 ≤ idF i ∧ idF i < D.m) := fun i hi => ⟨by unfold idF; omega, by unfold idF; omega⟩
    have hm60 := HG.out.m
    go_enter Try.func27, Try.ntmps27
    go_wp2_with fail
    refine (implDf_any D a a' cap cap' _ HS.out (HA.out.below (hb0 _ _))).mono ?_
    rintro e w1 ⟨rfl, hb1⟩
    rw [hf]
    obtain ⟨hcc, hff⟩ := bcell hb1
    have hz : w.heap.size + 1 < w1.heap.size := by have := hb1.size; simp at this; omega
    have q0 : w1.cell? ⟨w.heap.size, 0, none⟩ = some (.slice a D.n cap) := by rw [hcc _ _ (by simp <;> omega)]; simp [go_sem]
    have q1 : w1.cell? ⟨w.heap.size, 1, none⟩ = some (.slice a' D.m cap') := by rw [hcc _ _ (by simp <;> omega)]; simp [go_sem]
    have r0 : w1.cell? ⟨w.heap.size + 1, 0, none⟩ = some (.int .i64 0) := by rw [hcc _ _ (by simp <;> omega)]; simp [go_sem]
    have r1 : w1.cell? ⟨w.heap.size + 1, 1, none⟩ = some (.slice none 0 0) := by rw [hcc _ _ (by simp <;> omega)]; simp [go_sem]
    have r2 : w1.cell? ⟨w.heap.size + 1, 2, none⟩ = some (.slice none 0 0) := by rw [hcc _ _ (by simp <;> omega)]; simp [go_sem]
    have fz : ∀ i, w1.frozen? ⟨w.heap.size + 1, i, none⟩ = false := fun i => by rw [hff _ _ (by simp <;> omega)]; simp [go_sem]
    have HB1 : Hid (Below w.heap.size w w1) := below_then (hb0 _ _) hb1
    clear hcc hff hb1 hb0
    go_wp2_with fail
    have hb9 : Below w.heap.size w w1.drew := HB1.out.drew
    go_region_held3 (fun w' => Below w.heap.size w w' ∧ w'.cell? ⟨w.heap.size, 0, none⟩ = some (.slice a D.n cap) ∧ w'.cell? ⟨w.heap.size, 1, none⟩ = some (.slice a' D.m cap')) (first | exact keep_sy ‹_› | go_keep)
      (first | (go_at_call 85; refine (loosePlaces_any D.n D.m a a' cap cap' w1.drew hm60).mono ?_; rintro e w2 ⟨vp, cvp, rfl, hb2, hin⟩; obtain ⟨⟨s0, s1, s2⟩, s3, s4, s5, s6⟩ := after_c HB1.out (drew_below hb2) q0 q1 r0 r1 r2 fz) | (go_at_call 84; refine (settle_any D D.m idF a a' vp cap cap' cvp w2 HG.out (by omega) HFI.out (HA.out.below s0) hin).mono ?_; rintro e w3 ⟨ap, cp, rfl, hb3, hop⟩; obtain ⟨⟨t0, t1, t2⟩, t3, t4, t5, t6⟩ := after_c s0 hb3 s1 s2 s3 s4 s5 s6))
    have hz2 : w1.heap.size ≤ w2.heap.size := hb2.size
    have hz3 : w2.heap.size ≤ w3.heap.size := hb3.size
    have HB3 : Hid (Below w.heap.size w w3) := t0
    have HOP : Hid (OwnP w3 w2.heap.size w3.heap.size ap D.n (fun _ => 48) (stl D idF D.m)) := hop
    clear hop hb3 hb2 hin s0 s1 s2 s3 s4 s5 s6 t0 t1 t2 q0 q1 r0 r1 r2 fz hb9
    go_wp2_with fail
    refine bodyPost_ret (v := .agg #[.int .i64 0, .slice ap D.n cp, .slice none 0 0]) (by simp [results, Try.results27, go_sem, *]) rfl ?_
    rw [hf]
    refine ⟨ap, none, cp, 0, rfl, ?_, ?_⟩
    · repeat (first | exact HB3.out | refine Below.setCell ?_ (by first | omega | (simp <;> omega)) _)
    · have hw : ∀ w7, Writes (w.heap.size + 1) (w.heap.size + 2) w3 w7 → w7.heap.size = w3.heap.size → OwnD w7 w.heap.size w7.heap.size ap none (syD D idF D.m) := fun w7 h e => by
        rw [e]
        exact ownD_sy ((HOP.out.writes h (.inr (by omega))).wide (by omega) (Nat.le_refl _) (by omega)) (by omega)
      refine hw _ ?_ (by simp [World.setCell])
      repeat (first | exact Writes.refl _ _ _ | refine Writes.setCell ?_ (by first | omega | (simp <;> omega)) (by first | omega | (simp <;> omega)) _)
  · have hd : (df D != 0) = true := by simpa using hf
    have HNZ : Hid (df D ≠ 0) := hf
    go_enter Try.func27, Try.ntmps27
    go_wp2_with fail
    refine (implDf_any D a a' cap cap' _ HS.out (HA.out.below (hb0 _ _))).mono ?_
    rintro e w1 ⟨rfl, hb1⟩
    obtain ⟨hcc, hff⟩ := bcell hb1
    generalize df D = c at *
    clear hf
    go_wp2_with fail
    refine bodyPost_ret (v := .agg #[.int .i64 c, .slice none 0 0, .slice none 0 0]) (by simp [results, Try.results27, go_sem, hcc]) rfl ?_
    refine dres_bad ?_ HNZ.out
    repeat (first | exact below_then (hb0 _ _) hb1 | refine Below.setCell ?_ (by first | omega | (simp <;> omega)) _)
end Go.Proofs.Ythhhbpkafmcjiaa
